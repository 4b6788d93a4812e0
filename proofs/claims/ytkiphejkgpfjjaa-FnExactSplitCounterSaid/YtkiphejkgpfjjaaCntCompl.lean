/- spec.ComplementOf and impl.ComplementOf give the counter with the complement of each digit, or the code, for every counter of at most 1048576 digits: contracts. -/
import Derived.Test.YtkiphejkgpfjjaaCntOut
namespace Go.Proofs.Ytkiphejkgpfjjaa
open Go.ChangeShapes Go.WideShapes Go.ChangeAt Go.RowKit

/-- the answer of ComplementOf -/
def compA (xs : List Int) : List Int := if okK xs = true then compL xs else []
/-- the code of a function that asks only for a valid counter -/
def okC (xs : List Int) : Int := if okK xs = true then 0 else 1
theorem compA_length {xs : List Int} (hm : xs.length ≤ 1048576) : (compA xs).length ≤ 1048576 := by
  unfold compA
  split
  · rw [compL_length]; exact hm
  · simp
theorem comp_take {xs : List Int} {k : Nat} (h : k < xs.length) : (compL xs).take (k + 1) = (compL xs).take k ++ [9 - xs[k]?.getD 0] := by
  rw [List.take_succ_eq_append_getElem (by rw [compL_length]; exact h), List.getElem?_eq_getElem h]
  simp [compL]
theorem GivesK1.kc {ys : List Int} {w w' : World} {g cap : Nat} {ex : List Value} (hg : w.heap.size ≤ g) (hr : Row w' g ys ex) : IAt w' w.heap.size w'.heap.size (some ⟨g, 0, none⟩) ys :=
  ⟨fun _ => ⟨g, ex, rfl, hg, hr.lt, hr⟩, Nat.le_refl _⟩

set_option maxRecDepth 100000 in
set_option maxHeartbeats 1000000 in
theorem specCompl_any (A : Option Addr) (c : Nat) (xs : List Int) (B : Nat) (w : World) (h : Ints w B A xs) (hB : B ≤ w.heap.size) (hn : xs.length ≤ 1048576) :
    Calls Try.prog 18 #[.agg #[.slice A xs.length c]] w (GivesKC (compA xs) (okC xs) w) := by
  obtain ⟨i0, hi0, hz0, hz1, hz2⟩ := info_parts info_int
  have e1 := below_box w (.cells #[.slice A xs.length c] 27)
  have e2 := below_boxed e1 (.cells #[.slice none 0 0] 27)
  have hc := l11Ok_any A c xs B w.heap.size 0 ((w.alloc (.cells #[.slice A xs.length c] 27)).alloc (.cells #[.slice none 0 0] 27)) (by simp [go_sem]) (h.below (e2.mono hB)) hn
  cases hv : okK xs
  · rw [hv] at hc
    have ea : compA xs = [] := by simp [compA, hv]
    have ec : okC xs = 1 := by simp [okC, hv]
    rw [ea, ec]
    obtain ⟨n, hN⟩ : ∃ n, xs.length = n := ⟨_, rfl⟩
    rw [hN] at hc e1 e2 ⊢
    have HC := Lib.hid hc
    have E2 := Lib.hid e2
    clear hc e1 e2 hv ea ec h hN hn hi0 hz0 hz1 hz2
    go_enter Try.func18, Try.ntmps18
    go_wp2_with (go_at_call 27; refine HC.out.mono ?_; rintro e w1 ⟨rfl, rfl⟩)
    exact bodyPost_ret (v := .tuple #[.agg #[.slice none 0 0], .int .i64 1]) (by simp [results, Try.results18, go_sem]) rfl ⟨none, 0, rfl, E2.out, IAt.nil (Nat.le_refl _)⟩
  · rw [hv] at hc
    have ea : compA xs = compL xs := by simp [compA, hv]
    have ec : okC xs = 0 := by simp [okC, hv]
    obtain ⟨hw, h1, h12⟩ := okK_parts hv
    rw [ea, ec]
    have hcl := compL_length xs
    obtain ⟨n, hN⟩ : ∃ n, xs.length = n := ⟨_, rfl⟩
    rw [hN] at hc e1 e2 hcl h1 h12 ⊢
    have e3 := below_boxed e2 (.cells #[.slice none 0 0] 27)
    have c0 : (((w.alloc (.cells #[.slice A n c] 27)).alloc (.cells #[.slice none 0 0] 27)).alloc (.cells #[.slice none 0 0] 27)).cell? ⟨w.heap.size, 0, none⟩ = some (.slice A n c) := by simp [go_sem]
    have r0 : (((w.alloc (.cells #[.slice A n c] 27)).alloc (.cells #[.slice none 0 0] 27)).alloc (.cells #[.slice none 0 0] 27)).cell? ⟨w.heap.size + 1, 0, none⟩ = some (.slice none 0 0) := by simp [go_sem]
    have g0 : (((w.alloc (.cells #[.slice A n c] 27)).alloc (.cells #[.slice none 0 0] 27)).alloc (.cells #[.slice none 0 0] 27)).frozen? ⟨w.heap.size + 1, 0, none⟩ = false := by simp [go_sem]
    have o0 : Out (((w.alloc (.cells #[.slice A n c] 27)).alloc (.cells #[.slice none 0 0] 27)).alloc (.cells #[.slice none 0 0] 27)) (((w.alloc (.cells #[.slice A n c] 27)).alloc (.cells #[.slice none 0 0] 27)).alloc (.cells #[.slice none 0 0] 27)) (w.heap.size + 2) [] (.slice none 0 0) := Out.start (by simp [go_sem]) (by simp [go_sem])
    have hsz : (((w.alloc (.cells #[.slice A n c] 27)).alloc (.cells #[.slice none 0 0] 27)).alloc (.cells #[.slice none 0 0] 27)).heap.size = w.heap.size + 3 := by simp
    have HI := Lib.hid (h.below (e3.mono hB))
    have HC := Lib.hid hc
    have E3 := Lib.hid e3
    have C0 := Lib.hid c0
    have R0 := Lib.hid r0
    have G0 := Lib.hid g0
    have O0 := Lib.hid o0
    have HSZ := Lib.hid hsz
    have HN := Lib.hid hN
    have HW := Lib.hid hw
    have HCL := Lib.hid hcl
    have HBw := Lib.hid hB
    clear hc e1 e2 e3 hv ea ec h hN hw hcl c0 r0 g0 o0 hsz hn hB
    go_enter Try.func18, Try.ntmps18
    go_wp2_with (go_at_call 27; refine HC.out.mono ?_; rintro e w1 ⟨rfl, rfl⟩)
    generalize (((w.alloc (.cells #[.slice A n c] 27)).alloc (.cells #[.slice none 0 0] 27)).alloc (.cells #[.slice none 0 0] 27)) = w3 at *
    go_loopw [5] (fun i wr => ∃ (k : Nat) (v : Value), k ≤ n ∧ i = .int .i64 k ∧ Hid (Out w3 wr (w.heap.size + 2) ((compL xs).take k) v)) (fun i _ => n - (intOf i).toNat)
    case atStart => exact ⟨0, _, Nat.zero_le _, rfl, O0.out⟩
    case round =>
      obtain ⟨k, v, hk, rfl, HO⟩ := hrel
      have q0 := HO.out.cell C0.out (by show w.heap.size ≠ w.heap.size + 2; omega)
      have hlen : ((compL xs).take k).length = k := by rw [List.length_take, HCL.out]; omega
      by_cases hlt : k < n
      · have hx : k < xs.length := by rw [HN.out]; exact hlt
        obtain ⟨b, off, rfl, hb, hcell⟩ := HI.out (by omega)
        have x0 := hcell k hx
        have hbw : b < w.heap.size := Nat.lt_of_lt_of_le hb HBw.out
        have x1 := HO.out.cell x0 (by show b ≠ w.heap.size + 2; omega)
        have hst := comp_take hx
        have hd := wheels_at HW.out k
        obtain ⟨x, hxx⟩ : ∃ x, xs[k]?.getD 0 = x := ⟨_, rfl⟩
        rw [hxx] at x1 hst hd
        have w9 : IntKind.i64.wrap (9 - x) = 9 - x := IntWalk.i64_in _ (by omega)
        obtain ⟨y, hy⟩ : ∃ y, 9 - x = y := ⟨_, rfl⟩
        rw [hy] at hst w9
        have HST := Lib.hid hst
        have b0 := HO.out.box
        have f0 := HO.out.fz
        have HOD := Lib.hid HO.out.drew
        have HOW := HO.out.own
        rw [hlen] at HOW
        have HOWN := Lib.hid HOW
        have HLEN := Lib.hid hlen
        have hl3 : Hid (w3.heap.size ≤ (wr.alloc (.cells #[.int .i64 y] 2)).heap.size) := by show _ ≤ _; have := HO.out.size; simp; omega
        have h63 : k + 1 ≤ maxLen := by unfold maxLen; omega
        have h8 : (k + 1) * 8 ≤ 140737488355328 := by omega
        have ba := cell_kept b0 (below_box wr (.cells #[.int .i64 y] 2))
        have qa := cell_kept q0 (below_box wr (.cells #[.int .i64 y] 2))
        have j0 : (0 : Int) ≤ (k : Int) := Int.natCast_nonneg _
        have j1 : (k : Int) < (n : Int) := by omega
        clear hcell hxx hst hd x0 hx HOW hlen hbw
        go_wp2
        go_region_law (first
          | (refine step_append_own _ rfl _ _ 22 rfl w3.heap.size 2 i0 (.int .i64 0) 1 8 Try.underlying22 hi0 hz0 hz1 hz2 rfl (by decide) _ _ _ rfl (own_drew (HOWN.out.alloc _)) ⟨wr.heap.size, 0, none⟩ 1 1 [.int .i64 y] rfl rfl (one_news _ y) (one_cell y) h63 h8 hl3.out ?_; intro v' w9 hown hgrow' _; obtain ⟨gq, cq, rfl⟩ := int_shape hown (Nat.succ_pos _); have hgrow : (wr.drew.alloc (.cells #[.int .i64 y] 2)).grownBy w9 v.ownBlock := hgrow'; obtain ⟨hm, b9, f9⟩ := HOD.out.more (x := y) (by rw [HLEN.out]; exact hown) hgrow; have HM := Lib.hid hm; clear hown hgrow hgrow' hm))
        all_goals
          go_wp2
          go_roundw
          case rel => exact ⟨k + 1, _, by omega, by go_num, by show Out _ _ _ _ _; rw [HST.out]; exact HM.out⟩
          case measure => simp [intOf]; omega
      · obtain rfl : k = n := by omega
        have hl0 : (compL xs).take k = compL xs := List.take_of_length_le (by rw [HCL.out]; exact Nat.le_refl _)
        have ho := HO.out
        rw [hl0] at ho
        obtain ⟨g, cap, ex, hv, hg, hr⟩ := ho.row (by rw [HCL.out]; omega)
        rw [HCL.out] at hv
        subst hv
        have b0 := HO.out.box
        have r1 := HO.out.cell R0.out (by show w.heap.size + 1 ≠ w.heap.size + 2; omega)
        have f1 := HO.out.frozen R0.out G0.out (by show w.heap.size + 1 ≠ w.heap.size + 2; omega)
        have BB := Lib.hid (HO.out.below E3.out (by omega))
        have HR := Lib.hid hr
        have hg3 : w.heap.size + 3 ≤ g := by have := HSZ.out; omega
        have j1 : ¬ (k : Int) < (k : Int) := by omega
        clear ho hl0 hlen hr hg
        go_wp2
        refine bodyPost_ret (v := .tuple #[.agg #[.slice (some ⟨g, 0, none⟩) k cap], .int .i64 0]) (by simp [results, Try.results18, go_sem, r1]) rfl ⟨some ⟨g, 0, none⟩, cap, by rw [HCL.out], BB.out.setCell (by simp) _, ?_⟩
        exact GivesK1.kc (cap := cap) (by omega) (HR.out.far (by simp; omega) _)

set_option maxRecDepth 100000 in
set_option maxHeartbeats 1000000 in
theorem implCompl_any (A : Option Addr) (c : Nat) (xs : List Int) (B : Nat) (w : World) (h : Ints w B A xs) (hB : B ≤ w.heap.size) (hn : xs.length ≤ 1048576) :
    Calls Try.prog 19 #[.agg #[.slice A xs.length c]] w (GivesKC (compA xs) (okC xs) w) := by
  have e1 := below_box w (.cells #[.slice A xs.length c] 27)
  have e2 := below_boxed e1 (.cells #[.slice none 0 0] 27)
  have hc := implValidCounter_any A c xs B ((w.alloc (.cells #[.slice A xs.length c] 27)).alloc (.cells #[.slice none 0 0] 27)) (h.below (e2.mono hB)) (Nat.le_trans hB e2.size) hn
  have c0 : ((w.alloc (.cells #[.slice A xs.length c] 27)).alloc (.cells #[.slice none 0 0] 27)).cell? ⟨w.heap.size, 0, none⟩ = some (.slice A xs.length c) := by simp [go_sem]
  have r0 : ((w.alloc (.cells #[.slice A xs.length c] 27)).alloc (.cells #[.slice none 0 0] 27)).cell? ⟨w.heap.size + 1, 0, none⟩ = some (.slice none 0 0) := by simp [go_sem]
  have g0 : ((w.alloc (.cells #[.slice A xs.length c] 27)).alloc (.cells #[.slice none 0 0] 27)).frozen? ⟨w.heap.size + 1, 0, none⟩ = false := by simp [go_sem]
  cases hv : okK xs
  · rw [hv] at hc
    have ea : compA xs = [] := by simp [compA, hv]
    have ec : okC xs = 1 := by simp [okC, hv]
    rw [ea, ec]
    obtain ⟨n, hN⟩ : ∃ n, xs.length = n := ⟨_, rfl⟩
    rw [hN] at hc e1 e2 c0 r0 g0 ⊢
    have HC := Lib.hid hc
    have E2 := Lib.hid e2
    have R0 := Lib.hid r0
    have G0 := Lib.hid g0
    clear hc e1 e2 hv ea ec h hN hn c0 r0 g0
    go_enter Try.func19, Try.ntmps19
    go_wp2_with fail
    refine HC.out.mono ?_
    rintro e w1 ⟨rfl, hb⟩
    have r1 := cell_kept R0.out hb
    have f1 := frozen_kept R0.out G0.out hb
    have BB := Lib.hid (below_step E2.out hb)
    clear hb
    go_wp2
    exact bodyPost_ret (v := .tuple #[.agg #[.slice none 0 0], .int .i64 1]) (by simp [results, Try.results19, go_sem, r1]) rfl ⟨none, 0, rfl, BB.out.setCell (by simp) _, IAt.nil (Nat.le_refl _)⟩
  · rw [hv] at hc
    have ea : compA xs = compL xs := by simp [compA, hv]
    have ec : okC xs = 0 := by simp [okC, hv]
    obtain ⟨hw, h1, h12⟩ := okK_parts hv
    rw [ea, ec]
    have hcl := compL_length xs
    have hrg := fun W (hW : Below w.heap.size w W) => registerOf_any A c xs B W (h.below (hW.mono hB)) (Nat.le_trans hB hW.size) hw h12
    have hcm := fun W => regComplement_any xs W hw h12
    have hct := fun W => regCounter_any (compL xs) W (compL_wheels hw) (by rw [compL_length]; exact h12)
    rw [hcl] at hct
    unfold GivesReg at hrg hcm
    unfold GivesK1 at hct
    rw [hcl] at hct
    obtain ⟨v1, hv1⟩ : ∃ v, regV (reg12 xs) xs.length = v := ⟨_, rfl⟩
    obtain ⟨v2, hv2⟩ : ∃ v, regV (reg12 (compL xs)) xs.length = v := ⟨_, rfl⟩
    rw [hv1] at hrg hcm
    rw [hv2] at hcm hct
    obtain ⟨n, hN⟩ : ∃ n, xs.length = n := ⟨_, rfl⟩
    rw [hN] at hc e1 e2 c0 r0 g0 hrg hct hcl ⊢
    have HC := Lib.hid hc
    have HRG := Lib.hid hrg
    have HCM := Lib.hid hcm
    have HCT := Lib.hid hct
    have HCL := Lib.hid hcl
    have E2 := Lib.hid e2
    have C0 := Lib.hid c0
    have R0 := Lib.hid r0
    have G0 := Lib.hid g0
    clear hc e1 e2 hv ea ec h hN hn c0 r0 g0 hrg hcm hct hcl hv1 hv2 hw h1 h12
    go_enter Try.func19, Try.ntmps19
    go_wp2_with fail
    refine HC.out.mono ?_
    rintro e w1 ⟨rfl, hb⟩
    have r1 := cell_kept R0.out hb
    have f1 := frozen_kept R0.out G0.out hb
    have c1 := cell_kept C0.out hb
    have BB1 := Lib.hid (below_step E2.out hb)
    clear hb
    go_wp2_with fail
    refine (HRG.out _ BB1.out).mono ?_
    rintro e w2 ⟨rfl, hb⟩
    have r2 := cell_kept r1 hb
    have f2 := frozen_kept r1 f1 hb
    have BB2 := Lib.hid (below_step BB1.out hb)
    clear hb c1 r1 f1
    go_wp2_with fail
    refine (HCM.out _).mono ?_
    rintro e w3 ⟨rfl, hb⟩
    have r3 := cell_kept r2 hb
    have f3 := frozen_kept r2 f2 hb
    have BB3 := Lib.hid (below_step BB2.out hb)
    clear hb r2 f2
    go_wp2_with fail
    refine (HCT.out _).mono ?_
    rintro e w4 ⟨g, cap, ex, rfl, hg, hb, hr⟩
    have r4 := cell_kept r3 hb
    have f4 := frozen_kept r3 f3 hb
    have BB4 := Lib.hid (below_step BB3.out hb)
    have HR := Lib.hid hr
    have hg' : w.heap.size + 2 ≤ g := by
      have t1 := World.block_lt_of_cell? _ _ r3
      have t2 : w.heap.size + 1 < w3.heap.size := t1
      omega
    clear hb hr hg r3 f3
    go_wp2
    refine bodyPost_ret (v := .tuple #[.agg #[.slice (some ⟨g, 0, none⟩) n cap], .int .i64 0]) (by simp [results, Try.results19, go_sem, r4]) rfl ⟨some ⟨g, 0, none⟩, cap, by rw [HCL.out], BB4.out.setCell (by simp) _, ?_⟩
    exact GivesK1.kc (cap := cap) (by omega) (HR.out.far (by simp; omega) _)

end Go.Proofs.Ytkiphejkgpfjjaa
