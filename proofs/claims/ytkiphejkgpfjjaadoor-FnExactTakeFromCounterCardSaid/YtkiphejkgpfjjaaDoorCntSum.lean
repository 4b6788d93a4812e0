/- spec.l11Add adds a number to a counter: a contract. -/
import Derived.Test.YtkiphejkgpfjjaaDoorCntPow
import Derived.Test.YtkiphejkgpfjjaaDoorCntCompl
namespace Go.Proofs.YtkiphejkgpfjjaaDoor
open Go.ChangeShapes Go.WideShapes Go.ChangeAt Go.RowKit

attribute [local go_sem] Oper.semAt_some

/-- a counter of one's own, how many carries there were, whether one is left -/
def GivesSum (L : List Int) (m : Int) (b : Bool) (w : World) (e : Ending) (w' : World) : Prop :=
  ∃ g cap ex, e = .returned (.tuple #[.agg #[.slice (some ⟨g, 0, none⟩) L.length cap], .int .i64 m, .bool b]) ∧ w.heap.size ≤ g ∧ Below w.heap.size w w' ∧ Row w' g L ex

theorem digs_step (x : Int) (k : Nat) : digs (k + 1) x = digs k x ++ [x / p10 k % 10] := digs_snoc k x
theorem take_step {xs : List Int} {k : Nat} (h : k < xs.length) : xs.take (k + 1) = xs.take k ++ [xs[k]?.getD 0] := by
  rw [List.take_succ_eq_append_getElem h, List.getElem?_eq_getElem h]
  rfl
theorem take_wheels {xs : List Int} (h : wheelsB xs = true) (k : Nat) : wheelsB (xs.take k) = true := by
  unfold wheelsB at h ⊢
  rw [List.all_eq_true] at h ⊢
  exact fun x hx => h x (List.mem_of_mem_take hx)

set_option maxRecDepth 100000 in
set_option maxHeartbeats 2000000 in
theorem l11Add_any (A : Option Addr) (c : Nat) (xs : List Int) (B p o : Nat) (x : Int) (w : World) (hp : w.cell? ⟨p, o, none⟩ = some (.slice A xs.length c)) (h : Ints w B A xs) (hB : B ≤ w.heap.size) (hw : wheelsB xs = true) (h1 : 1 ≤ xs.length) (hn : xs.length ≤ 12) (x0 : 0 ≤ x) (x1 : x < p10 xs.length) :
    Calls Tryd.prog 39 #[.pointer (some ⟨p, o, none⟩), .int .i64 x] w (GivesSum (addL xs (digs xs.length x) 0) (addM xs (digs xs.length x) 0) (decide (addO xs (digs xs.length x) 0 = 1)) w) := by
  obtain ⟨i0, hi0, hz0, hz1, hz2⟩ := info_parts info_int
  have hx12 : x < 1000000000000 := by have := p10_mono hn; rw [p10_12] at this; omega
  have hdl := digs_length xs.length x
  have hall := addL_length (xs := xs) (ys := digs xs.length x) 0 hdl.symm
  have hob := addO_bounds (xs := xs) (ys := digs xs.length x) (c := 0) hw (digs_wheels _ _) (by omega) (by omega)
  have e2 := below_boxed (below_box w (.cells #[.slice none 0 0] 24)) (.cells #[.slice none 0 0] 24)
  have c0 : ((w.alloc (.cells #[.slice none 0 0] 24)).alloc (.cells #[.slice none 0 0] 24)).cell? ⟨p, o, none⟩ = some (.slice A xs.length c) := cell_kept hp e2
  have r0 : ((w.alloc (.cells #[.slice none 0 0] 24)).alloc (.cells #[.slice none 0 0] 24)).cell? ⟨w.heap.size, 0, none⟩ = some (.slice none 0 0) := by simp [go_sem]
  have g0 : ((w.alloc (.cells #[.slice none 0 0] 24)).alloc (.cells #[.slice none 0 0] 24)).frozen? ⟨w.heap.size, 0, none⟩ = false := by simp [go_sem]
  have o0 : Out ((w.alloc (.cells #[.slice none 0 0] 24)).alloc (.cells #[.slice none 0 0] 24)) ((w.alloc (.cells #[.slice none 0 0] 24)).alloc (.cells #[.slice none 0 0] 24)) (w.heap.size + 1) [] (.slice none 0 0) := Out.start (by simp [go_sem]) (by simp [go_sem])
  have hsz : ((w.alloc (.cells #[.slice none 0 0] 24)).alloc (.cells #[.slice none 0 0] 24)).heap.size = w.heap.size + 2 := by simp
  have hpw : p < w.heap.size := World.block_lt_of_cell? _ _ hp
  have HI := Lib.hid (h.below (e2.mono hB))
  obtain ⟨n, hN⟩ : ∃ n, xs.length = n := ⟨_, rfl⟩
  have hXT : xs.take n = xs := List.take_of_length_le (by omega)
  obtain ⟨R, hR⟩ : ∃ R, addL xs (digs n x) 0 = R := ⟨_, rfl⟩
  obtain ⟨M, hM⟩ : ∃ M, addM xs (digs n x) 0 = M := ⟨_, rfl⟩
  obtain ⟨C, hC⟩ : ∃ C, addO xs (digs n x) 0 = C := ⟨_, rfl⟩
  rw [hN] at c0 h1 hn x1 hall hdl hob ⊢
  rw [hR, hM, hC]
  rw [hR] at hall
  rw [hC] at hob
  have E2 := Lib.hid e2
  have C0 := Lib.hid c0
  have R0 := Lib.hid r0
  have G0 := Lib.hid g0
  have O0 := Lib.hid o0
  have HSZ := Lib.hid hsz
  have HN := Lib.hid hN
  have HW := Lib.hid hw
  have HB := Lib.hid hB
  have HPW := Lib.hid hpw
  have HXT := Lib.hid hXT
  have HR := Lib.hid hR
  have HM := Lib.hid hM
  have HC := Lib.hid hC
  have HAL := Lib.hid hall
  clear e2 c0 r0 g0 o0 hsz hN hw hB hpw hXT hR hM hC hall hp h hdl
  go_enter Tryd.func39, Tryd.ntmps39
  go_wp2
  generalize ((w.alloc (.cells #[.slice none 0 0] 24)).alloc (.cells #[.slice none 0 0] 24)) = w3 at *
  go_loopw [1, 8, 9, 10] (fun q cy mn i wr => ∃ (k : Nat) (v : Value), k ≤ n ∧ i = .int .i64 k ∧ q = .int .i64 (x / p10 k) ∧ cy = .int .i64 (addO (xs.take k) (digs k x) 0) ∧ mn = .int .i64 (addM (xs.take k) (digs k x) 0) ∧ Hid (Out w3 wr (w.heap.size + 1) (addL (xs.take k) (digs k x) 0) v)) (fun _ _ _ i _ => n - (intOf i).toNat)
  case atStart => exact ⟨0, _, Nat.zero_le _, rfl, by simp [p10_zero], rfl, rfl, O0.out⟩
  case round =>
    obtain ⟨k, v, hk, rfl, rfl, rfl, rfl, HO⟩ := hrel
    have q0 := HO.out.cell C0.out (by have := HPW.out; show p ≠ w.heap.size + 1; omega)
    have htl : (xs.take k).length = k := by rw [List.length_take, HN.out]; omega
    have hdk := digs_length k x
    have hlen : (addL (xs.take k) (digs k x) 0).length = k := by rw [addL_length _ (by rw [htl, hdk]), htl]
    by_cases hlt : k < n
    · have hx : k < xs.length := by rw [HN.out]; exact hlt
      obtain ⟨b, off, rfl, hb, hcell⟩ := HI.out (by omega)
      have y0 := hcell k hx
      have hbw : b < w.heap.size := Nat.lt_of_lt_of_le hb HB.out
      have y1 := HO.out.cell y0 (by show b ≠ w.heap.size + 1; omega)
      have hd := wheels_at HW.out k
      have hts := take_step hx
      have hds := digs_step x k
      have hdv := div_p10' x k
      have hll : (xs.take k).length = (digs k x).length := by rw [htl, hdk]
      have hob2 := addO_bounds (xs := xs.take k) (ys := digs k x) (c := 0) (take_wheels HW.out k) (digs_wheels _ _) (by omega) (by omega)
      have hmb2 := addM_bounds (xs := xs.take k) (ys := digs k x) (c := 0) (take_wheels HW.out k) (digs_wheels _ _) (by omega) (by omega)
      rw [htl] at hmb2
      have hsL := addL_snoc (xs[k]?.getD 0) (x / p10 k % 10) 0 hll
      have hsO := addO_snoc (xs[k]?.getD 0) (x / p10 k % 10) 0 hll
      have hsM := addM_snoc (xs[k]?.getD 0) (x / p10 k % 10) 0 hll
      rw [← hts, ← hds] at hsL hsO hsM
      have hq0 : 0 ≤ x / p10 k := Int.ediv_nonneg x0 (by have := p10_pos k; omega)
      have hq1 : x / p10 k ≤ x := Int.ediv_le_self _ x0
      obtain ⟨q, hq⟩ : ∃ q, x / p10 k = q := ⟨_, rfl⟩
      obtain ⟨cy, hcy⟩ : ∃ q, addO (xs.take k) (digs k x) 0 = q := ⟨_, rfl⟩
      obtain ⟨mn, hmn⟩ : ∃ q, addM (xs.take k) (digs k x) 0 = q := ⟨_, rfl⟩
      obtain ⟨d, hdd⟩ : ∃ q, xs[k]?.getD 0 = q := ⟨_, rfl⟩
      rw [hdd] at y1 hd hsL hsO hsM
      rw [hcy] at hob2 hsL hsO hsM ⊢
      rw [hmn] at hmb2 hsM ⊢
      rw [hq] at hsL hsO hsM hq0 hq1 hdv ⊢
      have w1 : q.tmod 10 = q % 10 := Int.tmod_eq_emod_of_nonneg hq0
      have w2 : q.tdiv 10 = q / 10 := Int.tdiv_eq_ediv_of_nonneg hq0
      have w3' : IntKind.i64.wrap (d + q % 10) = d + q % 10 := IntWalk.i64_in _ (by omega)
      have w5 : IntKind.i64.wrap (q % 10) = q % 10 := IntWalk.i64_in _ (by omega)
      have w6 : IntKind.i64.wrap (q / 10) = q / 10 := IntWalk.i64_in _ (by omega)
      obtain ⟨t, ht⟩ : ∃ t, d + q % 10 + cy = t := ⟨_, rfl⟩
      have htb : 0 ≤ t ∧ t ≤ 19 := by omega
      have w4 : IntKind.i64.wrap (d + q % 10 + cy) = t := by rw [ht]; exact IntWalk.i64_in _ (by omega)
      have w7 : t.tmod 10 = t % 10 := Int.tmod_eq_emod_of_nonneg htb.1
      have w8 : t.tdiv 10 = t / 10 := Int.tdiv_eq_ediv_of_nonneg htb.1
      have w9 : IntKind.i64.wrap (t % 10) = t % 10 := IntWalk.i64_in _ (by omega)
      have w10 : IntKind.i64.wrap (t / 10) = t / 10 := IntWalk.i64_in _ (by omega)
      have w11 : IntKind.i64.wrap (mn + t / 10) = mn + t / 10 := IntWalk.i64_in _ (by omega)
      rw [ht] at hsL hsO hsM
      obtain ⟨y, hy⟩ : ∃ y, t % 10 = y := ⟨_, rfl⟩
      rw [hy] at w7 w9 hsL
      have HSL := Lib.hid hsL
      have HSO := Lib.hid hsO
      have HSM := Lib.hid hsM
      have HDV := Lib.hid hdv
      have b0 := HO.out.box
      have f0 := HO.out.fz
      have HOW := HO.out.own
      rw [hlen] at HOW
      have HOWN := Lib.hid HOW
      have HLEN := Lib.hid hlen
      have j0 : (0 : Int) ≤ (k : Int) := Int.natCast_nonneg _
      have j1 : (k : Int) < (n : Int) := by omega
      clear hcell hsL hsO hsM hdv hts hds hll hob2 hmb2 hq hcy hmn hdd y0 hx HOW hlen hbw hd ht hy htl hdk
      go_wp2_with (at_builtin; refine wpList_append_own _ rfl _ _ 22 rfl w3.heap.size 2 i0 (.int .i64 0) 1 8 Tryd.underlying22 hi0 hz0 hz1 hz2 rfl (by decide) _ _ _ rfl (HOWN.out.alloc _) ⟨wr.heap.size, 0, none⟩ 1 1 [.int .i64 y] rfl rfl ?c1 ?c2 ?c3 ?c4 ?c5 ?_; rotate_left 5; intro v' w9 hown hgrow _; obtain ⟨gq, cq, rfl⟩ := int_shape hown (Nat.succ_pos _); obtain ⟨hm, b9, f9⟩ := HO.out.more (x := y) (by rw [HLEN.out]; exact hown) hgrow; have HMO := Lib.hid hm; clear hown hgrow hm)
      case c1 => exact one_news _ y
      case c2 => exact one_cell y
      case c3 => unfold maxLen; show k + 1 ≤ _; omega
      case c4 => omega
      case c5 => first | (have := HO.out.size; omega) | (have := HO.out.size; simp; omega)
      go_roundw
      case rel => exact ⟨k + 1, _, by omega, by go_num, by rw [HDV.out], by rw [HSO.out], by rw [HSM.out], by show Out _ _ _ _ _; rw [HSL.out]; exact HMO.out⟩
      case measure => first | (simp [intOf]; done) | (simp [intOf]; omega)
    · obtain rfl : k = n := by omega
      have ho := HO.out
      rw [HXT.out, HR.out] at ho
      rw [HXT.out, HC.out, HM.out]
      obtain ⟨g, cap, ex, hv, hg, hr⟩ := ho.row (by rw [HAL.out]; omega)
      rw [HAL.out] at hv
      subst hv
      have b0 := HO.out.box
      have r1 := HO.out.cell R0.out (by show w.heap.size ≠ w.heap.size + 1; omega)
      have f1 := HO.out.frozen R0.out G0.out (by show w.heap.size ≠ w.heap.size + 1; omega)
      have BB := Lib.hid (HO.out.below E2.out (by omega))
      have HRW := Lib.hid hr
      have hg3 : w.heap.size + 2 ≤ g := by have := HSZ.out; omega
      have j1 : ¬ (k : Int) < (k : Int) := by omega
      have hc01 : C = 0 ∨ C = 1 := by omega
      clear ho hlen hr hg
      rcases hc01 with hc | hc
      · subst hc
        go_wp2
        refine bodyPost_ret (v := .tuple #[.agg #[.slice (some ⟨g, 0, none⟩) k cap], .int .i64 M, .bool false]) (by simp [results, Tryd.results39, go_sem, r1]) rfl ⟨g, cap, ex, by rw [HAL.out], by omega, BB.out.setCell (by simp) _, ?_⟩
        exact HRW.out.far (by simp; omega) _
      · subst hc
        go_wp2
        refine bodyPost_ret (v := .tuple #[.agg #[.slice (some ⟨g, 0, none⟩) k cap], .int .i64 M, .bool true]) (by simp [results, Tryd.results39, go_sem, r1]) rfl ⟨g, cap, ex, by rw [HAL.out], by omega, BB.out.setCell (by simp) _, ?_⟩
        exact HRW.out.far (by simp; omega) _

end Go.Proofs.YtkiphejkgpfjjaaDoor
