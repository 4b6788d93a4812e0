/- spec.l11Take and spec.TakeFromCounter: contracts, for every counter of at most 1048576 digits and every number. -/
import Derived.Test.YtkiphejkgpfjjaaDoorCntSumS
namespace Go.Proofs.YtkiphejkgpfjjaaDoor
open Go.ChangeShapes Go.WideShapes Go.ChangeAt Go.RowKit

/-- a counter of one's own, and whether a carry is left -/
def GivesTake (L : List Int) (b : Bool) (w : World) (e : Ending) (w' : World) : Prop :=
  ∃ g cap ex, e = .returned (.tuple #[.agg #[.slice (some ⟨g, 0, none⟩) L.length cap], .bool b]) ∧ w.heap.size ≤ g ∧ Below w.heap.size w w' ∧ Row w' g L ex

set_option maxHeartbeats 1000000 in
theorem l11Take_any (A : Option Addr) (c : Nat) (xs : List Int) (B p o : Nat) (x : Int) (w : World) (hp : w.cell? ⟨p, o, none⟩ = some (.slice A xs.length c)) (h : Ints w B A xs) (hB : B ≤ w.heap.size) (hw : wheelsB xs = true) (h1 : 1 ≤ xs.length) (hn : xs.length ≤ 12) (x0 : 0 ≤ x) (x1 : x < p10 xs.length) :
    Calls Tryd.prog 42 #[.pointer (some ⟨p, o, none⟩), .int .i64 x] w (GivesTake (aroundL xs (compL (digs xs.length x))) (decide (addO xs (compL (digs xs.length x)) 0 = 1)) w) := by
  have e1 := below_box w (.cells #[.slice none 0 0] 24)
  have c0 := cell_kept hp e1
  have r0 : (w.alloc (.cells #[.slice none 0 0] 24)).cell? ⟨w.heap.size, 0, none⟩ = some (.slice none 0 0) := by simp [go_sem]
  have g0 : (w.alloc (.cells #[.slice none 0 0] 24)).frozen? ⟨w.heap.size, 0, none⟩ = false := by simp [go_sem]
  have h' := h.below (e1.mono hB)
  have hni := l11Nines_any A c xs.length x p o _ c0 hn x0 x1
  have hsu := l11Add_any A c xs B p o (p10 xs.length - 1 - x) _ c0 h' (Nat.le_trans hB e1.size) hw h1 hn (by omega) (by omega)
  rw [comp_digs x0 x1] at hsu
  have hcl : (compL (digs xs.length x)).length = xs.length := by rw [compL_length, digs_length]
  have hal := addL_length (xs := xs) (ys := compL (digs xs.length x)) 0 hcl.symm
  have har := aroundL_length (xs := xs) (ys := compL (digs xs.length x)) hcl.symm
  have hp10 : (1 : Int) < p10 xs.length := by have := p10_mono h1; rw [show p10 1 = 10 by decide] at this; omega
  obtain ⟨Y, hY⟩ : ∃ Y, compL (digs xs.length x) = Y := ⟨_, rfl⟩
  rw [hY] at hsu hal har ⊢
  by_cases hc : addO xs Y 0 = 1
  · have ha : aroundL xs Y = addL (addL xs Y 0) (digs xs.length 1) 0 := if_pos hc
    have hd : decide (addO xs Y 0 = 1) = true := by simp [hc]
    have h2 := fun (g cap : Nat) (ex : List Value) (q : Nat) (W : World) (hq : W.cell? ⟨q, 0, none⟩ = some (.slice (some ⟨g, 0, none⟩) (addL xs Y 0).length cap)) (hr : Row W g (addL xs Y 0) ex) => l11Add_any (some ⟨g, 0, none⟩) cap (addL xs Y 0) (g + 1) q 0 1 W hq hr.ints hr.lt addL_wheels (by rw [hal]; exact h1) (by rw [hal]; exact hn) (by omega) (by rw [hal]; exact hp10)
    rw [hal, ← ha] at h2
    rw [hd] at hsu ⊢
    obtain ⟨R, hR⟩ : ∃ R, addL xs Y 0 = R := ⟨_, rfl⟩
    obtain ⟨M, hM⟩ : ∃ M, addM xs Y 0 = M := ⟨_, rfl⟩
    obtain ⟨R2, hR2⟩ : ∃ R, aroundL xs Y = R := ⟨_, rfl⟩
    rw [hR, hM] at hsu
    rw [hR] at hal
    rw [hR2] at har ⊢
    simp only [hR, hR2] at h2
    obtain ⟨n, hN⟩ : ∃ n, xs.length = n := ⟨_, rfl⟩
    rw [hN] at hni hsu h2 hal har
    obtain ⟨z, hz⟩ : ∃ z, p10 n - 1 - x = z := ⟨_, rfl⟩
    rw [hz] at hni hsu
    have HNI := Lib.hid hni
    have HS := Lib.hid hsu
    have H2 := Lib.hid h2
    have E1 := Lib.hid e1
    have R0 := Lib.hid r0
    have G0 := Lib.hid g0
    have HAL := Lib.hid hal
    have HAR := Lib.hid har
    clear hni hsu h2 e1 c0 r0 g0 hal har hp h h' hY hR hM hR2 hN hz ha hd hc hcl hw h1 hn x0 x1 hp10
    go_enter Tryd.func42, Tryd.ntmps42
    go_wp2_with (first
      | (go_at_call 45; refine HNI.out.mono ?_; rintro e w1 ⟨rfl, rfl⟩)
      | fail)
    refine HS.out.mono ?_
    rintro e w1 ⟨g, cap, ex, rfl, hg, hb, hr⟩
    have r1 := cell_kept R0.out hb
    have f1 := frozen_kept R0.out G0.out hb
    have bx := below_box w1 (.cells #[.slice (some ⟨g, 0, none⟩) R.length cap] 24)
    have r2 := cell_kept r1 bx
    have f2 := frozen_kept r1 f1 bx
    have HB1 := Lib.hid (below_boxed (below_step E1.out hb) (.cells #[.slice (some ⟨g, 0, none⟩) R.length cap] 24))
    have HR := Lib.hid (hr.alloc (.cells #[.slice (some ⟨g, 0, none⟩) R.length cap] 24))
    have t0 : (w1.alloc (.cells #[.slice (some ⟨g, 0, none⟩) R.length cap] 24)).cell? ⟨w1.heap.size, 0, none⟩ = some (.slice (some ⟨g, 0, none⟩) R.length cap) := by simp [go_sem]
    have t1 : (w1.alloc (.cells #[.slice (some ⟨g, 0, none⟩) R.length cap] 24)).frozen? ⟨w1.heap.size, 0, none⟩ = false := by simp [go_sem]
    have hlt : w.heap.size < w1.heap.size := World.block_lt_of_cell? _ _ r1
    rw [HAL.out] at *
    have T0 := Lib.hid t0
    have T1 := Lib.hid t1
    have R2' := Lib.hid r2
    have F2 := Lib.hid f2
    have HLT := Lib.hid hlt
    clear hb hr hg r1 f1 bx r2 f2 t0 t1 hlt
    go_wp2_with fail
    refine (H2.out g cap ex w1.heap.size _ T0.out HR.out).mono ?_
    rintro e w2 ⟨g2, cap2, ex2, rfl, hg2, hb2, hr2⟩
    have r3 := cell_kept R2'.out hb2
    have f3 := frozen_kept R2'.out F2.out hb2
    have t3 := cell_kept T0.out hb2
    have v3 := frozen_kept T0.out T1.out hb2
    have HB2 := Lib.hid (below_step HB1.out hb2)
    have HR2 := Lib.hid hr2
    have HG2 : Hid (w1.heap.size < g2) := by show _ < _; simp at hg2; omega
    have hne : Hid (w.heap.size ≠ w1.heap.size) := Nat.ne_of_lt HLT.out
    have r4 : (w2.setCell ⟨w1.heap.size, 0, none⟩ (.slice (some ⟨g2, 0, none⟩) R2.length cap2)).cell? ⟨w.heap.size, 0, none⟩ = some (.slice none 0 0) := by
      rw [World.cell?_setCell_other _ _ _ _ (by intro hh; have := congrArg Addr.block hh; exact hne.out this.symm)]; exact r3
    have f4 : (w2.setCell ⟨w1.heap.size, 0, none⟩ (.slice (some ⟨g2, 0, none⟩) R2.length cap2)).frozen? ⟨w.heap.size, 0, none⟩ = false := (World.frozen?_setCell _ _ _ _).trans f3
    have t4 : (w2.setCell ⟨w1.heap.size, 0, none⟩ (.slice (some ⟨g2, 0, none⟩) R2.length cap2)).cell? ⟨w1.heap.size, 0, none⟩ = some (.slice (some ⟨g2, 0, none⟩) R2.length cap2) := cell_put t3 _
    clear hb2 hr2 hg2
    go_wp2
    refine bodyPost_ret (v := .tuple #[.agg #[.slice (some ⟨g2, 0, none⟩) R2.length cap2], .bool true]) (by simp [results, Tryd.results42, go_sem, r4]) rfl ⟨g2, cap2, ex2, rfl, by have := HLT.out; have := HG2.out; omega, (HB2.out.setCell (by have := HLT.out; show w.heap.size ≤ w1.heap.size; omega) _).setCell (Nat.le_refl _) _, ?_⟩
    exact (HR2.out.far (by have := HG2.out; show g2 ≠ w1.heap.size; omega) _).far (by have := HG2.out; have := HLT.out; show g2 ≠ w.heap.size; omega) _
  · have ha : aroundL xs Y = addL xs Y 0 := if_neg hc
    have hd : decide (addO xs Y 0 = 1) = false := by simp [hc]
    rw [hd] at hsu ⊢
    rw [ha]
    obtain ⟨R, hR⟩ : ∃ R, addL xs Y 0 = R := ⟨_, rfl⟩
    obtain ⟨M, hM⟩ : ∃ M, addM xs Y 0 = M := ⟨_, rfl⟩
    rw [hR, hM] at hsu
    rw [hR] at hal ⊢
    obtain ⟨n, hN⟩ : ∃ n, xs.length = n := ⟨_, rfl⟩
    rw [hN] at hni hsu hal
    obtain ⟨z, hz⟩ : ∃ z, p10 n - 1 - x = z := ⟨_, rfl⟩
    rw [hz] at hni hsu
    have HNI := Lib.hid hni
    have HS := Lib.hid hsu
    have E1 := Lib.hid e1
    have R0 := Lib.hid r0
    have G0 := Lib.hid g0
    have HAL := Lib.hid hal
    clear hni hsu e1 c0 r0 g0 hal har hp h h' hY hR hM hN hz ha hd hc hcl hw h1 hn x0 x1 hp10
    go_enter Tryd.func42, Tryd.ntmps42
    go_wp2_with (first
      | (go_at_call 45; refine HNI.out.mono ?_; rintro e w1 ⟨rfl, rfl⟩)
      | fail)
    refine HS.out.mono ?_
    rintro e w1 ⟨g, cap, ex, rfl, hg, hb, hr⟩
    have r1 := cell_kept R0.out hb
    have f1 := frozen_kept R0.out G0.out hb
    have bx := below_box w1 (.cells #[.slice (some ⟨g, 0, none⟩) R.length cap] 24)
    have r2 := cell_kept r1 bx
    have f2 := frozen_kept r1 f1 bx
    have HB1 := Lib.hid (below_boxed (below_step E1.out hb) (.cells #[.slice (some ⟨g, 0, none⟩) R.length cap] 24))
    have HR := Lib.hid (hr.alloc (.cells #[.slice (some ⟨g, 0, none⟩) R.length cap] 24))
    have hgg : Hid (w.heap.size < g) := by show _ < _; simp at hg; omega
    clear hb hr hg bx
    go_wp2
    refine bodyPost_ret (v := .tuple #[.agg #[.slice (some ⟨g, 0, none⟩) R.length cap], .bool false]) (by simp [results, Tryd.results42, go_sem, r2]) rfl ⟨g, cap, ex, rfl, by have := hgg.out; omega, HB1.out.setCell (Nat.le_refl _) _, ?_⟩
    exact HR.out.far (by have := hgg.out; show g ≠ w.heap.size; omega) _

set_option maxHeartbeats 1000000 in
theorem specTakeK_any (A : Option Addr) (c : Nat) (xs : List Int) (B : Nat) (x : Int) (w : World) (h : Ints w B A xs) (hB : B ≤ w.heap.size) (hn : xs.length ≤ 1048576) :
    Calls Tryd.prog 18 #[.agg #[.slice A xs.length c], .int .i64 x] w (GivesKB (takeKA xs x) (takeKU xs x) (numC xs x) w) := by
  have e1 := below_box w (.cells #[.slice A xs.length c] 24)
  have e2 := below_boxed e1 (.cells #[.slice none 0 0] 24)
  have c0 : ((w.alloc (.cells #[.slice A xs.length c] 24)).alloc (.cells #[.slice none 0 0] 24)).cell? ⟨w.heap.size, 0, none⟩ = some (.slice A xs.length c) := by simp [go_sem]
  have r0 : ((w.alloc (.cells #[.slice A xs.length c] 24)).alloc (.cells #[.slice none 0 0] 24)).cell? ⟨w.heap.size + 1, 0, none⟩ = some (.slice none 0 0) := by simp [go_sem]
  have g0 : ((w.alloc (.cells #[.slice A xs.length c] 24)).alloc (.cells #[.slice none 0 0] 24)).frozen? ⟨w.heap.size + 1, 0, none⟩ = false := by simp [go_sem]
  have hsz : ((w.alloc (.cells #[.slice A xs.length c] 24)).alloc (.cells #[.slice none 0 0] 24)).heap.size = w.heap.size + 2 := by simp
  have h' := h.below (e2.mono hB)
  have hc := l11Code_any A c xs B w.heap.size 0 x _ c0 h' hn
  by_cases e0 : numC xs x = 0
  · obtain ⟨hw, h1, h12, x0, x1⟩ := numC_zero e0
    have hs := l11Take_any A c xs B w.heap.size 0 x _ c0 h' (Nat.le_trans hB e2.size) hw h1 h12 x0 x1
    have ea : takeKA xs x = aroundL xs (compL (digs xs.length x)) := if_pos e0
    have eu : takeKU xs x = decide (addO xs (compL (digs xs.length x)) 0 = 1) := if_pos e0
    rw [ea, eu]
    rw [e0] at hc ⊢
    obtain ⟨R, hR⟩ : ∃ R, aroundL xs (compL (digs xs.length x)) = R := ⟨_, rfl⟩
    obtain ⟨b, hb⟩ : ∃ b, decide (addO xs (compL (digs xs.length x)) 0 = 1) = b := ⟨_, rfl⟩
    rw [hR, hb] at hs ⊢
    obtain ⟨n, hN⟩ : ∃ n, xs.length = n := ⟨_, rfl⟩
    rw [hN] at hc hs e1 e2 r0 g0 hsz ⊢
    have HC := Lib.hid hc
    have HS := Lib.hid hs
    have E2 := Lib.hid e2
    have R0 := Lib.hid r0
    have G0 := Lib.hid g0
    have HSZ := Lib.hid hsz
    clear hc hs e1 e2 c0 r0 g0 h' h hN e0 ea eu hw h1 h12 hn hsz hR hb
    go_enter Tryd.func18, Tryd.ntmps18
    go_wp2_with (first
      | (go_at_call 38; refine HC.out.mono ?_; rintro e w1 ⟨rfl, rfl⟩)
      | (go_at_call 42; refine HS.out.mono ?_; rintro e w1 ⟨g, cap, ex, rfl, hg, hb, hr⟩; have r1 := cell_kept R0.out hb; have f1 := frozen_kept R0.out G0.out hb; have HB1 := Lib.hid (below_step E2.out hb); have HR := Lib.hid hr; have HG := Lib.hid hg; have r2 := cell_kept r1 (below_box w1 (.cells #[.slice (some ⟨g, 0, none⟩) R.length cap] 24)); have f2 := frozen_kept r1 f1 (below_box w1 (.cells #[.slice (some ⟨g, 0, none⟩) R.length cap] 24)); clear hb hr hg))
    refine bodyPost_ret (v := .tuple #[.agg #[.slice (some ⟨g, 0, none⟩) R.length cap], .bool b, .int .i64 0]) (by simp [results, Tryd.results18, go_sem, r2]) rfl ⟨some ⟨g, 0, none⟩, cap, rfl, (below_boxed HB1.out _).setCell (by simp) _, ?_⟩
    have := HG.out
    have := HSZ.out
    exact GivesK1.kc (cap := cap) (by omega) ((HR.out.alloc _).far (by simp; omega) _)
  · have ea : takeKA xs x = [] := if_neg e0
    have eu : takeKU xs x = false := if_neg e0
    rw [ea, eu]
    obtain ⟨q, hq⟩ : ∃ q, numC xs x = q := ⟨_, rfl⟩
    rw [hq] at hc e0 ⊢
    obtain ⟨n, hN⟩ : ∃ n, xs.length = n := ⟨_, rfl⟩
    rw [hN] at hc e1 e2 ⊢
    have HC := Lib.hid hc
    have E2 := Lib.hid e2
    clear hc e1 e2 c0 r0 g0 hsz h' h hN ea eu hn hq
    go_enter Tryd.func18, Tryd.ntmps18
    go_wp2_with (go_at_call 38; refine HC.out.mono ?_; rintro e w1 ⟨rfl, rfl⟩)
    exact bodyPost_ret (v := .tuple #[.agg #[.slice none 0 0], .bool false, .int .i64 q]) (by simp [results, Tryd.results18, go_sem]) rfl ⟨none, 0, rfl, E2.out, IAt.nil (Nat.le_refl _)⟩

end Go.Proofs.YtkiphejkgpfjjaaDoor
