/- What spec.l06Pair, spec.DrawDistanceOf, spec.DrawRepairCard and spec.DrawRepairColumn give: cards of at most 64 columns in memory of their own, and a number. -/
import Derived.Test.YthkfdfocghmmeabDoorBent
namespace Go.Proofs.YthkfdfocghmmeabDoor
open Go.ChangeShapes Go.WideShapes Go.ChangeAt Go.RowKit

/-- Two cards of at most 64 columns, in new memory. -/
def DrawsTwo (w : World) (e : Ending) (w' : World) : Prop :=
  ∃ A cap xs A' cap' ys, e = .returned (.tuple #[.agg #[.slice A xs.length cap], .agg #[.slice A' ys.length cap']]) ∧ xs.length ≤ 64 ∧ ys.length ≤ 64 ∧ CardFrom w.heap.size w' A xs ∧ CardFrom w.heap.size w' A' ys ∧ Below w.heap.size w w'
/-- A card of at most 64 columns, in new memory. -/
def DrawsOne (w : World) (e : Ending) (w' : World) : Prop :=
  ∃ A cap xs, e = .returned (.agg #[.slice A xs.length cap]) ∧ xs.length ≤ 64 ∧ CardFrom w.heap.size w' A xs ∧ Below w.heap.size w w'

set_option maxRecDepth 100000 in
set_option maxHeartbeats 4000000 in
theorem l06Pair_any (A : Option Addr) (n c B : Nat) (w : World) (h : BytesAt w B A n) (hB : B ≤ w.heap.size) (hn : n ≤ 4096) :
    Calls Tryd.prog 21 #[.slice A n c] w (DrawsTwo w) := by
  have b0 := (below_box w (.cells #[.slice none 0 0] 26)).alloc (by simp) (.cells #[.slice none 0 0] 26)
  have HC := Lib.hid (l00From_any A n c B ((w.alloc (.cells #[.slice none 0 0] 26)).alloc (.cells #[.slice none 0 0] 26)) (h.below (b0.mono hB)) (by simp; omega) hn)
  have c0 : ((w.alloc (.cells #[.slice none 0 0] 26)).alloc (.cells #[.slice none 0 0] 26)).cell? ⟨w.heap.size, 0, none⟩ = some (.slice none 0 0) := by simp [go_sem]
  have c0' : ((w.alloc (.cells #[.slice none 0 0] 26)).alloc (.cells #[.slice none 0 0] 26)).cell? ⟨w.heap.size + 1, 0, none⟩ = some (.slice none 0 0) := by simp [go_sem]
  have f0 : ((w.alloc (.cells #[.slice none 0 0] 26)).alloc (.cells #[.slice none 0 0] 26)).frozen? ⟨w.heap.size, 0, none⟩ = false := by simp [go_sem]
  have f0' : ((w.alloc (.cells #[.slice none 0 0] 26)).alloc (.cells #[.slice none 0 0] 26)).frozen? ⟨w.heap.size + 1, 0, none⟩ = false := by simp [go_sem]
  have B0 := Lib.hid b0
  clear h b0
  go_enter Tryd.func21, Tryd.ntmps21
  go_wp2_with fail
  refine HC.out.mono ?_
  rintro e w1 ⟨rfl, hb, hs⟩
  have B1 := Lib.hid (below_step B0.out hb)
  have c1 := cell_kept c0 hb
  have c1' := cell_kept c0' hb
  have f1 := (frozen_block (hb.block w.heap.size (by simp; omega)) f0 : w1.frozen? ⟨w.heap.size, 0, none⟩ = false)
  have f1' := (frozen_block (hb.block (w.heap.size + 1) (by simp)) f0' : w1.frozen? ⟨w.heap.size + 1, 0, none⟩ = false)
  have gl := hs.lt
  obtain ⟨g, hg0⟩ : ∃ g, ((w.alloc (.cells #[.slice none 0 0] 26)).alloc (.cells #[.slice none 0 0] 26)).heap.size = g := ⟨_, rfl⟩
  have hge2 : w.heap.size + 2 ≤ g := by rw [← hg0]; simp
  rw [hg0] at hs gl
  have hge : w.heap.size ≤ g := by omega
  have HBT := Lib.hid (l03Bent_any B g 0 w1 hs (by omega))
  clear hb hs HC c0 c0' f0 f0' B0
  go_wp2_with fail
  try rw [show w.heap.size + 1 + 1 = g by rw [← hg0]; simp]
  try rw [hg0]
  refine HBT.out.mono ?_
  rintro e w2 ⟨A1, cap1, xs, rfl, hl1, hcf, hg, hs⟩
  have c2 := cell_only hg c1 (by show w.heap.size ≠ g; omega)
  have f2 := frozen_only hg c1 f1 (by show w.heap.size ≠ g; omega)
  have c2' := cell_only hg c1' (by show w.heap.size + 1 ≠ g; omega)
  have f2' := frozen_only hg c1' f1' (by show w.heap.size + 1 ≠ g; omega)
  have z2 : w1.heap.size ≤ w2.heap.size := hg.size
  have b3 := below_box w2 (.cells #[.slice A1 xs.length cap1] 26)
  have c3 := cell_kept c2 b3
  have c3' := cell_kept c2' b3
  have f3 : (w2.alloc (.cells #[.slice A1 xs.length cap1] 26)).frozen? ⟨w.heap.size, 0, none⟩ = false := by rw [b3.frozen (World.block_lt_of_cell? _ _ c2)]; exact f2
  have f3' : (w2.alloc (.cells #[.slice A1 xs.length cap1] 26)).frozen? ⟨w.heap.size + 1, 0, none⟩ = false := by rw [b3.frozen (World.block_lt_of_cell? _ _ c2')]; exact f2'
  have d3 : (w2.alloc (.cells #[.slice A1 xs.length cap1] 26)).cell? ⟨w2.heap.size, 0, none⟩ = some (.slice A1 xs.length cap1) := by simp [go_sem]
  have CF3 := Lib.hid (hcf.later b3)
  have B3 := Lib.hid (below_step (below_only B1.out hg hge) b3)
  have HO := Lib.hid (one_any _ B g (0 + 100) 5 (hs.boxed (.cells #[.slice A1 xs.length cap1] 26)) (by omega) (by omega) (by omega))
  obtain ⟨q, hq⟩ : ∃ q, w2.heap.size = q := ⟨_, rfl⟩
  rw [hq] at d3 z2
  clear hg hs hcf HBT c1 c1' f1 f1' c2 c2' f2 f2' b3 B1
  go_wp2_with fail
  try rw [hq]
  refine HO.out.mono ?_
  rintro e w4 ⟨b, rfl, hg, hs⟩
  have c5 : w4.drew.cell? ⟨w.heap.size, 0, none⟩ = some (.slice none 0 0) := cell_only hg c3 (by show w.heap.size ≠ g; omega)
  have f5 : w4.drew.frozen? ⟨w.heap.size, 0, none⟩ = false := frozen_only hg c3 f3 (by show w.heap.size ≠ g; omega)
  have c5' : w4.drew.cell? ⟨w.heap.size + 1, 0, none⟩ = some (.slice none 0 0) := cell_only hg c3' (by show w.heap.size + 1 ≠ g; omega)
  have f5' : w4.drew.frozen? ⟨w.heap.size + 1, 0, none⟩ = false := frozen_only hg c3' f3' (by show w.heap.size + 1 ≠ g; omega)
  have d5 : w4.drew.cell? ⟨q, 0, none⟩ = some (.slice A1 xs.length cap1) := cell_only hg d3 (by show q ≠ g; omega)
  have CF5 : Hid (CardFrom w1.heap.size w4.drew A1 xs) := (CF3.out.only hg gl : CardFrom w1.heap.size w4 A1 xs)
  have B5 : Hid (Below w.heap.size w w4.drew) := (below_only B3.out hg hge).drew
  have S5 : Hid (Src w4.drew B g (0 + 100 + 2)) := hs
  have hsz : w1.heap.size ≤ w4.drew.heap.size := by
    have h1 := hg.size
    have h2 : (w2.alloc (.cells #[.slice A1 xs.length cap1] 26)).heap.size = w2.heap.size + 1 := by simp
    show w1.heap.size ≤ w4.heap.size
    omega
  have hgl := S5.out.lt
  clear hg hs HO c3 c3' f3 f3' d3 CF3 B3 hq
  cases b
  · have HD := Lib.hid (l06Damaged_any B g (0 + 100 + 2) q cap1 A1 xs w4.drew S5.out (by omega) d5 CF5.out.ints hl1)
    go_wp2
    go_region_with (go_at_call 29; refine HD.out.mono ?_; rintro e w6 ⟨A2, cap2, ys, rfl, hl2, hcf, hg, hs⟩; have c6 := cell_only hg c5 (by show w.heap.size ≠ g; omega); have f6 := frozen_only hg c5 f5 (by show w.heap.size ≠ g; omega); have c6' := cell_only hg c5' (by show w.heap.size + 1 ≠ g; omega); have f6' := frozen_only hg c5' f5' (by show w.heap.size + 1 ≠ g; omega); have d6 := cell_only hg d5 (by show q ≠ g; omega); have HC1 := Lib.hid (CF5.out.only hg gl); have HC2 := Lib.hid (hcf.lower hsz); have B6 := Lib.hid (below_only B5.out hg hge); have HL2 := Lib.hid hl2; clear hg hs hcf hl2)
    all_goals
      go_wp2
      refine bodyPost_ret (v := .tuple #[.agg #[.slice A1 xs.length cap1], .agg #[.slice A2 ys.length cap2]]) (by simp [results, Tryd.results21, go_sem, c6, c6']) rfl ⟨A1, cap1, xs, A2, cap2, ys, rfl, hl1, HL2.out, ?_, ?_, ?_⟩
      · exact ((HC1.out.far (by dsimp only; omega) _).far (by dsimp only; omega) _).lower (by omega)
      · exact ((HC2.out.far (by dsimp only; omega) _).far (by dsimp only; omega) _).lower (by omega)
      · exact (B6.out.setCell (by simp) _).setCell (by simp) _
  · have HD := Lib.hid (l03Bent_any B g (0 + 100 + 2) w4.drew S5.out (by omega))
    go_wp2
    go_region_with (go_at_call 28; refine HD.out.mono ?_; rintro e w6 ⟨A2, cap2, ys, rfl, hl2, hcf, hg, hs⟩; have c6 := cell_only hg c5 (by show w.heap.size ≠ g; omega); have f6 := frozen_only hg c5 f5 (by show w.heap.size ≠ g; omega); have c6' := cell_only hg c5' (by show w.heap.size + 1 ≠ g; omega); have f6' := frozen_only hg c5' f5' (by show w.heap.size + 1 ≠ g; omega); have d6 := cell_only hg d5 (by show q ≠ g; omega); have HC1 := Lib.hid (CF5.out.only hg gl); have HC2 := Lib.hid (hcf.lower hsz); have B6 := Lib.hid (below_only B5.out hg hge); have HL2 := Lib.hid hl2; clear hg hs hcf hl2)
    all_goals
      go_wp2
      refine bodyPost_ret (v := .tuple #[.agg #[.slice A1 xs.length cap1], .agg #[.slice A2 ys.length cap2]]) (by simp [results, Tryd.results21, go_sem, c6, c6']) rfl ⟨A1, cap1, xs, A2, cap2, ys, rfl, hl1, HL2.out, ?_, ?_, ?_⟩
      · exact ((HC1.out.far (by dsimp only; omega) _).far (by dsimp only; omega) _).lower (by omega)
      · exact ((HC2.out.far (by dsimp only; omega) _).far (by dsimp only; omega) _).lower (by omega)
      · exact (B6.out.setCell (by simp) _).setCell (by simp) _
end Go.Proofs.YthkfdfocghmmeabDoor
