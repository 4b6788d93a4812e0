/- What spec.DrawDistanceOf, spec.DrawRepairCard and spec.DrawRepairColumn give: cards of at most 64 columns in memory of their own, and a number. -/
import Derived.Test.YthkfdfocghmmeabDoorPairDraw
namespace Go.Proofs.YthkfdfocghmmeabDoor
open Go.ChangeShapes Go.WideShapes Go.ChangeAt Go.RowKit

set_option maxHeartbeats 1000000 in
theorem drawDistance_any (A : Option Addr) (n c B : Nat) (w : World) (h : BytesAt w B A n) (hB : B ≤ w.heap.size) (hn : n ≤ 4096) :
    Calls Tryd.prog 5 #[.slice A n c] w (DrawsTwo w) := by
  have b0 := (below_box w (.cells #[.slice none 0 0] 26)).alloc (by simp) (.cells #[.slice none 0 0] 26)
  have HC := Lib.hid (l06Pair_any A n c B ((w.alloc (.cells #[.slice none 0 0] 26)).alloc (.cells #[.slice none 0 0] 26)) (h.below (b0.mono hB)) (by simp; omega) hn)
  have B0 := Lib.hid b0
  clear h
  go_enter Tryd.func5, Tryd.ntmps5
  go_wp2_with fail
  refine HC.out.mono ?_
  rintro e w1 ⟨A1, cap1, xs, A2, cap2, ys, rfl, h1, h2, cf1, cf2, hb⟩
  have c1 := cell_kept (p := ⟨w.heap.size, 0, none⟩) (v := .slice none 0 0) (by simp [go_sem]) hb
  have c1' := cell_kept (p := ⟨w.heap.size + 1, 0, none⟩) (v := .slice none 0 0) (by simp [go_sem]) hb
  have f1 : w1.frozen? ⟨w.heap.size, 0, none⟩ = false := by rw [hb.frozen (by simp; omega)]; simp [go_sem]
  have f1' : w1.frozen? ⟨w.heap.size + 1, 0, none⟩ = false := by rw [hb.frozen (by simp)]; simp [go_sem]
  have B1 := Lib.hid (below_step B0.out hb)
  have es : ((w.alloc (.cells #[.slice none 0 0] 26)).alloc (.cells #[.slice none 0 0] 26)).heap.size = w.heap.size + 2 := by simp
  rw [es] at cf1 cf2
  have C1 := Lib.hid cf1
  have C2 := Lib.hid cf2
  clear hb cf1 cf2 b0 HC
  go_wp2
  refine bodyPost_ret (v := .tuple #[.agg #[.slice A1 xs.length cap1], .agg #[.slice A2 ys.length cap2]]) (by simp [results, Tryd.results5, go_sem, c1, c1']) rfl ⟨A1, cap1, xs, A2, cap2, ys, rfl, h1, h2, ?_, ?_, ?_⟩
  · exact ((C1.out.far (by dsimp only; omega) _).far (by dsimp only; omega) _).lower (by omega)
  · exact ((C2.out.far (by dsimp only; omega) _).far (by dsimp only; omega) _).lower (by omega)
  · exact (B1.out.setCell (by simp) _).setCell (by simp) _

set_option maxHeartbeats 1000000 in
theorem drawRepairCard_any (A : Option Addr) (n c B : Nat) (w : World) (h : BytesAt w B A n) (hB : B ≤ w.heap.size) (hn : n ≤ 4096) :
    Calls Tryd.prog 12 #[.slice A n c] w (DrawsOne w) := by
  have b0 := below_box w (.cells #[.slice none 0 0] 26)
  have HC := Lib.hid (l00From_any A n c B (w.alloc (.cells #[.slice none 0 0] 26)) (h.below (b0.mono hB)) (by simp; omega) hn)
  have c0 : (w.alloc (.cells #[.slice none 0 0] 26)).cell? ⟨w.heap.size, 0, none⟩ = some (.slice none 0 0) := by simp [go_sem]
  have f0 : (w.alloc (.cells #[.slice none 0 0] 26)).frozen? ⟨w.heap.size, 0, none⟩ = false := by simp [go_sem]
  have B0 := Lib.hid b0
  clear h b0
  go_enter Tryd.func12, Tryd.ntmps12
  go_wp2_with fail
  refine HC.out.mono ?_
  rintro e w1 ⟨rfl, hb, hs⟩
  have B1 := Lib.hid (below_step B0.out hb)
  have c1 := cell_kept c0 hb
  have f1 := (frozen_block (hb.block w.heap.size (by simp)) f0 : w1.frozen? ⟨w.heap.size, 0, none⟩ = false)
  have gl := hs.lt
  obtain ⟨g, hg0⟩ : ∃ g, (w.alloc (.cells #[.slice none 0 0] 26)).heap.size = g := ⟨_, rfl⟩
  have hge2 : w.heap.size + 1 ≤ g := by rw [← hg0]; simp
  rw [hg0] at hs gl
  have hge : w.heap.size ≤ g := by omega
  have HBT := Lib.hid (l03Bent_any B g 0 w1 hs (by omega))
  clear hb hs HC c0 f0 B0
  go_wp2_with fail
  try rw [show w.heap.size + 1 = g by rw [← hg0]; simp]
  try rw [hg0]
  refine HBT.out.mono ?_
  rintro e w2 ⟨A1, cap1, xs, rfl, hl1, hcf, hg, hs⟩
  have c2 := cell_only hg c1 (by show w.heap.size ≠ g; omega)
  have f2 := frozen_only hg c1 f1 (by show w.heap.size ≠ g; omega)
  have b3 := below_box w2 (.cells #[.slice A1 xs.length cap1] 26)
  have c3 := cell_kept c2 b3
  have f3 : (w2.alloc (.cells #[.slice A1 xs.length cap1] 26)).frozen? ⟨w.heap.size, 0, none⟩ = false := by rw [b3.frozen (World.block_lt_of_cell? _ _ c2)]; exact f2
  have d3 : (w2.alloc (.cells #[.slice A1 xs.length cap1] 26)).cell? ⟨w2.heap.size, 0, none⟩ = some (.slice A1 xs.length cap1) := by simp [go_sem]
  have B3 := Lib.hid (below_step (below_only B1.out hg hge) b3)
  have S3 := hs.boxed (.cells #[.slice A1 xs.length cap1] 26)
  have hgl := S3.lt
  have z3 := World.block_lt_of_cell? _ _ c3
  have HD := Lib.hid (l06Damaged_any B g (0 + 100) w2.heap.size cap1 A1 xs _ S3 (by omega) d3 (hcf.later b3).ints hl1)
  clear hg hs hcf HBT c1 f1 c2 f2 b3 B1 S3
  go_wp2_with fail
  refine HD.out.mono ?_
  rintro e w4 ⟨A2, cap2, ys, rfl, hl2, hcf, hg, hs⟩
  have c4 := cell_only hg c3 (by show w.heap.size ≠ g; omega)
  have f4 := frozen_only hg c3 f3 (by show w.heap.size ≠ g; omega)
  have c5 := cell_put c4 (.slice A2 ys.length cap2)
  have B4 := Lib.hid (below_only B3.out hg hge)
  have CF := Lib.hid hcf
  clear hg hs hcf HD c3 f3
  go_wp2
  refine bodyPost_ret (v := .agg #[.slice A2 ys.length cap2]) (by simp [results, Tryd.results12, go_sem, c5]) rfl ⟨A2, cap2, ys, rfl, hl2, ?_, B4.out.setCell (by simp) _⟩
  exact (CF.out.far z3 _).lower (by have : w.heap.size < _ := z3; omega)

set_option maxHeartbeats 1000000 in
theorem drawRepairColumn_any (A : Option Addr) (n c B : Nat) (w : World) (h : BytesAt w B A n) (hB : B ≤ w.heap.size) (hn : n ≤ 4096) :
    Calls Tryd.prog 15 #[.slice A n c] w fun e w' => ∃ m : Int, e = .returned (.int .i64 m) ∧ Below w.heap.size w w' := by
  have HC := Lib.hid (l00From_any A n c B w h hB hn)
  clear h
  go_enter Tryd.func15, Tryd.ntmps15
  go_wp2_with fail
  refine HC.out.mono ?_
  rintro e w1 ⟨rfl, hb, hs⟩
  obtain ⟨g, hg0⟩ : ∃ g, w.heap.size = g := ⟨_, rfl⟩
  rw [hg0] at hs
  have B1 := Lib.hid hb
  have HO := Lib.hid (one_any w1 B g 0 10 hs (by omega) (by omega) (by omega))
  clear hb hs HC
  go_wp2_with fail
  try rw [hg0]
  refine HO.out.mono ?_
  rintro e w2 ⟨b, rfl, hg, hs⟩
  have B2 := Lib.hid (below_only B1.out hg (by omega))
  have S2 := Lib.hid hs
  clear hg hs HO B1
  cases b
  · have HP := Lib.hid (pick_any w2 B g (0 + 2) 4096 S2.out (by omega) (by omega) (by omega))
    go_wp2_with fail
    refine HP.out.mono ?_
    rintro e w3 ⟨r, rfl, _, _, hg, hs⟩
    have B3 := Lib.hid (below_only B2.out hg (by omega))
    clear hg hs HP
    go_wp2
    go_ret
    exact ⟨r, rfl, B3.out⟩
  · have HAM := Lib.hid (among_any (w2.alloc (.cells #[.int .i64 (-1), .int .i64 0, .int .i64 4095, .int .i64 4096, .int .i64 (-9223372036854775808)] 2)) B g (0 + 2) w2.heap.size 5 [-1, 0, 4095, 4096, -9223372036854775808] (S2.out.boxed _) (by omega) (by simp) (by simp) (Nat.ne_of_gt S2.out.lt) (fun j x hj => by
      rw [cell_of_row (w2.alloc (.cells #[.int .i64 (-1), .int .i64 0, .int .i64 4095, .int .i64 4096, .int .i64 (-9223372036854775808)] 2)) w2.heap.size j _ _ _ (heap_alloc_new w2 (.cells #[.int .i64 (-1), .int .i64 0, .int .i64 4095, .int .i64 4096, .int .i64 (-9223372036854775808)] 2))]
      match j, hj with
      | 0, hj => injection hj with hj; subst hj; rfl
      | 1, hj => injection hj with hj; subst hj; rfl
      | 2, hj => injection hj with hj; subst hj; rfl
      | 3, hj => injection hj with hj; subst hj; rfl
      | 4, hj => injection hj with hj; subst hj; rfl))
    have B3 := Lib.hid (below_step B2.out (below_box w2 (.cells #[.int .i64 (-1), .int .i64 0, .int .i64 4095, .int .i64 4096, .int .i64 (-9223372036854775808)] 2)))
    go_wp2_with fail
    refine HAM.out.mono ?_
    rintro e w3 ⟨x, _, rfl, hg, hs⟩
    have B4 := Lib.hid (below_only B3.out hg (by omega))
    clear hg hs HAM
    go_wp2
    go_ret
    exact ⟨x, rfl, B4.out⟩
end Go.Proofs.YthkfdfocghmmeabDoor
