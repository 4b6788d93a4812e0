/- What spec.DrawTornColumns gives: a card of at most 64 columns in memory of its own, and a field. -/
import Derived.Test.YtjfogadcedgndaaBent
import Derived.Test.YtjfogadcedgndaaFieldDraw
namespace Go.Proofs.Ytjfogadcedgndaa
open Go.ChangeShapes Go.WideShapes Go.ChangeAt Go.RowKit

/-- A card of at most 64 columns in new memory, and a field. -/
def DrawsCardField (w : World) (e : Ending) (w' : World) : Prop :=
  ∃ A cap xs, ∃ f t : Int, e = .returned (.tuple #[.agg #[.slice A xs.length cap], .agg #[.int .i64 f, .int .i64 t]]) ∧ xs.length ≤ 64 ∧ (xs.length ≤ cap ∧ cap ≤ 9223372036854775807) ∧ CardFrom w.heap.size w' A xs ∧ Below w.heap.size w w'

set_option maxRecDepth 100000 in
set_option maxHeartbeats 4000000 in
theorem drawTorn_any (A : Option Addr) (n c B : Nat) (w : World) (h : BytesAt w B A n) (hB : B ≤ w.heap.size) (hn : n ≤ 4096) :
    Calls Try.prog 43 #[.slice A n c] w (DrawsCardField w) := by
  have b0 := (below_box w (.cells #[.slice none 0 0] 26)).alloc (by simp) (.cells #[.int .i64 0, .int .i64 0] 70)
  have HC := Lib.hid (l00From_any A n c B ((w.alloc (.cells #[.slice none 0 0] 26)).alloc (.cells #[.int .i64 0, .int .i64 0] 70)) (h.below (b0.mono hB)) (by simp; omega) hn)
  have c0 : ((w.alloc (.cells #[.slice none 0 0] 26)).alloc (.cells #[.int .i64 0, .int .i64 0] 70)).cell? ⟨w.heap.size, 0, none⟩ = some (.slice none 0 0) := by simp [go_sem]
  have f0 : ((w.alloc (.cells #[.slice none 0 0] 26)).alloc (.cells #[.int .i64 0, .int .i64 0] 70)).frozen? ⟨w.heap.size, 0, none⟩ = false := by simp [go_sem]
  have x00 : ((w.alloc (.cells #[.slice none 0 0] 26)).alloc (.cells #[.int .i64 0, .int .i64 0] 70)).cell? ⟨w.heap.size + 1, 0, none⟩ = some (.int .i64 0) := by simp [go_sem]
  have y00 : ((w.alloc (.cells #[.slice none 0 0] 26)).alloc (.cells #[.int .i64 0, .int .i64 0] 70)).frozen? ⟨w.heap.size + 1, 0, none⟩ = false := by simp [go_sem]
  have x10 : ((w.alloc (.cells #[.slice none 0 0] 26)).alloc (.cells #[.int .i64 0, .int .i64 0] 70)).cell? ⟨w.heap.size + 1, 1, none⟩ = some (.int .i64 0) := by simp [go_sem]
  have y10 : ((w.alloc (.cells #[.slice none 0 0] 26)).alloc (.cells #[.int .i64 0, .int .i64 0] 70)).frozen? ⟨w.heap.size + 1, 1, none⟩ = false := by simp [go_sem]
  have B0 := Lib.hid b0
  clear h b0
  go_enter Try.func43, Try.ntmps43
  go_wp2_with fail
  refine HC.out.mono ?_
  rintro e w1 ⟨rfl, hb, hs⟩
  have B1 := Lib.hid (below_step B0.out hb)
  have c1 := cell_kept c0 hb
  have f1 : w1.frozen? ⟨w.heap.size, 0, none⟩ = false := by rw [hb.frozen (World.block_lt_of_cell? _ _ c0)]; exact f0
  have x01 := cell_kept x00 hb
  have y01 : w1.frozen? ⟨w.heap.size + 1, 0, none⟩ = false := by rw [hb.frozen (World.block_lt_of_cell? _ _ x00)]; exact y00
  have x11 := cell_kept x10 hb
  have y11 : w1.frozen? ⟨w.heap.size + 1, 1, none⟩ = false := by rw [hb.frozen (World.block_lt_of_cell? _ _ x10)]; exact y10
  have gl := hs.lt
  obtain ⟨g, hg0⟩ : ∃ g, ((w.alloc (.cells #[.slice none 0 0] 26)).alloc (.cells #[.int .i64 0, .int .i64 0] 70)).heap.size = g := ⟨_, rfl⟩
  have hge2 : w.heap.size + 2 ≤ g := by rw [← hg0]; simp
  rw [hg0] at hs gl
  have hge : w.heap.size ≤ g := by omega
  have HBT := Lib.hid (l03BentC_any B g 0 w1 hs (by omega))
  clear hb hs HC B0 c0 f0 x00 y00 x10 y10
  go_wp2_with fail
  try rw [show w.heap.size + 1 + 1 = g by rw [← hg0]; simp]
  try rw [hg0]
  refine HBT.out.mono ?_
  rintro e w2 ⟨A1, cap1, xs, rfl, hl1, hcc, hcf, hg, hs⟩
  have c2 := cell_only hg c1 (by show w.heap.size ≠ g; omega)
  have f2 := frozen_only hg c1 f1 (by show w.heap.size ≠ g; omega)
  have x02 := cell_only hg x01 (by show w.heap.size + 1 ≠ g; omega)
  have y02 := frozen_only hg x01 y01 (by show w.heap.size + 1 ≠ g; omega)
  have x12 := cell_only hg x11 (by show w.heap.size + 1 ≠ g; omega)
  have y12 := frozen_only hg x11 y11 (by show w.heap.size + 1 ≠ g; omega)
  have b3 := below_box w2 (.cells #[.slice A1 xs.length cap1] 26)
  have z2 : w1.heap.size ≤ w2.heap.size := hg.size
  have B3 := Lib.hid (below_step (below_only B1.out hg hge) b3)
  have CF3 := Lib.hid (hcf.later b3)
  have S3 := Lib.hid (hs.boxed (.cells #[.slice A1 xs.length cap1] 26))
  have c3 := cell_kept c2 b3
  have f3 : (w2.alloc (.cells #[.slice A1 xs.length cap1] 26)).frozen? ⟨w.heap.size, 0, none⟩ = false := by rw [b3.frozen (World.block_lt_of_cell? _ _ c2)]; exact f2
  have x03 := cell_kept x02 b3
  have y03 : (w2.alloc (.cells #[.slice A1 xs.length cap1] 26)).frozen? ⟨w.heap.size + 1, 0, none⟩ = false := by rw [b3.frozen (World.block_lt_of_cell? _ _ x02)]; exact y02
  have x13 := cell_kept x12 b3
  have y13 : (w2.alloc (.cells #[.slice A1 xs.length cap1] 26)).frozen? ⟨w.heap.size + 1, 1, none⟩ = false := by rw [b3.frozen (World.block_lt_of_cell? _ _ x12)]; exact y12
  have d3 : (w2.alloc (.cells #[.slice A1 xs.length cap1] 26)).cell? ⟨w2.heap.size, 0, none⟩ = some (.slice A1 xs.length cap1) := by simp [go_sem]
  have z3 : w1.heap.size ≤ (w2.alloc (.cells #[.slice A1 xs.length cap1] 26)).heap.size := by simp; omega
  obtain ⟨q, hq⟩ : ∃ q, w2.heap.size = q := ⟨_, rfl⟩
  rw [hq] at d3 z2
  clear hg hs hcf HBT b3 B1 c1 f1 c2 f2 x01 y01 x02 y02 x11 y11 x12 y12
  have cd : (w2.alloc (.cells #[.slice A1 xs.length cap1] 26)).drew.cell? ⟨w.heap.size, 0, none⟩ = some (.slice none 0 0) := c3
  have fd : (w2.alloc (.cells #[.slice A1 xs.length cap1] 26)).drew.frozen? ⟨w.heap.size, 0, none⟩ = false := f3
  have x0d : (w2.alloc (.cells #[.slice A1 xs.length cap1] 26)).drew.cell? ⟨w.heap.size + 1, 0, none⟩ = some (.int .i64 0) := x03
  have y0d : (w2.alloc (.cells #[.slice A1 xs.length cap1] 26)).drew.frozen? ⟨w.heap.size + 1, 0, none⟩ = false := y03
  have x1d : (w2.alloc (.cells #[.slice A1 xs.length cap1] 26)).drew.cell? ⟨w.heap.size + 1, 1, none⟩ = some (.int .i64 0) := x13
  have y1d : (w2.alloc (.cells #[.slice A1 xs.length cap1] 26)).drew.frozen? ⟨w.heap.size + 1, 1, none⟩ = false := y13
  have dd : (w2.alloc (.cells #[.slice A1 xs.length cap1] 26)).drew.cell? ⟨q, 0, none⟩ = some (.slice A1 xs.length cap1) := d3
  have CFd : Hid (CardFrom w1.heap.size (w2.alloc (.cells #[.slice A1 xs.length cap1] 26)).drew A1 xs) := CF3
  have Bd : Hid (Below w.heap.size w (w2.alloc (.cells #[.slice A1 xs.length cap1] 26)).drew) := B3.out.drew
  have HF := Lib.hid (l02DrawField_any B g (0 + 100) xs.length (w2.alloc (.cells #[.slice A1 xs.length cap1] 26)).drew S3.out (by omega) hl1)
  go_wp2
  go_region_with (go_at_call 93; refine HF.out.mono ?_; rintro e w5 ⟨a, b, rfl, hg, hs⟩; have c5 := cell_only hg cd (by show w.heap.size ≠ g; omega); have f5 := frozen_only hg cd fd (by show w.heap.size ≠ g; omega); have x05 := cell_only hg x0d (by show w.heap.size + 1 ≠ g; omega); have y05 := frozen_only hg x0d y0d (by show w.heap.size + 1 ≠ g; omega); have x15 := cell_only hg x1d (by show w.heap.size + 1 ≠ g; omega); have y15 := frozen_only hg x1d y1d (by show w.heap.size + 1 ≠ g; omega); have d5 := cell_only hg dd (by show q ≠ g; omega); have CF5 := Lib.hid (CFd.out.only hg gl); have B5 := Lib.hid (below_only Bd.out hg hge); clear hg hs)
  all_goals
    go_wp2
    refine bodyPost_ret (v := .tuple #[.agg #[.slice A1 xs.length cap1], .agg #[.int .i64 a, .int .i64 b]]) (by simp [results, Try.results43, go_sem, c5, x05, x15]) rfl ⟨A1, cap1, xs, a, b, rfl, hl1, hcc, ?_, ?_⟩
    · exact (((CF5.out.far (by dsimp only; omega) _).far (by dsimp only; omega) _).far (by dsimp only; omega) _).lower (by omega)
    · exact ((B5.out.setCell (by simp) _).setCell (by simp) _).setCell (by simp) _
end Go.Proofs.Ytjfogadcedgndaa
