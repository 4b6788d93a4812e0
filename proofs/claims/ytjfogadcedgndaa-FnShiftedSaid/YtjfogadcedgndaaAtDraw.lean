/- What spec.l06At, spec.DrawLaceColumn and spec.DrawShiftCard give: a card of at most 64 columns in memory of their own, and a number. -/
import Derived.Test.YtjfogadcedgndaaBent
namespace Go.Proofs.Ytjfogadcedgndaa
open Go.ChangeShapes Go.WideShapes Go.ChangeAt Go.RowKit

/-- A card of at most 64 columns in new memory, and a number. -/
def DrawsCardInt (w : World) (e : Ending) (w' : World) : Prop :=
  ∃ A cap xs, ∃ m : Int, e = .returned (.tuple #[.agg #[.slice A xs.length cap], .int .i64 m]) ∧ xs.length ≤ 64 ∧ CardFrom w.heap.size w' A xs ∧ Below w.heap.size w w'

set_option maxRecDepth 100000 in
set_option maxHeartbeats 4000000 in
theorem l06At_any (A : Option Addr) (n c B : Nat) (w : World) (h : BytesAt w B A n) (hB : B ≤ w.heap.size) (hn : n ≤ 4096) :
    Calls Try.prog 85 #[.slice A n c] w (DrawsCardInt w) := by
  have b0 := below_box w (.cells #[.slice none 0 0] 26)
  have HC := Lib.hid (l00From_any A n c B (w.alloc (.cells #[.slice none 0 0] 26)) (h.below (b0.mono hB)) (by simp; omega) hn)
  have c0 : (w.alloc (.cells #[.slice none 0 0] 26)).cell? ⟨w.heap.size, 0, none⟩ = some (.slice none 0 0) := by simp [go_sem]
  have f0 : (w.alloc (.cells #[.slice none 0 0] 26)).frozen? ⟨w.heap.size, 0, none⟩ = false := by simp [go_sem]
  have B0 := Lib.hid b0
  clear h b0
  go_enter Try.func85, Try.ntmps85
  go_wp2_with fail
  refine HC.out.mono ?_
  rintro e w1 ⟨rfl, hb, hs⟩
  have B1 := Lib.hid (below_step B0.out hb)
  have c1 := cell_kept c0 hb
  have f1 : w1.frozen? ⟨w.heap.size, 0, none⟩ = false := by rw [hb.frozen (World.block_lt_of_cell? _ _ c0)]; exact f0
  have gl := hs.lt
  obtain ⟨g, hg0⟩ : ∃ g, (w.alloc (.cells #[.slice none 0 0] 26)).heap.size = g := ⟨_, rfl⟩
  have hge2 : w.heap.size + 1 ≤ g := by rw [← hg0]; simp
  rw [hg0] at hs gl
  have hge : w.heap.size ≤ g := by omega
  have HBT := Lib.hid (l03Bent_any B g 0 w1 hs (by omega))
  clear hb hs HC B0 c0 f0
  go_wp2_with fail
  try rw [show w.heap.size + 1 = g by rw [← hg0]; simp]
  try rw [hg0]
  refine HBT.out.mono ?_
  rintro e w2 ⟨A1, cap1, xs, rfl, hl1, hcf, hg, hs⟩
  have c2 := cell_only hg c1 (by show w.heap.size ≠ g; omega)
  have f2 := frozen_only hg c1 f1 (by show w.heap.size ≠ g; omega)
  have b3 := below_box w2 (.cells #[.slice A1 xs.length cap1] 26)
  have z2 : w1.heap.size ≤ w2.heap.size := hg.size
  have B3 := Lib.hid (below_step (below_only B1.out hg hge) b3)
  have CF3 := Lib.hid (hcf.later b3)
  have S3 := Lib.hid (hs.boxed (.cells #[.slice A1 xs.length cap1] 26))
  have c3 := cell_kept c2 b3
  have f3 : (w2.alloc (.cells #[.slice A1 xs.length cap1] 26)).frozen? ⟨w.heap.size, 0, none⟩ = false := by rw [b3.frozen (World.block_lt_of_cell? _ _ c2)]; exact f2
  have d3 : (w2.alloc (.cells #[.slice A1 xs.length cap1] 26)).cell? ⟨w2.heap.size, 0, none⟩ = some (.slice A1 xs.length cap1) := by simp [go_sem]
  have z3 : w1.heap.size ≤ (w2.alloc (.cells #[.slice A1 xs.length cap1] 26)).heap.size := by simp; omega
  obtain ⟨q, hq⟩ : ∃ q, w2.heap.size = q := ⟨_, rfl⟩
  rw [hq] at d3 z2
  clear hg hs hcf HBT b3 B1 c1 f1 c2 f2
  have cd : (w2.alloc (.cells #[.slice A1 xs.length cap1] 26)).drew.cell? ⟨w.heap.size, 0, none⟩ = some (.slice none 0 0) := c3
  have fd : (w2.alloc (.cells #[.slice A1 xs.length cap1] 26)).drew.frozen? ⟨w.heap.size, 0, none⟩ = false := f3
  have dd : (w2.alloc (.cells #[.slice A1 xs.length cap1] 26)).drew.cell? ⟨q, 0, none⟩ = some (.slice A1 xs.length cap1) := d3
  have CFd : Hid (CardFrom w1.heap.size (w2.alloc (.cells #[.slice A1 xs.length cap1] 26)).drew A1 xs) := CF3
  have Bd : Hid (Below w.heap.size w (w2.alloc (.cells #[.slice A1 xs.length cap1] 26)).drew) := B3.out.drew
  have HP8 := Lib.hid (pick_any (w2.alloc (.cells #[.slice A1 xs.length cap1] 26)).drew B g (0 + 100) 8 S3.out (by omega) (by omega) (by omega))
  go_wp2
  go_region_with (first
    | (go_at_call 52; refine HP12.out.mono ?_; rintro e w5 ⟨r', rfl, hr2, hr3, hg, hs⟩; have c5 := cell_only hg c4 (by show w.heap.size ≠ g; omega); have f5 := frozen_only hg c4 f4 (by show w.heap.size ≠ g; omega); have d5 := cell_only hg d4 (by show q ≠ g; omega); have CF5 := Lib.hid (CF4.out.only hg gl); have B5 := Lib.hid (below_only B4.out hg hge); clear hg hs)
    | (go_at_call 52; refine HP8.out.mono ?_; rintro e w4 ⟨r, rfl, hr0, hr1, hg, hs⟩; have c4 := cell_only hg cd (by show w.heap.size ≠ g; omega); have f4 := frozen_only hg cd fd (by show w.heap.size ≠ g; omega); have d4 := cell_only hg dd (by show q ≠ g; omega); have CF4 := Lib.hid (CFd.out.only hg gl); have B4 := Lib.hid (below_only Bd.out hg hge); have HP12 := Lib.hid (pick_any w4 B g (0 + 100 + 2) 12 hs (by omega) (by omega) (by omega)); clear hg hs))
  all_goals
    go_wp2
    refine bodyPost_ret (v := .tuple #[.agg #[.slice A1 xs.length cap1], .int .i64 _]) (by simp [results, Try.results85, go_sem, cell_put c5]; rfl) rfl ⟨A1, cap1, xs, _, rfl, hl1, ?_, B5.out.setCell (by simp) _⟩
    exact (CF5.out.far (by dsimp only; omega) _).lower (by omega)

set_option maxHeartbeats 1000000 in
theorem drawLace_any (A : Option Addr) (n c B : Nat) (w : World) (h : BytesAt w B A n) (hB : B ≤ w.heap.size) (hn : n ≤ 4096) :
    Calls Try.prog 34 #[.slice A n c] w (DrawsCardInt w) := by
  have b0 := below_box w (.cells #[.slice none 0 0] 26)
  have HC := Lib.hid (l06At_any A n c B (w.alloc (.cells #[.slice none 0 0] 26)) (h.below (b0.mono hB)) (by simp; omega) hn)
  have B0 := Lib.hid b0
  clear h
  go_enter Try.func34, Try.ntmps34
  go_wp2_with fail
  refine HC.out.mono ?_
  rintro e w1 ⟨A1, cap1, xs, m, rfl, h1, cf1, hb⟩
  have c1 := cell_kept (p := ⟨w.heap.size, 0, none⟩) (v := .slice none 0 0) (by simp [go_sem]) hb
  have f1 : w1.frozen? ⟨w.heap.size, 0, none⟩ = false := by rw [hb.frozen (by simp)]; simp [go_sem]
  have B1 := Lib.hid (below_step B0.out hb)
  have es : (w.alloc (.cells #[.slice none 0 0] 26)).heap.size = w.heap.size + 1 := by simp
  rw [es] at cf1
  have C1 := Lib.hid cf1
  clear hb cf1 b0 HC
  go_wp2
  refine bodyPost_ret (v := .tuple #[.agg #[.slice A1 xs.length cap1], .int .i64 m]) (by simp [results, Try.results34, go_sem, c1]) rfl ⟨A1, cap1, xs, m, rfl, h1, ?_, B1.out.setCell (by simp) _⟩
  exact (C1.out.far (by dsimp only; omega) _).lower (by omega)

set_option maxRecDepth 100000 in
set_option maxHeartbeats 4000000 in
theorem drawShiftCard_any (A : Option Addr) (n c B : Nat) (w : World) (h : BytesAt w B A n) (hB : B ≤ w.heap.size) (hn : n ≤ 4096) :
    Calls Try.prog 31 #[.slice A n c] w (DrawsCardInt w) := by
  have b0 := below_box w (.cells #[.slice none 0 0] 26)
  have HC := Lib.hid (l00From_any A n c B (w.alloc (.cells #[.slice none 0 0] 26)) (h.below (b0.mono hB)) (by simp; omega) hn)
  have c0 : (w.alloc (.cells #[.slice none 0 0] 26)).cell? ⟨w.heap.size, 0, none⟩ = some (.slice none 0 0) := by simp [go_sem]
  have f0 : (w.alloc (.cells #[.slice none 0 0] 26)).frozen? ⟨w.heap.size, 0, none⟩ = false := by simp [go_sem]
  have B0 := Lib.hid b0
  clear h b0
  go_enter Try.func31, Try.ntmps31
  go_wp2_with fail
  refine HC.out.mono ?_
  rintro e w1 ⟨rfl, hb, hs⟩
  have B1 := Lib.hid (below_step B0.out hb)
  have c1 := cell_kept c0 hb
  have f1 : w1.frozen? ⟨w.heap.size, 0, none⟩ = false := by rw [hb.frozen (World.block_lt_of_cell? _ _ c0)]; exact f0
  have gl := hs.lt
  obtain ⟨g, hg0⟩ : ∃ g, (w.alloc (.cells #[.slice none 0 0] 26)).heap.size = g := ⟨_, rfl⟩
  have hge2 : w.heap.size + 1 ≤ g := by rw [← hg0]; simp
  rw [hg0] at hs gl
  have hge : w.heap.size ≤ g := by omega
  have HBT := Lib.hid (l03Bent_any B g 0 w1 hs (by omega))
  clear hb hs HC B0 c0 f0
  go_wp2_with fail
  try rw [show w.heap.size + 1 = g by rw [← hg0]; simp]
  try rw [hg0]
  refine HBT.out.mono ?_
  rintro e w2 ⟨A1, cap1, xs, rfl, hl1, hcf, hg, hs⟩
  have c2 := cell_only hg c1 (by show w.heap.size ≠ g; omega)
  have f2 := frozen_only hg c1 f1 (by show w.heap.size ≠ g; omega)
  have b3 := below_box w2 (.cells #[.slice A1 xs.length cap1] 26)
  have z2 : w1.heap.size ≤ w2.heap.size := hg.size
  have B3 := Lib.hid (below_step (below_only B1.out hg hge) b3)
  have CF3 := Lib.hid (hcf.later b3)
  have S3 := Lib.hid (hs.boxed (.cells #[.slice A1 xs.length cap1] 26))
  have c3 := cell_kept c2 b3
  have f3 : (w2.alloc (.cells #[.slice A1 xs.length cap1] 26)).frozen? ⟨w.heap.size, 0, none⟩ = false := by rw [b3.frozen (World.block_lt_of_cell? _ _ c2)]; exact f2
  have d3 : (w2.alloc (.cells #[.slice A1 xs.length cap1] 26)).cell? ⟨w2.heap.size, 0, none⟩ = some (.slice A1 xs.length cap1) := by simp [go_sem]
  have z3 : w1.heap.size ≤ (w2.alloc (.cells #[.slice A1 xs.length cap1] 26)).heap.size := by simp; omega
  obtain ⟨q, hq⟩ : ∃ q, w2.heap.size = q := ⟨_, rfl⟩
  rw [hq] at d3 z2
  clear hg hs hcf HBT b3 B1 c1 f1 c2 f2
  have HO := Lib.hid (one_any _ B g (0 + 100) 10 S3.out (by omega) (by omega) (by omega))
  go_wp2_with fail
  try rw [hq]
  refine HO.out.mono ?_
  rintro e w4 ⟨b, rfl, hg, hs⟩
  have c4 := cell_only hg c3 (by show w.heap.size ≠ g; omega)
  have f4 := frozen_only hg c3 f3 (by show w.heap.size ≠ g; omega)
  have d4 := cell_only hg d3 (by show q ≠ g; omega)
  have CF4 := Lib.hid (CF3.out.only hg gl)
  have B4 := Lib.hid (below_only B3.out hg hge)
  have S4 := Lib.hid hs
  have z4 := World.block_lt_of_cell? _ _ c4
  have z5 := World.block_lt_of_cell? _ _ d4
  clear hg hs HO
  cases b
  · have cd : w4.drew.cell? ⟨w.heap.size, 0, none⟩ = some (.slice none 0 0) := c4
    have fd : w4.drew.frozen? ⟨w.heap.size, 0, none⟩ = false := f4
    have dd : w4.drew.cell? ⟨q, 0, none⟩ = some (.slice A1 xs.length cap1) := d4
    have CFd : Hid (CardFrom w1.heap.size w4.drew A1 xs) := CF4
    have Bd : Hid (Below w.heap.size w w4.drew) := B4.out.drew
    have HP := Lib.hid (pick_any w4.drew B g (0 + 100 + 2) 11 S4.out (by omega) (by omega) (by omega))
    go_wp2
    go_region_with (go_at_call 52; refine HP.out.mono ?_; rintro e w5 ⟨r, rfl, hr0, hr1, hg, hs⟩; have c5 := cell_only hg cd (by show w.heap.size ≠ g; omega); have f5 := frozen_only hg cd fd (by show w.heap.size ≠ g; omega); have d5 := cell_only hg dd (by show q ≠ g; omega); have CF5 := Lib.hid (CFd.out.only hg gl); have B5 := Lib.hid (below_only Bd.out hg hge); clear hg hs)
    all_goals
      go_wp2
      refine bodyPost_ret (v := .tuple #[.agg #[.slice A1 xs.length cap1], .int .i64 _]) (by simp [results, Try.results31, go_sem, cell_put c5]; rfl) rfl ⟨A1, cap1, xs, _, rfl, hl1, ?_, B5.out.setCell (by simp) _⟩
      exact (CF5.out.far (by dsimp only; omega) _).lower (by omega)
  · have cd : (w4.alloc (.cells #[.int .i64 (-21), .int .i64 (-20), .int .i64 20, .int .i64 21, .int .i64 (-9223372036854775808)] 2)).drew.cell? ⟨w.heap.size, 0, none⟩ = some (.slice none 0 0) := (cell_kept c4 (below_box w4 (.cells #[.int .i64 (-21), .int .i64 (-20), .int .i64 20, .int .i64 21, .int .i64 (-9223372036854775808)] 2)) : (w4.alloc (.cells #[.int .i64 (-21), .int .i64 (-20), .int .i64 20, .int .i64 21, .int .i64 (-9223372036854775808)] 2)).cell? ⟨w.heap.size, 0, none⟩ = some (.slice none 0 0))
    have fd : (w4.alloc (.cells #[.int .i64 (-21), .int .i64 (-20), .int .i64 20, .int .i64 21, .int .i64 (-9223372036854775808)] 2)).drew.frozen? ⟨w.heap.size, 0, none⟩ = false := by
      show (w4.alloc (.cells #[.int .i64 (-21), .int .i64 (-20), .int .i64 20, .int .i64 21, .int .i64 (-9223372036854775808)] 2)).frozen? _ = false
      rw [(below_box w4 _).frozen z4]
      exact f4
    have dd : (w4.alloc (.cells #[.int .i64 (-21), .int .i64 (-20), .int .i64 20, .int .i64 21, .int .i64 (-9223372036854775808)] 2)).drew.cell? ⟨q, 0, none⟩ = some (.slice A1 xs.length cap1) := (cell_kept d4 (below_box w4 (.cells #[.int .i64 (-21), .int .i64 (-20), .int .i64 20, .int .i64 21, .int .i64 (-9223372036854775808)] 2)) : (w4.alloc (.cells #[.int .i64 (-21), .int .i64 (-20), .int .i64 20, .int .i64 21, .int .i64 (-9223372036854775808)] 2)).cell? ⟨q, 0, none⟩ = some (.slice A1 xs.length cap1))
    have dr : w4.drew.cell? ⟨q, 0, none⟩ = some (.slice A1 xs.length cap1) := d4
    have CFd : Hid (CardFrom w1.heap.size (w4.alloc (.cells #[.int .i64 (-21), .int .i64 (-20), .int .i64 20, .int .i64 21, .int .i64 (-9223372036854775808)] 2)).drew A1 xs) := (CF4.out.later (below_box w4 (.cells #[.int .i64 (-21), .int .i64 (-20), .int .i64 20, .int .i64 21, .int .i64 (-9223372036854775808)] 2)) : CardFrom w1.heap.size (w4.alloc (.cells #[.int .i64 (-21), .int .i64 (-20), .int .i64 20, .int .i64 21, .int .i64 (-9223372036854775808)] 2)) A1 xs)
    have Bd : Hid (Below w.heap.size w (w4.alloc (.cells #[.int .i64 (-21), .int .i64 (-20), .int .i64 20, .int .i64 21, .int .i64 (-9223372036854775808)] 2)).drew) := (below_step B4.out (below_box w4 (.cells #[.int .i64 (-21), .int .i64 (-20), .int .i64 20, .int .i64 21, .int .i64 (-9223372036854775808)] 2))).drew
    have HAM := Lib.hid (among_any (w4.alloc (.cells #[.int .i64 (-21), .int .i64 (-20), .int .i64 20, .int .i64 21, .int .i64 (-9223372036854775808)] 2)).drew B g (0 + 100 + 2) w4.heap.size 5 [-21, -20, 20, 21, -9223372036854775808] (S4.out.boxed (.cells #[.int .i64 (-21), .int .i64 (-20), .int .i64 20, .int .i64 21, .int .i64 (-9223372036854775808)] 2)) (by omega) (by simp) (by simp) (Nat.ne_of_gt S4.out.lt) (fun j x hj => by
      rw [cell_of_row (w4.alloc (.cells #[.int .i64 (-21), .int .i64 (-20), .int .i64 20, .int .i64 21, .int .i64 (-9223372036854775808)] 2)).drew w4.heap.size j _ _ _ (heap_alloc_new w4 (.cells #[.int .i64 (-21), .int .i64 (-20), .int .i64 20, .int .i64 21, .int .i64 (-9223372036854775808)] 2))]
      match j, hj with
      | 0, hj => injection hj with hj; subst hj; rfl
      | 1, hj => injection hj with hj; subst hj; rfl
      | 2, hj => injection hj with hj; subst hj; rfl
      | 3, hj => injection hj with hj; subst hj; rfl
      | 4, hj => injection hj with hj; subst hj; rfl))
    go_wp2
    go_region_with (go_at_call 83; refine HAM.out.mono ?_; rintro e w5 ⟨x, _, rfl, hg, hs⟩; have c5 := cell_only hg cd (by show w.heap.size ≠ g; omega); have f5 := frozen_only hg cd fd (by show w.heap.size ≠ g; omega); have d5 := cell_only hg dd (by show q ≠ g; omega); have CF5 := Lib.hid (CFd.out.only hg gl); have B5 := Lib.hid (below_only Bd.out hg hge); clear hg hs)
    all_goals
      go_wp2
      refine bodyPost_ret (v := .tuple #[.agg #[.slice A1 xs.length cap1], .int .i64 _]) (by simp [results, Try.results31, go_sem, cell_put c5]; rfl) rfl ⟨A1, cap1, xs, _, rfl, hl1, ?_, B5.out.setCell (by simp) _⟩
      exact (CF5.out.far (by dsimp only; omega) _).lower (by omega)
end Go.Proofs.Ytjfogadcedgndaa
