/- What spec.DrawShiftOf gives: two cards of at most 64 columns in memory of their own. -/
import Derived.Test.YtjfogadcedgndaaPairDraw
import Derived.Test.YtjfogadcedgndaaSh4
namespace Go.Proofs.Ytjfogadcedgndaa
open Go.ChangeShapes Go.WideShapes Go.ChangeAt Go.RowKit

set_option maxRecDepth 100000 in
set_option maxHeartbeats 4000000 in
theorem drawShiftOf_any (A : Option Addr) (n c B : Nat) (w : World) (h : BytesAt w B A n) (hB : B ≤ w.heap.size) (hn : n ≤ 4096) :
    Calls Try.prog 28 #[.slice A n c] w (DrawsTwo w) := by
  have b0 := (below_box w (.cells #[.slice none 0 0] 26)).alloc (by simp) (.cells #[.slice none 0 0] 26)
  have HC := Lib.hid (l00From_any A n c B ((w.alloc (.cells #[.slice none 0 0] 26)).alloc (.cells #[.slice none 0 0] 26)) (h.below (b0.mono hB)) (by simp; omega) hn)
  have c0 : ((w.alloc (.cells #[.slice none 0 0] 26)).alloc (.cells #[.slice none 0 0] 26)).cell? ⟨w.heap.size, 0, none⟩ = some (.slice none 0 0) := by simp [go_sem]
  have f0 : ((w.alloc (.cells #[.slice none 0 0] 26)).alloc (.cells #[.slice none 0 0] 26)).frozen? ⟨w.heap.size, 0, none⟩ = false := by simp [go_sem]
  have x00 : ((w.alloc (.cells #[.slice none 0 0] 26)).alloc (.cells #[.slice none 0 0] 26)).cell? ⟨w.heap.size + 1, 0, none⟩ = some (.slice none 0 0) := by simp [go_sem]
  have y00 : ((w.alloc (.cells #[.slice none 0 0] 26)).alloc (.cells #[.slice none 0 0] 26)).frozen? ⟨w.heap.size + 1, 0, none⟩ = false := by simp [go_sem]
  have B0 := Lib.hid b0
  clear h b0
  go_enter Try.func28, Try.ntmps28
  go_wp2_with fail
  refine HC.out.mono ?_
  rintro e w1 ⟨rfl, hb, hs⟩
  have B1 := Lib.hid (below_step B0.out hb)
  have c1 := cell_kept c0 hb
  have f1 : w1.frozen? ⟨w.heap.size, 0, none⟩ = false := by rw [hb.frozen (World.block_lt_of_cell? _ _ c0)]; exact f0
  have x01 := cell_kept x00 hb
  have y01 : w1.frozen? ⟨w.heap.size + 1, 0, none⟩ = false := by rw [hb.frozen (World.block_lt_of_cell? _ _ x00)]; exact y00
  have gl := hs.lt
  obtain ⟨g, hg0⟩ : ∃ g, ((w.alloc (.cells #[.slice none 0 0] 26)).alloc (.cells #[.slice none 0 0] 26)).heap.size = g := ⟨_, rfl⟩
  have hge2 : w.heap.size + 2 ≤ g := by rw [← hg0]; simp
  rw [hg0] at hs gl
  have hge : w.heap.size ≤ g := by omega
  have HBT := Lib.hid (l03Bent_any B g 0 w1 hs (by omega))
  clear hb hs HC B0 c0 f0 x00 y00
  go_wp2_with fail
  try rw [show w.heap.size + 1 + 1 = g by rw [← hg0]; simp]
  try rw [hg0]
  refine HBT.out.mono ?_
  rintro e w2 ⟨A1, cap1, xs, rfl, hl1, hcf, hg, hs⟩
  have c2 := cell_only hg c1 (by show w.heap.size ≠ g; omega)
  have f2 := frozen_only hg c1 f1 (by show w.heap.size ≠ g; omega)
  have x02 := cell_only hg x01 (by show w.heap.size + 1 ≠ g; omega)
  have y02 := frozen_only hg x01 y01 (by show w.heap.size + 1 ≠ g; omega)
  have b3 := below_box w2 (.cells #[.slice A1 xs.length cap1] 26)
  have z2 : w1.heap.size ≤ w2.heap.size := hg.size
  have B3 := Lib.hid (below_step (below_only B1.out hg hge) b3)
  have CF3 := Lib.hid (hcf.later b3)
  have S3 := Lib.hid (hs.boxed (.cells #[.slice A1 xs.length cap1] 26))
  have c3 := cell_kept c2 b3
  have f3 : (w2.alloc (.cells #[.slice A1 xs.length cap1] 26)).frozen? ⟨w.heap.size, 0, none⟩ = false := by rw [b3.frozen (World.block_lt_of_cell? _ _ c2)]; exact f2
  have x03 := cell_kept x02 b3
  have y03 : (w2.alloc (.cells #[.slice A1 xs.length cap1] 26)).frozen? ⟨w.heap.size + 1, 0, none⟩ = false := by rw [b3.frozen (World.block_lt_of_cell? _ _ x02)]; exact y02
  have d3 : (w2.alloc (.cells #[.slice A1 xs.length cap1] 26)).cell? ⟨w2.heap.size, 0, none⟩ = some (.slice A1 xs.length cap1) := by simp [go_sem]
  have z3 : w1.heap.size ≤ (w2.alloc (.cells #[.slice A1 xs.length cap1] 26)).heap.size := by simp; omega
  obtain ⟨q, hq⟩ : ∃ q, w2.heap.size = q := ⟨_, rfl⟩
  rw [hq] at d3 z2
  clear hg hs hcf HBT b3 B1 c1 f1 c2 f2 x01 y01 x02 y02
  have ho := l02Ok_any A1 cap1 xs (w2.alloc (.cells #[.slice A1 xs.length cap1] 26)).heap.size q 0 (w2.alloc (.cells #[.slice A1 xs.length cap1] 26)) d3 CF3.out.ints (by omega)
  obtain ⟨ok, hok⟩ : ∃ ok, okB xs = ok := ⟨_, rfl⟩
  rw [hok] at ho
  have HO := Lib.hid ho
  have HOK := Lib.hid hok
  clear ho hok
  cases ok
  · have cd : (w2.alloc (.cells #[.slice A1 xs.length cap1] 26)).drew.cell? ⟨w.heap.size, 0, none⟩ = some (.slice none 0 0) := c3
    have fd : (w2.alloc (.cells #[.slice A1 xs.length cap1] 26)).drew.frozen? ⟨w.heap.size, 0, none⟩ = false := f3
    have x0d : (w2.alloc (.cells #[.slice A1 xs.length cap1] 26)).drew.cell? ⟨w.heap.size + 1, 0, none⟩ = some (.slice none 0 0) := x03
    have y0d : (w2.alloc (.cells #[.slice A1 xs.length cap1] 26)).drew.frozen? ⟨w.heap.size + 1, 0, none⟩ = false := y03
    have dd : (w2.alloc (.cells #[.slice A1 xs.length cap1] 26)).drew.cell? ⟨q, 0, none⟩ = some (.slice A1 xs.length cap1) := d3
    have CFd : Hid (CardFrom w1.heap.size (w2.alloc (.cells #[.slice A1 xs.length cap1] 26)).drew A1 xs) := CF3
    have Bd : Hid (Below w.heap.size w (w2.alloc (.cells #[.slice A1 xs.length cap1] 26)).drew) := B3.out.drew
    have hsz : w1.heap.size ≤ (w2.alloc (.cells #[.slice A1 xs.length cap1] 26)).drew.heap.size := z3
    have HD := Lib.hid (l06Damaged_any B g (0 + 100) q cap1 A1 xs (w2.alloc (.cells #[.slice A1 xs.length cap1] 26)).drew S3.out (by omega) dd CFd.out.ints hl1)
    go_wp2_with (go_at_call 57; refine HO.out.mono ?_; rintro e w' ⟨rfl, rfl⟩)
    go_region_with (go_at_call 76; refine HD.out.mono ?_; rintro e w6 ⟨A2, cap2, ys, rfl, hl2, hcf, hg, hs⟩; have c6 := cell_only hg cd (by show w.heap.size ≠ g; omega); have f6 := frozen_only hg cd fd (by show w.heap.size ≠ g; omega); have x06 := cell_only hg x0d (by show w.heap.size + 1 ≠ g; omega); have y06 := frozen_only hg x0d y0d (by show w.heap.size + 1 ≠ g; omega); have d6 := cell_only hg dd (by show q ≠ g; omega); have CF6 := Lib.hid (CFd.out.only hg gl); have B6 := Lib.hid (below_only Bd.out hg hge); have HC2 := Lib.hid (hcf.lower hsz); have HL2 := Lib.hid hl2; clear hg hs hcf hl2)
    all_goals
      go_wp2
      refine bodyPost_ret (v := .tuple #[.agg #[.slice A1 xs.length cap1], .agg #[.slice A2 ys.length cap2]]) (by simp [results, Try.results28, go_sem, c6, x06]) rfl ⟨A1, cap1, xs, A2, cap2, ys, rfl, hl1, HL2.out, ?_, ?_, ?_⟩
      · exact ((CF6.out.far (by dsimp only; omega) _).far (by dsimp only; omega) _).lower (by omega)
      · exact ((HC2.out.far (by dsimp only; omega) _).far (by dsimp only; omega) _).lower (by omega)
      · exact (B6.out.setCell (by simp) _).setCell (by simp) _
  · have HN := Lib.hid (one_any (w2.alloc (.cells #[.slice A1 xs.length cap1] 26)) B g (0 + 100) 4 S3.out (by omega) (by omega) (by omega))
    have h0 : 0 < xs.length := by
      have := HOK.out
      simp [okB, inB] at this
      omega
    go_wp2_with (go_at_call 57; refine HO.out.mono ?_; rintro e w' ⟨rfl, rfl⟩)
    refine HN.out.mono ?_
    rintro e w4 ⟨b, rfl, hg, hs⟩
    have c4 := cell_only hg c3 (by show w.heap.size ≠ g; omega)
    have f4 := frozen_only hg c3 f3 (by show w.heap.size ≠ g; omega)
    have x04 := cell_only hg x03 (by show w.heap.size + 1 ≠ g; omega)
    have y04 := frozen_only hg x03 y03 (by show w.heap.size + 1 ≠ g; omega)
    have d4 := cell_only hg d3 (by show q ≠ g; omega)
    have CF4 := Lib.hid (CF3.out.only hg gl)
    have B4 := Lib.hid (below_only B3.out hg hge)
    have S4 := Lib.hid hs
    have z4 : w1.heap.size ≤ w4.heap.size := Nat.le_trans z3 hg.size
    clear hg hs HN HO
    have cd : w4.drew.cell? ⟨w.heap.size, 0, none⟩ = some (.slice none 0 0) := c4
    have fd : w4.drew.frozen? ⟨w.heap.size, 0, none⟩ = false := f4
    have x0d : w4.drew.cell? ⟨w.heap.size + 1, 0, none⟩ = some (.slice none 0 0) := x04
    have y0d : w4.drew.frozen? ⟨w.heap.size + 1, 0, none⟩ = false := y04
    have dd : w4.drew.cell? ⟨q, 0, none⟩ = some (.slice A1 xs.length cap1) := d4
    have CFd : Hid (CardFrom w1.heap.size w4.drew A1 xs) := CF4
    have Bd : Hid (Below w.heap.size w w4.drew) := B4.out.drew
    have hsz : w1.heap.size ≤ w4.drew.heap.size := z4
    cases b
    · have HP := Lib.hid (pick_any w4.drew B g (0 + 100 + 2) 9 S4.out (by omega) (by omega) (by omega))
      go_wp2
      go_region_with (first
        | (go_at_call 52; refine HP.out.mono ?_; rintro e w5 ⟨r, rfl, hr0, hr1, hg, hs⟩; have c5 := cell_only hg cd (by show w.heap.size ≠ g; omega); have f5 := frozen_only hg cd fd (by show w.heap.size ≠ g; omega); have x05 := cell_only hg x0d (by show w.heap.size + 1 ≠ g; omega); have y05 := frozen_only hg x0d y0d (by show w.heap.size + 1 ≠ g; omega); have d5 := cell_only hg dd (by show q ≠ g; omega); have CF5 := Lib.hid (CFd.out.only hg gl); have B5 := Lib.hid (below_only Bd.out hg hge); have z5 := Nat.le_trans hsz hg.size; have hw : IntKind.i64.wrap (r - 4) = r - 4 := IntWalk.i64_in _ (by omega); have HSH := Lib.hid (l06Shift_any A1 cap1 xs w5.heap.size q 0 (r - 4) w5 d5 CF5.out.ints (Nat.le_refl _) h0 (by omega) (by omega)); have v5 := World.block_lt_of_cell? _ _ c5; have v5' := World.block_lt_of_cell? _ _ x05; clear hg hs)
        | (go_at_call 75; refine HSH.out.mono ?_; rintro e w6 ⟨g2, cap2, ex2, rfl, hg2, hb, hr⟩; have c6 := cell_kept c5 hb; have f6 : w6.frozen? ⟨w.heap.size, 0, none⟩ = false := (by rw [hb.frozen v5]; exact f5); have x06 := cell_kept x05 hb; have y06 : w6.frozen? ⟨w.heap.size + 1, 0, none⟩ = false := (by rw [hb.frozen v5']; exact y05); have d6 := cell_kept d5 hb; have CF6 := Lib.hid (CF5.out.later hb); have B6 := Lib.hid (below_step B5.out hb); have HC2 : Hid (CardFrom w1.heap.size w6 (some ⟨g2, 0, none⟩) (shiftL xs (r - 4))) := (fun _ => ⟨g2, ex2, rfl, Nat.le_trans z5 hg2, hr⟩); have HL2 : Hid ((shiftL xs (r - 4)).length ≤ 64) := (by show _ ≤ _; rw [shiftL_length]; exact hl1); clear hb hr hw))
      all_goals
        go_wp2
        refine bodyPost_ret (v := .tuple #[.agg #[.slice A1 xs.length cap1], .agg #[.slice (some ⟨g2, 0, none⟩) (shiftL xs (r - 4)).length cap2]]) (by simp [results, Try.results28, go_sem, c6, x06]) rfl ⟨A1, cap1, xs, some ⟨g2, 0, none⟩, cap2, shiftL xs (r - 4), rfl, hl1, HL2.out, ?_, ?_, ?_⟩
        · exact ((CF6.out.far (by dsimp only; omega) _).far (by dsimp only; omega) _).lower (by omega)
        · exact ((HC2.out.far (by dsimp only; omega) _).far (by dsimp only; omega) _).lower (by omega)
        · exact (B6.out.setCell (by simp) _).setCell (by simp) _
    · have HD := Lib.hid (l06Damaged_any B g (0 + 100 + 2) q cap1 A1 xs w4.drew S4.out (by omega) dd CFd.out.ints hl1)
      go_wp2
      go_region_with (go_at_call 76; refine HD.out.mono ?_; rintro e w6 ⟨A2, cap2, ys, rfl, hl2, hcf, hg, hs⟩; have c6 := cell_only hg cd (by show w.heap.size ≠ g; omega); have f6 := frozen_only hg cd fd (by show w.heap.size ≠ g; omega); have x06 := cell_only hg x0d (by show w.heap.size + 1 ≠ g; omega); have y06 := frozen_only hg x0d y0d (by show w.heap.size + 1 ≠ g; omega); have d6 := cell_only hg dd (by show q ≠ g; omega); have CF6 := Lib.hid (CFd.out.only hg gl); have B6 := Lib.hid (below_only Bd.out hg hge); have HC2 := Lib.hid (hcf.lower hsz); have HL2 := Lib.hid hl2; clear hg hs hcf hl2)
      all_goals
        go_wp2
        refine bodyPost_ret (v := .tuple #[.agg #[.slice A1 xs.length cap1], .agg #[.slice A2 ys.length cap2]]) (by simp [results, Try.results28, go_sem, c6, x06]) rfl ⟨A1, cap1, xs, A2, cap2, ys, rfl, hl1, HL2.out, ?_, ?_, ?_⟩
        · exact ((CF6.out.far (by dsimp only; omega) _).far (by dsimp only; omega) _).lower (by omega)
        · exact ((HC2.out.far (by dsimp only; omega) _).far (by dsimp only; omega) _).lower (by omega)
        · exact (B6.out.setCell (by simp) _).setCell (by simp) _
end Go.Proofs.Ytjfogadcedgndaa
