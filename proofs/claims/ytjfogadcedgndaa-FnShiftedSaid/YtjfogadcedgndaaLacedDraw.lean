/- What spec.DrawLacedColumns gives: a card of at most 64 columns in memory of its own. -/
import Derived.Test.YtjfogadcedgndaaPairDraw
namespace Go.Proofs.Ytjfogadcedgndaa
open Go.ChangeShapes Go.WideShapes Go.ChangeAt Go.RowKit

set_option maxRecDepth 100000 in
set_option maxHeartbeats 4000000 in
theorem drawLaced_any (A : Option Addr) (n c B : Nat) (w : World) (h : BytesAt w B A n) (hB : B ≤ w.heap.size) (hn : n ≤ 4096) :
    Calls Try.prog 37 #[.slice A n c] w (DrawsOne w) := by
  have b0 := below_box w (.cells #[.slice none 0 0] 26)
  have HC := Lib.hid (l00From_any A n c B (w.alloc (.cells #[.slice none 0 0] 26)) (h.below (b0.mono hB)) (by simp; omega) hn)
  have c0 : (w.alloc (.cells #[.slice none 0 0] 26)).cell? ⟨w.heap.size, 0, none⟩ = some (.slice none 0 0) := by simp [go_sem]
  have f0 : (w.alloc (.cells #[.slice none 0 0] 26)).frozen? ⟨w.heap.size, 0, none⟩ = false := by simp [go_sem]
  have B0 := Lib.hid b0
  clear h b0
  go_enter Try.func37, Try.ntmps37
  go_wp2_with fail
  refine HC.out.mono ?_
  rintro e w1 ⟨rfl, hb, hs⟩
  have B1 := Lib.hid (below_step B0.out hb)
  have c1 := cell_kept c0 hb
  have f1 : w1.frozen? ⟨w.heap.size, 0, none⟩ = false := by rw [hb.frozen (World.block_lt_of_cell? _ _ c0)]; exact f0
  have gl := hs.lt
  obtain ⟨g, hg0⟩ : ∃ g, (w.alloc (.cells #[.slice none 0 0] 26)).heap.size = g := ⟨_, rfl⟩
  have hge2 : w.heap.size + 1 ≤ g := by rw [← hg0]; simp
  rw [hg0] at hs gl
  have hge : w.heap.size ≤ g := by omega
  have HBT := Lib.hid (l03Bent_any B g 0 w1 hs (by omega))
  clear hb hs HC B0 c0 f0
  go_wp2_with fail
  try rw [show w.heap.size + 1 = g by rw [← hg0]; simp]
  try rw [hg0]
  refine HBT.out.mono ?_
  rintro e w2 ⟨A1, cap1, xs, rfl, hl1, hcf, hg, hs⟩
  have c2 := cell_only hg c1 (by show w.heap.size ≠ g; omega)
  have f2 := frozen_only hg c1 f1 (by show w.heap.size ≠ g; omega)
  have b3 := below_box w2 (.cells #[.slice A1 xs.length cap1] 26)
  have z2 : w1.heap.size ≤ w2.heap.size := hg.size
  have B3 := Lib.hid (below_step (below_only B1.out hg hge) b3)
  have CF3 := Lib.hid (hcf.later b3)
  have S3 := Lib.hid (hs.boxed (.cells #[.slice A1 xs.length cap1] 26))
  have c3 := cell_kept c2 b3
  have f3 : (w2.alloc (.cells #[.slice A1 xs.length cap1] 26)).frozen? ⟨w.heap.size, 0, none⟩ = false := by rw [b3.frozen (World.block_lt_of_cell? _ _ c2)]; exact f2
  have d3 : (w2.alloc (.cells #[.slice A1 xs.length cap1] 26)).cell? ⟨w2.heap.size, 0, none⟩ = some (.slice A1 xs.length cap1) := by simp [go_sem]
  have z3 : w1.heap.size ≤ (w2.alloc (.cells #[.slice A1 xs.length cap1] 26)).heap.size := by simp; omega
  obtain ⟨q, hq⟩ : ∃ q, w2.heap.size = q := ⟨_, rfl⟩
  rw [hq] at d3 z2
  clear hg hs hcf HBT b3 B1 c1 f1 c2 f2
  obtain ⟨m, hm⟩ : ∃ m, xs.length = m := ⟨_, rfl⟩
  have HP := Lib.hid (pick_any _ B g (0 + 100) 3 S3.out (by omega) (by omega) (by omega))
  have HM := Lib.hid hm
  rw [hm] at hl1 c3 f3 d3 z3 HP B3 CF3
  go_wp2_with fail
  try rw [hm]
  try rw [hq]
  refine HP.out.mono ?_
  rintro e w4 ⟨r, rfl, hr0, hr1, hg, hs⟩
  obtain ⟨k, rfl⟩ : ∃ k : Nat, r = k := ⟨r.toNat, by omega⟩
  have c4 := cell_only hg c3 (by show w.heap.size ≠ g; omega)
  have f4 := frozen_only hg c3 f3 (by show w.heap.size ≠ g; omega)
  have d4 := cell_only hg d3 (by show q ≠ g; omega)
  have CF4 := Lib.hid (CF3.out.only hg gl)
  have B4 := Lib.hid (below_only B3.out hg hge)
  have S4 := Lib.hid hs
  have zc := World.block_lt_of_cell? _ _ c4
  have zg := hge2
  have z4 : w1.heap.size ≤ w4.heap.size := Nat.le_trans z3 hg.size
  clear hg hs HP c3 f3 d3 CF3 B3 S3 hm
  go_wp2
  go_loopw [5] (fun i wr => ∃ j : Nat, ∃ ys : List Int, j ≤ 3 ∧ i = .int .i64 j ∧ Hid (ys.length = m) ∧ Hid (CardFrom w1.heap.size wr A1 ys) ∧ Hid (Below w.heap.size w wr) ∧ Hid (Src wr B g (0 + 100 + 2 + 2 * (3 - j))) ∧ wr.cell? ⟨q, 0, none⟩ = some (.slice A1 m cap1) ∧ wr.cell? ⟨w.heap.size, 0, none⟩ = some (.slice none 0 0) ∧ wr.frozen? ⟨w.heap.size, 0, none⟩ = false) (fun i _ => (intOf i).toNat)
  case atStart => exact ⟨k, xs, by omega, rfl, HM.out, CF4.out, B4.out, S4.out.more (by omega), d4, c4, f4⟩
  case round =>
    obtain ⟨j, ys, hj, rfl, HY, HCF, HB, HS, d, c, f⟩ := hrel
    have hout : Hid (∀ V, V = wr.setCell ⟨w.heap.size, 0, none⟩ (.slice A1 m cap1) → DrawsOne w (.returned (.agg #[.slice A1 m cap1])) V) := fun V hV => by
      rw [hV]
      exact ⟨A1, cap1, ys, by rw [HY.out], by rw [HY.out]; exact hl1, (HCF.out.far (by dsimp only; omega) _).lower (by omega), HB.out.setCell (by simp) _⟩
    have c5 := cell_put c (.slice A1 m cap1)
    by_cases hlt : 0 < j
    · obtain ⟨t, rfl⟩ : ∃ t, j = t + 1 := ⟨j - 1, by omega⟩
      have j1 : (0 : Int) < ((t + 1 : Nat) : Int) := by omega
      by_cases hm0 : m = 0
      · subst hm0
        go_wp2
        refine bodyPost_ret (v := .agg #[.slice A1 0 cap1]) (by simp [results, Try.results37, go_sem, c5]) rfl (hout.out _ rfl)
      · have m1 : (0 : Int) < (m : Int) := by omega
        have hy0 : 0 < ys.length := by rw [HY.out]; omega
        obtain ⟨gr, ex, hA, hgr, hrow⟩ := HCF.out hy0
        subst hA
        have hne : gr ≠ q := by
          rintro rfl
          have := hrow.cell hy0
          rw [d] at this
          cases this
        have HP2 := Lib.hid (pick_any wr.drew B g (0 + 100 + 2 + 2 * (3 - (t + 1))) m HS.out (by omega) (by omega) (by omega))
        have cd : wr.drew.cell? ⟨w.heap.size, 0, none⟩ = some (.slice none 0 0) := c
        have fd : wr.drew.frozen? ⟨w.heap.size, 0, none⟩ = false := f
        have dd : wr.drew.cell? ⟨q, 0, none⟩ = some (.slice (some ⟨gr, 0, none⟩) m cap1) := d
        have Rd : Hid (Row wr.drew gr ys ex) := hrow
        have Bd : Hid (Below w.heap.size w wr.drew) := HB.out.drew
        clear hrow hout c5 hy0
        go_wp2
        go_region_with (go_at_call 52; refine HP2.out.mono ?_; rintro e w5 ⟨u, rfl, hu0, hu1, hg, hs⟩; obtain ⟨at_, rfl⟩ : ∃ m : Nat, u = m := ⟨u.toNat, by omega⟩; have c6 := cell_only hg cd (by show w.heap.size ≠ g; omega); have f6 := frozen_only hg cd fd (by show w.heap.size ≠ g; omega); have d6 := cell_only hg dd (by show q ≠ g; omega); have R6 := Lib.hid (Rd.out.only hg (by omega)); have B6 := Lib.hid (below_only Bd.out hg hge); have S6 := Lib.hid hs; have hat : at_ < ys.length := (by rw [HY.out]; omega); have y6 := R6.out.cell hat; have x6 := R6.out.frozen at_; obtain ⟨y, hy⟩ : ∃ y, ys[at_]?.getD 0 = y := ⟨_, rfl⟩; rw [hy] at y6; have HAT := Lib.hid hat; clear hg hs hy hat)
        all_goals
          go_wp2
          go_roundw
          case rel =>
            refine ⟨t, ys.set at_ 4095, by omega, by go_num, ?_, fun _ => ⟨gr, ex, rfl, hgr, R6.out.set HAT.out 4095⟩, B6.out.setCell (by dsimp only; omega) _, (S6.out.far ⟨gr, at_, none⟩ _ (by dsimp only; omega)).more (by omega), ?_, ?_, ?_⟩
            · show _ = _
              rw [List.length_set]
              exact HY.out
            · rw [World.cell?_setCell_other _ _ _ _ (by intro e; injection e with e; omega)]
              exact d6
            · rw [World.cell?_setCell_other _ _ _ _ (by intro e; injection e with e; omega)]
              exact c6
            · rw [World.frozen?_setCell]
              exact f6
          case measure => simp [intOf]
    · obtain rfl : j = 0 := by omega
      have j1 : ¬ (0 : Int) < ((0 : Nat) : Int) := by omega
      go_wp2
      refine bodyPost_ret (v := .agg #[.slice A1 m cap1]) (by simp [results, Try.results37, go_sem, c5]) rfl (hout.out _ rfl)
end Go.Proofs.Ytjfogadcedgndaa
