/- What spec.DrawNearestCard gives: a list of cards, be it a deck or none, and a card, in memory of their own. -/
import Derived.Test.YtjfogadcedgndaaBent
import Derived.Test.YtjfogadcedgndaaBentDeck
namespace Go.Proofs.Ytjfogadcedgndaa
open Go.ChangeShapes Go.WideShapes Go.ChangeAt Go.RowKit

theorem DeckFrom.only {base g gq : Nat} {W W' : World} {D : List CardV} (h : DeckFrom base W gq D) (hg : W.grownBy W' (some g)) (hb : g < base) : DeckFrom base W' gq D :=
  ⟨h.1, Nat.lt_of_lt_of_le h.2.1 hg.size, fun i d hd => ⟨cell_only hg (h.2.2 i d hd).1 (by have := h.1; show gq ≠ g; omega), (h.2.2 i d hd).2.only hg hb⟩⟩
theorem DeckFrom.far {base gq : Nat} {W : World} {D : List CardV} (h : DeckFrom base W gq D) {p : Addr} (hp : p.block < base) (u : Value) : DeckFrom base (W.setCell p u) gq D :=
  ⟨h.1, by simpa [World.setCell] using h.2.1, fun i d hd => ⟨by rw [World.cell?_setCell_other _ _ _ _ (by rintro rfl; have := h.1; simp at hp; omega)]; exact (h.2.2 i d hd).1, (h.2.2 i d hd).2.far hp u⟩⟩

/-- A list of cards and a card. -/
def DrawsDeckCard (w : World) (e : Ending) (w' : World) : Prop :=
  ∃ gq cq D A cap ys, e = .returned (.tuple #[.slice (some ⟨gq, 0, none⟩) (List.length D) cq, .agg #[.slice A ys.length cap]]) ∧ D.length ≤ 41 ∧ (∀ d ∈ D, d.xs.length ≤ 64) ∧ ys.length ≤ 64 ∧ DeckFrom w.heap.size w' gq D ∧ CardFrom w.heap.size w' A ys ∧ Below w.heap.size w w'

set_option maxRecDepth 100000 in
set_option maxHeartbeats 4000000 in
theorem drawNearest_any (A : Option Addr) (n c B : Nat) (w : World) (h : BytesAt w B A n) (hB : B ≤ w.heap.size) (hn : n ≤ 4096) :
    Calls Try.prog 40 #[.slice A n c] w (DrawsDeckCard w) := by
  have b0 := below_box w (.cells #[.slice none 0 0] 26)
  have HC := Lib.hid (l00From_any A n c B (w.alloc (.cells #[.slice none 0 0] 26)) (h.below (b0.mono hB)) (by simp; omega) hn)
  have c0 : (w.alloc (.cells #[.slice none 0 0] 26)).cell? ⟨w.heap.size, 0, none⟩ = some (.slice none 0 0) := by simp [go_sem]
  have f0 : (w.alloc (.cells #[.slice none 0 0] 26)).frozen? ⟨w.heap.size, 0, none⟩ = false := by simp [go_sem]
  have B0 := Lib.hid b0
  clear h b0
  go_enter Try.func40, Try.ntmps40
  go_wp2_with fail
  refine HC.out.mono ?_
  rintro e w1 ⟨rfl, hb, hs⟩
  have B1 := Lib.hid (below_step B0.out hb)
  have c1 := cell_kept c0 hb
  have f1 : w1.frozen? ⟨w.heap.size, 0, none⟩ = false := by rw [hb.frozen (World.block_lt_of_cell? _ _ c0)]; exact f0
  have gl := hs.lt
  obtain ⟨g, hg0⟩ : ∃ g, (w.alloc (.cells #[.slice none 0 0] 26)).heap.size = g := ⟨_, rfl⟩
  have hge2 : w.heap.size + 1 ≤ g := by rw [← hg0]; simp
  rw [hg0] at hs gl
  have hge : w.heap.size ≤ g := by omega
  have HBT := Lib.hid (l02BentDeck_any B g 0 w1 hs (by omega))
  clear hb hs HC B0 c0 f0
  go_wp2_with fail
  try rw [show w.heap.size + 1 = g by rw [← hg0]; simp]
  try rw [hg0]
  refine HBT.out.mono ?_
  rintro e w2 ⟨gq, cq, D, rfl, hl, hsh, hg, hdk, hs⟩
  have c2 := cell_only hg c1 (by show w.heap.size ≠ g; omega)
  have f2 := frozen_only hg c1 f1 (by show w.heap.size ≠ g; omega)
  have B2 := Lib.hid (below_only B1.out hg hge)
  have D2 := Lib.hid hdk
  have S2 := Lib.hid hs
  have z2 : w1.heap.size ≤ w2.heap.size := hg.size
  have HSH := Lib.hid hsh
  clear hg hs hdk hsh HBT c1 f1 B1
  have LAST : Hid (∀ (W : World), Src W B g (0 + 40000 + 4) → Calls Try.prog 73 #[.pointer (some ⟨g, 0, none⟩)] W (DrawsCard B g (0 + 40000 + 4 + 100) W)) := fun W hS => l03Bent_any B g _ W hS (by omega)
  by_cases h0 : D.length = 0
  · obtain rfl : D = [] := List.eq_nil_of_length_eq_zero h0
    have j0 : ¬ (0 : Int) < ((0 : Nat) : Int) := by omega
    go_wp2_with fail
    refine (LAST.out w2 (S2.out.more (by omega))).mono ?_
    rintro e w5 ⟨A2, cap2, ys, rfl, hy, hcf, hg, hs⟩
    have c5 := cell_only hg c2 (by show w.heap.size ≠ g; omega)
    have f5 := frozen_only hg c2 f2 (by show w.heap.size ≠ g; omega)
    have B5 := Lib.hid (below_only B2.out hg hge)
    have D5 := Lib.hid (D2.out.only hg gl)
    have CF := Lib.hid (hcf.lower z2)
    clear hg hs hcf
    go_wp2
    refine bodyPost_ret (v := .tuple #[.slice (some ⟨gq, 0, none⟩) 0 cq, .agg #[.slice A2 ys.length cap2]]) (by simp [results, Try.results40, go_sem, c5]) rfl ⟨gq, cq, [], A2, cap2, ys, rfl, by simp, HSH.out, hy, (D5.out.far (by dsimp only; omega) _).lower (by omega), (CF.out.far (by dsimp only; omega) _).lower (by omega), B5.out.setCell (by simp) _⟩
  · have j0 : (0 : Int) < (D.length : Int) := by omega
    have HO := Lib.hid (one_any w2 B g (0 + 40000) 5 S2.out (by omega) (by omega) (by omega))
    go_wp2_with fail
    refine HO.out.mono ?_
    rintro e w3 ⟨b, rfl, hg, hs⟩
    have c3 := cell_only hg c2 (by show w.heap.size ≠ g; omega)
    have f3 := frozen_only hg c2 f2 (by show w.heap.size ≠ g; omega)
    have B3 := Lib.hid (below_only B2.out hg hge)
    have D3 := Lib.hid (D2.out.only hg gl)
    have S3 := Lib.hid hs
    have z3 : w1.heap.size ≤ w3.heap.size := Nat.le_trans z2 hg.size
    clear hg hs HO c2 f2 B2 D2 S2
    cases b
    · have HPK := Lib.hid (pick_any w3 B g (0 + 40000 + 2) (D.length : Int) S3.out (by omega) (by omega) (by omega))
      go_wp2_with fail
      refine HPK.out.mono ?_
      rintro e w4 ⟨r, rfl, hr2, hr3, hg, hs⟩
      obtain ⟨j, rfl⟩ : ∃ j : Nat, r = j := ⟨r.toNat, by omega⟩
      have hj : j < D.length := by omega
      have c4 := cell_only hg c3 (by show w.heap.size ≠ g; omega)
      have f4 := frozen_only hg c3 f3 (by show w.heap.size ≠ g; omega)
      have B4 := Lib.hid (below_only B3.out hg hge)
      have hd4 := D3.out.only hg gl
      have z4 : w1.heap.size ≤ w4.heap.size := Nat.le_trans z3 hg.size
      obtain ⟨hcell, hcf⟩ := hd4.2.2 j _ (List.getElem?_eq_getElem hj)
      have HD := Lib.hid (l06DamagedAt_any B g (0 + 40000 + 2 + 2) gq j (D[j]'hj).cap (D[j]'hj).at_ (D[j]'hj).xs w4 hs (by omega) hcell hcf.ints (HSH.out _ (List.getElem_mem hj)))
      have D4 := Lib.hid hd4
      have i1 : (0 : Int) ≤ (j : Int) := Int.natCast_nonneg _
      clear hg hs hd4 hcell hcf HPK c3 f3 B3 D3 S3
      go_wp2_with fail
      refine HD.out.mono ?_
      rintro e w5 ⟨A2, cap2, ys, rfl, hy, hcf, hg, hs⟩
      have c5 := cell_only hg c4 (by show w.heap.size ≠ g; omega)
      have f5 := frozen_only hg c4 f4 (by show w.heap.size ≠ g; omega)
      have B5 := Lib.hid (below_only B4.out hg hge)
      have D5 := Lib.hid (D4.out.only hg gl)
      have CF := Lib.hid (hcf.lower z4)
      clear hg hs hcf HD
      go_wp2
      refine bodyPost_ret (v := .tuple #[.slice (some ⟨gq, 0, none⟩) D.length cq, .agg #[.slice A2 ys.length cap2]]) (by simp [results, Try.results40, go_sem, c5]) rfl ⟨gq, cq, D, A2, cap2, ys, rfl, hl, HSH.out, hy, (D5.out.far (by dsimp only; omega) _).lower (by omega), (CF.out.far (by dsimp only; omega) _).lower (by omega), B5.out.setCell (by simp) _⟩
    · go_wp2_with fail
      refine (LAST.out w3 (S3.out.more (by omega))).mono ?_
      rintro e w5 ⟨A2, cap2, ys, rfl, hy, hcf, hg, hs⟩
      have c5 := cell_only hg c3 (by show w.heap.size ≠ g; omega)
      have f5 := frozen_only hg c3 f3 (by show w.heap.size ≠ g; omega)
      have B5 := Lib.hid (below_only B3.out hg hge)
      have D5 := Lib.hid (D3.out.only hg gl)
      have CF := Lib.hid (hcf.lower z3)
      clear hg hs hcf
      go_wp2
      refine bodyPost_ret (v := .tuple #[.slice (some ⟨gq, 0, none⟩) D.length cq, .agg #[.slice A2 ys.length cap2]]) (by simp [results, Try.results40, go_sem, c5]) rfl ⟨gq, cq, D, A2, cap2, ys, rfl, hl, HSH.out, hy, (D5.out.far (by dsimp only; omega) _).lower (by omega), (CF.out.far (by dsimp only; omega) _).lower (by omega), B5.out.setCell (by simp) _⟩
end Go.Proofs.Ytjfogadcedgndaa
