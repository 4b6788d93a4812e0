/- What spec.l02Spoil leaves at any cell that holds a card: another card, at most 64 columns; of what lay there nothing turns but the source's block, the cell and the card's own numbers. -/
import Derived.Test.YtjfogadcedgndaaBentDraw
import Derived.Test.YtjfogadcedgndaaDrawProg
import Derived.Test.YtjfogadcedgndaaSh2
import Derived.Deep.RegionHeld3
namespace Go.Proofs.Ytjfogadcedgndaa
open Go.ChangeShapes Go.WideShapes Go.ChangeAt Go.RowKit

/-- From w to W nothing has turned but block g, cell o of block p, and block gr. -/
structure GU (w0 w W : World) (g p o gr : Nat) : Prop where
  only : w0.grownBy W (some g)
  size : w.heap.size ≤ W.heap.size
  rest : ∀ i, i < w.heap.size → i ≠ g → i ≠ p → i ≠ gr → W.heap[i]? = w.heap[i]?
  cells : ∀ j, j ≠ o → W.cell? ⟨p, j, none⟩ = w.cell? ⟨p, j, none⟩

section
variable {w0 w W W' : World} {g p o gr : Nat}
theorem GU.start (h : w0.grownBy w (some g)) : GU w0 w w g p o gr := ⟨h, Nat.le_refl _, fun _ _ _ _ _ => rfl, fun _ _ => rfl⟩
theorem GU.step (h : GU w0 w W g p o gr) (hg : W.grownBy W' (some g)) (hpl : p < w.heap.size) (hpg : p ≠ g) : GU w0 w W' g p o gr :=
  ⟨only_step h.only hg, Nat.le_trans h.size hg.size, fun i hi hig hip hir => (hg.block i (Nat.lt_of_lt_of_le hi h.size) (fun e => hig (Option.some.inj e))).trans (h.rest i hi hig hip hir),
    fun j hj => (World.cell?_of_block (hg.block p (Nat.lt_of_lt_of_le hpl h.size) (fun e => hpg (Option.some.inj e)))).trans (h.cells j hj)⟩
theorem GU.box (h : GU w0 w W g p o gr) (hpl : p < w.heap.size) (hpg : p ≠ g) (ob : Obj) : GU w0 w (W.alloc ob) g p o gr := h.step (only_box W ob g) hpl hpg
theorem GU.put (h : GU w0 w W g p o gr) (hp0 : w0.heap.size ≤ p) (u : Value) : GU w0 w (W.setCell ⟨p, o, none⟩ u) g p o gr :=
  ⟨only_far h.only ⟨p, o, none⟩ u hp0, by simpa [World.setCell] using h.size, fun i hi hig hip hir => (Below.heap_setCell W ⟨p, o, none⟩ u i hip).trans (h.rest i hi hig hip hir),
    fun j hj => (World.cell?_setCell_other _ _ _ _ (by intro e; injection e with _ e; exact hj e.symm)).trans (h.cells j hj)⟩
theorem GU.row (h : GU w0 w W g p o gr) (hgr : w0.heap.size ≤ gr) (hne : gr ≠ p) (k : Nat) (u : Value) : GU w0 w (W.setCell ⟨gr, k, none⟩ u) g p o gr :=
  ⟨only_far h.only ⟨gr, k, none⟩ u hgr, by simpa [World.setCell] using h.size, fun i hi hig hip hir => (Below.heap_setCell W ⟨gr, k, none⟩ u i hir).trans (h.rest i hi hig hip hir),
    fun j hj => (World.cell?_setCell_other _ _ _ _ (by intro e; injection e with e _; exact hne e)).trans (h.cells j hj)⟩
theorem GU.drew (h : GU w0 w W g p o gr) : GU w0 w W.drew g p o gr := ⟨⟨h.only.os, h.only.tape, h.only.output, h.only.size, h.only.block⟩, h.size, h.rest, h.cells⟩
end

/-- What spoiling a card in a cell leaves. -/
def SpoiledAt (w0 w : World) (p o gr B g K m : Nat) (e : Ending) (w' : World) : Prop :=
  ∃ A cap xs, (∃ v, e = .returned v) ∧ w'.cell? ⟨p, o, none⟩ = some (.slice A xs.length cap) ∧ w'.frozen? ⟨p, o, none⟩ = false ∧ xs.length ≤ m ∧ CardFrom w0.heap.size w' A xs ∧ GU w0 w w' g p o gr ∧ Src w' B g K

set_option maxRecDepth 100000 in
set_option maxHeartbeats 4000000 in
theorem spoilAt_any (w0 w : World) (B g k p o n cap gr : Nat) (xs : List Int) (ex : List Value) (hG : w0.grownBy w (some g)) (h : Src w B g k) (hk : k ≤ 90000) (hg0 : g < w0.heap.size) (hp0 : w0.heap.size ≤ p) (hc : w.cell? ⟨p, o, none⟩ = some (.slice (some ⟨gr, 0, none⟩) n cap)) (hf : w.frozen? ⟨p, o, none⟩ = false) (hn : xs.length = n) (h1 : 1 ≤ n) (h64 : n ≤ 64) (hgr : w0.heap.size ≤ gr) (hr : Row w gr xs ex) (hne : gr ≠ p) :
    Calls Try.prog 115 #[.pointer (some ⟨g, 0, none⟩), .pointer (some ⟨p, o, none⟩)] w (SpoiledAt w0 w p o gr B g (k + 8) 64) := by
  have hpl : p < w.heap.size := World.block_lt_of_cell? _ _ hc
  have hpg : p ≠ g := by omega
  have HP := Lib.hid (pick_any w B g k 3 h (by omega) (by omega) (by omega))
  have HN := Lib.hid hn
  clear h hn
  go_enter Try.func115, Try.ntmps115
  go_wp2_with fail
  refine HP.out.mono ?_
  rintro e w1 ⟨r, rfl, hr0, hr1, hg, hs⟩
  have c1 := cell_only hg hc (by show p ≠ g; omega)
  have f1 := frozen_only hg hc hf (by show p ≠ g; omega)
  have R1 := Lib.hid (hr.only hg (by omega))
  have G1 := Lib.hid ((GU.start (p := p) (o := o) (gr := gr) hG).step hg hpl hpg)
  have S1 := Lib.hid hs
  clear hg hs hc hf hr hG HP
  rcases (by omega : r = 0 ∨ r = 1 ∨ r = 2) with rfl | rfl | rfl
  · have z1 := World.block_lt_of_cell? _ _ c1
    have d1 := cell_kept c1 (below_box w1 (.cells #[] 2))
    have e1 : (w1.alloc (.cells #[] 2)).frozen? ⟨p, o, none⟩ = false := by rw [(below_box w1 _).frozen z1]; exact f1
    go_wp2
    go_end0
    refine ⟨some ⟨w1.heap.size, 0, none⟩, 0, [], ⟨_, rfl⟩, ?_, ?_, by simp, fun h => absurd h (by simp), ?_, ?_⟩
    · rw [List.length_nil, World.cell?_alloc_lt _ _ _ (by simp [World.setCell]; exact z1)]
      exact cell_put c1 _
    · rw [(below_box _ _).frozen (by simp [World.setCell]; exact z1), World.frozen?_setCell]
      exact f1
    · exact (G1.out.put hp0 _).box hpl hpg _
    · exact ((S1.out.far ⟨p, o, none⟩ _ (by show g < p; omega)).boxed _).more (by omega)
  · have HP2 := Lib.hid (pick_any w1 B g (k + 2) 2 S1.out (by omega) (by omega) (by omega))
    go_wp2_with fail
    refine HP2.out.mono ?_
    rintro e w2 ⟨q, rfl, hq0, hq1, hg, hs⟩
    obtain ⟨j, rfl⟩ : ∃ j : Nat, q = j := ⟨q.toNat, by omega⟩
    have c2 := cell_only hg c1 (by show p ≠ g; omega)
    have f2 := frozen_only hg c1 f1 (by show p ≠ g; omega)
    have G2 := Lib.hid (G1.out.step hg hpl hpg)
    have S2 := Lib.hid hs
    have hmk := run_make_row' (P := Try.prog) 24 2 (.int .i64 0) 8 Try.underlying24 info_int64 rfl .i64 .i64 (20 + j) (by omega) (by omega)
    rw [show ((20 + j : Nat) : Int) = 20 + (j : Int) by omega] at hmk
    have z2 := World.block_lt_of_cell? _ _ c2
    have z3 := S2.out.lt
    clear hg hs HP2 c1 f1 G1 S1
    go_wp2
    go_end0
    refine ⟨some ⟨w2.heap.size, 0, none⟩, 20 + j, List.replicate (20 + j) 0, ⟨_, rfl⟩, ?_, ?_, by simp; omega, fun _ => ⟨w2.heap.size, [], rfl, Nat.le_trans hp0 (Nat.le_of_lt z2), ?_⟩, ?_, ?_⟩
    · rw [List.length_replicate, World.cell?_alloc_lt _ _ _ (by simp [World.setCell]; exact z2)]
      exact cell_put c2 _
    · rw [(below_box _ _).frozen (by simp [World.setCell]; exact z2), World.frozen?_setCell]
      exact f2
    · rw [madeCells_int]
      exact Row.new_at _ _ (by simp [World.setCell])
    · exact (G2.out.put hp0 _).box hpl hpg _
    · exact ((S2.out.far ⟨p, o, none⟩ _ (by show g < p; omega)).boxed _).more (by omega)
  · have hn0 : (0 : Int) < (n : Int) := by omega
    have HPK : Hid (∀ W, Src W B g (k + 2) → Calls Try.prog 52 #[.pointer (some ⟨g, 0, none⟩), .int .i64 n] W fun e w' => ∃ r : Nat, e = .returned (.int .i64 r) ∧ r < n ∧ W.grownBy w' (some g) ∧ Src w' B g (k + 2 + 2)) := fun W hS =>
      (pick_any W B g (k + 2) n hS (by omega) (by omega) (by omega)).mono (by
        rintro e w' ⟨r, rfl, hr0, hr1, hg, hs⟩
        exact ⟨r.toNat, by rw [Int.toNat_of_nonneg hr0], by omega, hg, hs⟩)
    have HAM : Hid (∀ W bk, Src W B g (k + 2 + 2) → bk ≠ g → W.heap[bk]? = some (.cells #[.int .i64 (-1), .int .i64 0, .int .i64 4095, .int .i64 4096, .int .i64 (-9223372036854775808)] 2) → Calls Try.prog 83 #[.pointer (some ⟨g, 0, none⟩), .slice (some ⟨bk, 0, none⟩) 5 5] W fun e w' => ∃ x : Int, e = .returned (.int .i64 x) ∧ W.grownBy w' (some g) ∧ Src w' B g (k + 2 + 2 + 2)) := fun W bk hS hbk hh =>
      (among_any W B g (k + 2 + 2) bk 5 [-1, 0, 4095, 4096, -9223372036854775808] hS (by omega) (by simp) (by simp) hbk (fun j x hj => by
        rw [cell_of_row W bk j _ _ _ hh]
        match j, hj with
        | 0, hj => injection hj with hj; subst hj; rfl
        | 1, hj => injection hj with hj; subst hj; rfl
        | 2, hj => injection hj with hj; subst hj; rfl
        | 3, hj => injection hj with hj; subst hj; rfl
        | 4, hj => injection hj with hj; subst hj; rfl)).mono (by
        rintro e w' ⟨x, _, rfl, hg, hs⟩
        exact ⟨x, rfl, hg, hs⟩)
    have z1 := World.block_lt_of_cell? _ _ c1
    have c1d : w1.drew.cell? ⟨p, o, none⟩ = some (.slice (some ⟨gr, 0, none⟩) n cap) := c1
    have f1d : w1.drew.frozen? ⟨p, o, none⟩ = false := f1
    have S1d : Hid (Src w1.drew B g (k + 2)) := S1
    have R1d : Hid (Row w1.drew gr xs ex) := R1
    have G1d := Lib.hid G1.out.drew
    have c1l : (w1.alloc (.cells #[.int .i64 (-1), .int .i64 0, .int .i64 4095, .int .i64 4096, .int .i64 (-9223372036854775808)] 2)).drew.cell? ⟨p, o, none⟩ = some (.slice (some ⟨gr, 0, none⟩) n cap) := by
      show (w1.alloc (.cells #[.int .i64 (-1), .int .i64 0, .int .i64 4095, .int .i64 4096, .int .i64 (-9223372036854775808)] 2)).cell? ⟨p, o, none⟩ = _
      exact cell_kept c1 (below_box w1 (.cells #[.int .i64 (-1), .int .i64 0, .int .i64 4095, .int .i64 4096, .int .i64 (-9223372036854775808)] 2))
    have f1l : (w1.alloc (.cells #[.int .i64 (-1), .int .i64 0, .int .i64 4095, .int .i64 4096, .int .i64 (-9223372036854775808)] 2)).drew.frozen? ⟨p, o, none⟩ = false := by
      show (w1.alloc (.cells #[.int .i64 (-1), .int .i64 0, .int .i64 4095, .int .i64 4096, .int .i64 (-9223372036854775808)] 2)).frozen? ⟨p, o, none⟩ = false
      rw [(below_box w1 _).frozen z1]
      exact f1
    have R1l : Hid (Row (w1.alloc (.cells #[.int .i64 (-1), .int .i64 0, .int .i64 4095, .int .i64 4096, .int .i64 (-9223372036854775808)] 2)).drew gr xs ex) := R1.out.alloc (.cells #[.int .i64 (-1), .int .i64 0, .int .i64 4095, .int .i64 4096, .int .i64 (-9223372036854775808)] 2)
    have S1l : Hid (Src (w1.alloc (.cells #[.int .i64 (-1), .int .i64 0, .int .i64 4095, .int .i64 4096, .int .i64 (-9223372036854775808)] 2)).drew B g (k + 2)) := S1.out.boxed (.cells #[.int .i64 (-1), .int .i64 0, .int .i64 4095, .int .i64 4096, .int .i64 (-9223372036854775808)] 2)
    have G1l := Lib.hid (G1.out.box hpl hpg (.cells #[.int .i64 (-1), .int .i64 0, .int .i64 4095, .int .i64 4096, .int .i64 (-9223372036854775808)] 2)).drew
    have h1l : Hid ((w1.alloc (.cells #[.int .i64 (-1), .int .i64 0, .int .i64 4095, .int .i64 4096, .int .i64 (-9223372036854775808)] 2)).drew.heap[w1.heap.size]? = some (.cells #[.int .i64 (-1), .int .i64 0, .int .i64 4095, .int .i64 4096, .int .i64 (-9223372036854775808)] 2)) := heap_alloc_new w1 (.cells #[.int .i64 (-1), .int .i64 0, .int .i64 4095, .int .i64 4096, .int .i64 (-9223372036854775808)] 2)
    have b1 : Hid (w1.heap.size ≠ g) := Nat.ne_of_gt S1.out.lt
    go_wp2
    go_region_with (first
      | (go_at_call 52; refine (HPK.out w1.drew S1d.out).mono ?_; rintro e w2 ⟨r, rfl, hrn, hg, hs⟩; have c2 := cell_only hg c1d (by show p ≠ g; omega); have f2 := frozen_only hg c1d f1d (by show p ≠ g; omega); have R2 := Lib.hid (R1d.out.only hg (by omega)); have G2 := Lib.hid (G1d.out.step hg hpl hpg); have S2 := Lib.hid hs; have c3 := cell_kept c2 (below_box w2 (.cells #[.int .i64 (-1), .int .i64 0, .int .i64 4095, .int .i64 4096, .int .i64 (-9223372036854775808)] 2)); have f3 : (w2.alloc (.cells #[.int .i64 (-1), .int .i64 0, .int .i64 4095, .int .i64 4096, .int .i64 (-9223372036854775808)] 2)).frozen? ⟨p, o, none⟩ = false := (by rw [(below_box w2 _).frozen (World.block_lt_of_cell? _ _ c2)]; exact f2); have R3 := Lib.hid (R2.out.alloc (.cells #[.int .i64 (-1), .int .i64 0, .int .i64 4095, .int .i64 4096, .int .i64 (-9223372036854775808)] 2)); have S3 := Lib.hid (S2.out.boxed (.cells #[.int .i64 (-1), .int .i64 0, .int .i64 4095, .int .i64 4096, .int .i64 (-9223372036854775808)] 2)); have h3 := Lib.hid (heap_alloc_new w2 (.cells #[.int .i64 (-1), .int .i64 0, .int .i64 4095, .int .i64 4096, .int .i64 (-9223372036854775808)] 2)); have G3 := Lib.hid (G2.out.box hpl hpg (.cells #[.int .i64 (-1), .int .i64 0, .int .i64 4095, .int .i64 4096, .int .i64 (-9223372036854775808)] 2)); have b3 := Lib.hid (Nat.ne_of_gt S2.out.lt); clear hg hs; have i0 : (0 : Int) ≤ (r : Int) := Int.natCast_nonneg _; have i1 : (r : Int) < (n : Int) := (by omega))
      | (go_at_call 52; refine (HPK.out ((w1.alloc (.cells #[.int .i64 (-1), .int .i64 0, .int .i64 4095, .int .i64 4096, .int .i64 (-9223372036854775808)] 2)).drew) S1l.out).mono ?_; rintro e w2 ⟨r, rfl, hrn, hg, hs⟩; have c2 := cell_only hg c1l (by show p ≠ g; omega); have f2 := frozen_only hg c1l f1l (by show p ≠ g; omega); have R2 := Lib.hid (R1l.out.only hg (by omega)); have G2 := Lib.hid (G1l.out.step hg hpl hpg); have S2 := Lib.hid hs; have h2 := Lib.hid ((hg.block w1.heap.size (by simp [World.drew]) (fun e => b1.out (Option.some.inj e))).trans h1l.out); clear hg hs; have i0 : (0 : Int) ≤ (r : Int) := Int.natCast_nonneg _; have i1 : (r : Int) < (n : Int) := (by omega))
      | (go_at_call 83; refine (HAM.out (w2.alloc (.cells #[.int .i64 (-1), .int .i64 0, .int .i64 4095, .int .i64 4096, .int .i64 (-9223372036854775808)] 2)) w2.heap.size S3.out b3.out h3.out).mono ?_; rintro e w3 ⟨x, rfl, hg, hs⟩; have c4 := cell_only hg c3 (by show p ≠ g; omega); have f4 := frozen_only hg c3 f3 (by show p ≠ g; omega); have R4 := Lib.hid (R3.out.only hg (by omega)); have G4 := Lib.hid (G3.out.step hg hpl hpg); have S4 := Lib.hid hs; have y4 := R4.out.cell (i := r) (by rw [HN.out]; exact hrn); have x4 := R4.out.frozen r; obtain ⟨y, hy⟩ : ∃ y, xs[r]?.getD 0 = y := ⟨_, rfl⟩; rw [hy] at y4; clear hg hs hy)
      | (go_at_call 83; refine (HAM.out w2 w1.heap.size S2.out b1.out h2.out).mono ?_; rintro e w3 ⟨x, rfl, hg, hs⟩; have c4 := cell_only hg c2 (by show p ≠ g; omega); have f4 := frozen_only hg c2 f2 (by show p ≠ g; omega); have R4 := Lib.hid (R2.out.only hg (by omega)); have G4 := Lib.hid (G2.out.step hg hpl hpg); have S4 := Lib.hid hs; have y4 := R4.out.cell (i := r) (by rw [HN.out]; exact hrn); have x4 := R4.out.frozen r; obtain ⟨y, hy⟩ : ∃ y, xs[r]?.getD 0 = y := ⟨_, rfl⟩; rw [hy] at y4; clear hg hs hy))
    all_goals
      go_wp2
      go_end0
      refine ⟨some ⟨gr, 0, none⟩, cap, xs.set r x, ⟨_, rfl⟩, ?_, ?_, by simp; rw [HN.out]; exact h64, fun _ => ⟨gr, ex, rfl, hgr, R4.out.set (by rw [HN.out]; exact hrn) x⟩, ?_, ?_⟩
      · rw [List.length_set, HN.out, World.cell?_setCell_other _ _ _ _ (by intro e; injection e with e; exact hne e)]
        exact c4
      · rw [World.frozen?_setCell]
        exact f4
      · exact G4.out.row hgr hne r _
      · exact (S4.out.far ⟨gr, r, none⟩ _ (by show g < gr; omega)).more (by omega)
end Go.Proofs.Ytjfogadcedgndaa
