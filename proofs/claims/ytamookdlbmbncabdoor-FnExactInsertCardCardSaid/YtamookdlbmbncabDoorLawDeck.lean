/- What opens a law's row whose arguments are lists of cards: such an argument lies in memory as a Deck. For every program of this seat's rows; no condition. -/
import Derived.Test.YtamookdlbmbncabDoorLaw
import Derived.Test.YtamookdlbmbncabDoorDecks
import Derived.Deep.Slices
namespace Go.Proofs.YtamookdlbmbncabDoor
open Go.ChangeShapes Go.WideShapes Go.ChangeAt Go.RowKit

instance : Inhabited CardV := ⟨⟨none, 0, []⟩⟩

section
variable {H : Type} {enc : TypeId × Value → H}

theorem card_cell {W : World} {n : Nat} {c0 : Value} {y : DataW H × List MemPlace} (hf : DataW.trod enc Tryd.prog W 0 (fun _ => true) true n 25 [c0] = some y) :
    ∃ d : CardV, c0 = d.value ∧ Ints W W.heap.size d.at_ d.xs ∧ d.xs.length ≤ 9223372036854775807 := by
  obtain ⟨y0, n, _, _, hy⟩ := trod_struct1 Tryd.underlying25 hf
  have hc1 : Tryd.prog.cellsOf 23 = 1 := by kernel_rfl
  have hy' : DataW.trod enc Tryd.prog W 0 (fun _ => true) true n 23 [c0] = some y0 := by
    rw [hc1] at hy
    simpa using hy
  rcases open_ints Tryd.underlying23 Tryd.underlying2 (by kernel_rfl) hy' with ⟨hcs, _⟩ | ⟨a, len, cap, zs, hcs, _, hl, hm, hz, _, hcell, hwf⟩
  · obtain rfl : c0 = .slice none 0 0 := by simpa using hcs
    exact ⟨⟨none, 0, []⟩, rfl, Ints.nil, by simp⟩
  · obtain rfl : c0 = .slice (some a) len cap := by simpa using hcs
    simp only [if_true] at hz
    have hlen : (zs.take len).length = len := by simp; omega
    unfold maxLen at hm
    refine ⟨⟨some a, cap, zs.take len⟩, by rw [CardV.value, hlen], ?_, by show (zs.take len).length ≤ _; omega⟩
    intro h0
    replace h0 : 0 < (zs.take len).length := h0
    obtain ⟨b', off, rfl, hc⟩ := ints_at hcell (by omega)
    refine ⟨b', off, rfl, ?_, fun i hi => ?_⟩
    · exact World.block_lt_of_cell? _ _ (hc 0 (by omega))
    · replace hi : i < (zs.take len).length := hi
      rw [hc i (by omega)]
      show _ = some (Value.int .i64 ((zs.take len)[i]?.getD 0))
      rw [List.getElem?_take_of_lt (by omega)]
      rfl

set_option maxRecDepth 100000 in
/-- A list of cards that comes in. -/
theorem open_deck {W : World} {b : Nat} {r : Reach} {v : Value} {d : DataW H} {p : List MemPlace} (hv : Value.okWide Tryd.prog W r b 22 v) (h : DataW.Trod enc Tryd.prog W 0 (fun _ => true) true 22 v d p) :
    ∃ A c D, v = .slice A (List.length D) c ∧ Deck W W.heap.size A D ∧ (D.length ≤ 9223372036854775807 ∧ ∀ d ∈ D, d.xs.length ≤ 9223372036854775807) := by
  obtain ⟨A, len, cap, rfl⟩ := okWide_slice Tryd.underlying22 hv
  obtain ⟨fuel, hf⟩ := h
  have hf' : DataW.trod enc Tryd.prog W 0 (fun _ => true) true fuel 22 [.slice A len cap] = some (d, p) := hf
  rcases Go.Deep.open_slice1 Tryd.underlying22 (by kernel_rfl) hf' with ⟨hcs, _⟩ | ⟨a, len', cap', m, n, V, Dd, Pl, hcs, _, hl, hm, hmm, _, hx⟩
  · simp only [List.cons.injEq, Value.slice.injEq, and_true] at hcs
    obtain ⟨rfl, rfl, rfl⟩ := hcs
    exact ⟨none, 0, [], rfl, Deck.nil, by simp, by simp⟩
  · simp only [List.cons.injEq, Value.slice.injEq, and_true] at hcs
    obtain ⟨rfl, rfl, rfl⟩ := hcs
    simp only [if_true] at hmm
    subst hmm
    have each : ∀ i, i < len → ∃ e : CardV, V i = e.value ∧ Ints W W.heap.size e.at_ e.xs ∧ e.xs.length ≤ 9223372036854775807 := fun i hi => card_cell (hx i (by omega)).2
    obtain ⟨E, hE⟩ := Go.Deep.choose_lt each
    have hlen : ((List.range len).map E).length = len := by simp
    unfold maxLen at hm
    refine ⟨some a, m, (List.range len).map E, by rw [hlen], ?_, by omega, ?_⟩
    · intro h0
      rw [hlen] at h0
      obtain ⟨b', off, spot⟩ := a
      have hspot : spot = none := by simpa [Addr.add] using World.cell?_spot (hx 0 (by omega)).1
      subst hspot
      have hcell : ∀ i, i < len → W.cell? ⟨b', off + i, none⟩ = some (V i) := fun i hi => by rw [← Go.WideShapes.add_plain]; exact (hx i (by omega)).1
      refine ⟨b', off, rfl, World.block_lt_of_cell? _ _ (hcell 0 h0), fun i d hi => ?_⟩
      obtain ⟨hi1, hi2⟩ := List.getElem?_eq_some_iff.1 hi
      rw [hlen] at hi1
      obtain rfl : E i = d := by simpa using hi2
      obtain ⟨h1, h2, _⟩ := hE i hi1
      exact ⟨by rw [hcell i hi1, h1], h2⟩
    · intro d hd
      obtain ⟨i, hi, rfl⟩ := List.mem_map.1 hd
      exact (hE i (List.mem_range.1 hi)).2.2
end

theorem szTo_each (D : List CardV) (d : CardV) (hd : d ∈ D) : d.xs.length ≤ szTo D D.length := by
  obtain ⟨k, hk, rfl⟩ := List.mem_iff_getElem.1 hd
  have h1 := szTo_succ D k D[k] (List.getElem?_eq_getElem hk)
  have h2 := szTo_mono D (k + 1) (D.length - (k + 1))
  rw [show k + 1 + (D.length - (k + 1)) = D.length by omega] at h2
  omega
theorem szTo_len (D : List CardV) : D.length ≤ szTo D D.length := by unfold szTo; omega
theorem holes_length {D E : List CardV} (h : holes E = holes D) : E.length = D.length := by
  have := congrArg List.length h
  simpa [holes] using this
theorem holes_each {D E : List CardV} {m : Nat} (h : holes E = holes D) (hl : ∀ d ∈ D, d.xs.length ≤ m) : ∀ d ∈ E, d.xs.length ≤ m := fun d hd => by
  have h1 : d.xs ∈ holes E := List.mem_map.2 ⟨d, hd, rfl⟩
  rw [h] at h1
  obtain ⟨e, he, hx⟩ := List.mem_map.1 h1
  have := hl e he
  rw [hx] at this
  exact this
theorem OwnDeck.deck' {w : World} {g n : Nat} {E : List CardV} (h : OwnDeck w g E n) (hE : E.length = n) : Deck w w.heap.size (some ⟨g, 0, none⟩) E := by
  subst hE
  exact h.deck
end Go.Proofs.YtamookdlbmbncabDoor
