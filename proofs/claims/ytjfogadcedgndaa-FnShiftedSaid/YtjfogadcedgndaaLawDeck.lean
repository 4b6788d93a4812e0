/- What opens a law's row whose arguments are lists of cards: such an argument lies in memory as a Deck. For every program of this seat's rows; no condition. -/
import Derived.Test.YtjfogadcedgndaaLaw
import Derived.Test.YtjfogadcedgndaaDecks
import Derived.Deep.Slices
namespace Go.Proofs.Ytjfogadcedgndaa
open Go.ChangeShapes Go.WideShapes Go.ChangeAt Go.RowKit

instance : Inhabited CardV := ⟨⟨none, 0, []⟩⟩

section
variable {H : Type} {enc : TypeId × Value → H}

end

theorem szTo_each (D : List CardV) (d : CardV) (hd : d ∈ D) : d.xs.length ≤ szTo D D.length := by
  obtain ⟨k, hk, rfl⟩ := List.mem_iff_getElem.1 hd
  have h1 := szTo_succ D k D[k] (List.getElem?_eq_getElem hk)
  have h2 := szTo_mono D (k + 1) (D.length - (k + 1))
  rw [show k + 1 + (D.length - (k + 1)) = D.length by omega] at h2
  omega
theorem szTo_len (D : List CardV) : D.length ≤ szTo D D.length := by unfold szTo; omega
theorem holes_length {D E : List CardV} (h : holes E = holes D) : E.length = D.length := by
  have := congrArg List.length h
  simpa [holes] using this
theorem holes_each {D E : List CardV} {m : Nat} (h : holes E = holes D) (hl : ∀ d ∈ D, d.xs.length ≤ m) : ∀ d ∈ E, d.xs.length ≤ m := fun d hd => by
  have h1 : d.xs ∈ holes E := List.mem_map.2 ⟨d, hd, rfl⟩
  rw [h] at h1
  obtain ⟨e, he, hx⟩ := List.mem_map.1 h1
  have := hl e he
  rw [hx] at this
  exact this
theorem OwnDeck.deck' {w : World} {g n : Nat} {E : List CardV} (h : OwnDeck w g E n) (hE : E.length = n) : Deck w w.heap.size (some ⟨g, 0, none⟩) E := by
  subst hE
  exact h.deck
end Go.Proofs.Ytjfogadcedgndaa
