/- The laws' helpers on lists of cards (sizes, copies, comparisons) answer what they should, for every list of cards of at most 1048576 cards and columns together: contracts of laws.szCardS, toCardS, eqCardS. -/
import Derived.Test.YtdakbbgbglgioaaDoorInts
import Derived.Deep.RegionHeld3
namespace Go.Proofs.YtdakbbgbglgioaaDoor
open Go.ChangeShapes Go.WideShapes Go.ChangeAt Go.RowKit

/-- a card in memory: its slice's address and capacity, and its numbers -/
structure CardV where
  at_ : Option Addr
  cap : Nat
  xs : List Int
def CardV.value (d : CardV) : Value := .slice d.at_ d.xs.length d.cap
def holes (D : List CardV) : List (List Int) := D.map (·.xs)

/-- The cards at address A, in a block below B, are D, and their numbers lie below B too. -/
def Deck (w : World) (B : Nat) (A : Option Addr) (D : List CardV) : Prop :=
  0 < D.length → ∃ b off, A = some ⟨b, off, none⟩ ∧ b < B ∧ ∀ (i : Nat) (d : CardV), D[i]? = some d → w.cell? ⟨b, off + i, none⟩ = some d.value ∧ Ints w B d.at_ d.xs

section
variable {w w' : World} {B B' : Nat} {A : Option Addr} {D : List CardV}
theorem Deck.nil : Deck w B A [] := fun h => absurd h (by simp)
theorem Deck.moved (h : Deck w B A D) (hk : ∀ p : Addr, p.block < B → w'.cell? p = w.cell? p) : Deck w' B A D := fun hn => by
  obtain ⟨b, off, rfl, hb, hc⟩ := h hn
  exact ⟨b, off, rfl, hb, fun i d hi => ⟨(hk ⟨b, off + i, none⟩ hb).trans (hc i d hi).1, (hc i d hi).2.moved hk⟩⟩
theorem Deck.more (h : Deck w B A D) (hB : B ≤ B') : Deck w B' A D := fun hn => by
  obtain ⟨b, off, rfl, hb, hc⟩ := h hn
  exact ⟨b, off, rfl, by omega, fun i d hi => ⟨(hc i d hi).1, (hc i d hi).2.more hB⟩⟩
theorem Deck.below (h : Deck w B A D) (hb : Below B w w') : Deck w' B A D := h.moved fun _ hp => hb.cell hp
theorem Deck.drew (h : Deck w B A D) : Deck w.drew B A D := h.moved fun _ _ => rfl
theorem Deck.alloc (h : Deck w B A D) (hB : B ≤ w.heap.size) (o : Obj) : Deck (w.alloc o) B A D := h.moved fun p hp => World.cell?_alloc_lt w o p (by omega)
end

/-- how much is counted after k cards -/
def szTo (D : List CardV) (k : Nat) : Nat := D.length + ((D.take k).map fun d => d.xs.length).sum
theorem szTo_zero (D : List CardV) : szTo D 0 = D.length := by simp [szTo]
theorem szTo_succ (D : List CardV) (k : Nat) (d : CardV) (h : D[k]? = some d) : szTo D (k + 1) = szTo D k + d.xs.length := by
  obtain ⟨hk, rfl⟩ := List.getElem?_eq_some_iff.1 h
  have e : (D.take (k + 1)).map (fun d => d.xs.length) = (D.take k).map (fun d => d.xs.length) ++ [D[k].xs.length] := by
    rw [List.take_succ_eq_append_getElem hk, List.map_append]
    rfl
  rw [szTo, szTo, e, List.sum_append]
  simp
  omega
theorem szTo_mono (D : List CardV) (k : Nat) : ∀ j, szTo D k ≤ szTo D (k + j)
  | 0 => Nat.le_refl _
  | j + 1 => by
    have := szTo_mono D k j
    cases h : D[k + j]? with
    | none =>
      have hl := List.getElem?_eq_none_iff.1 h
      have : szTo D (k + (j + 1)) = szTo D (k + j) := by
        unfold szTo
        rw [List.take_of_length_le (by omega), List.take_of_length_le (by omega)]
      omega
    | some d =>
      have := szTo_succ D (k + j) d h
      have e : k + (j + 1) = k + j + 1 := by omega
      rw [e]
      omega

/-- the value of a card's cell -/
def cellsOf (E : List CardV) (n : Nat) : List Value := E.map CardV.value ++ List.replicate (n - E.length) (.slice none 0 0)

theorem info_card : (Tryd.prog.info? 36).map (fun i => (i.zero, i.size, i.bytes)) = some (some (.agg #[.slice none 0 0]), 1, 24) := by kernel_rfl

theorem cellsOf_length (E : List CardV) (n : Nat) (h : E.length ≤ n) : (cellsOf E n).length = n := by simp [cellsOf]; omega
theorem cellsOf_set (E : List CardV) (n : Nat) (e : CardV) (h : E.length < n) : (cellsOf E n).set E.length e.value = cellsOf (E ++ [e]) n := by
  unfold cellsOf
  rw [List.set_append_right _ _ (by simp)]
  obtain ⟨m, hm⟩ : ∃ m, n - E.length = m + 1 := ⟨n - E.length - 1, by omega⟩
  have hm2 : n - (E ++ [e]).length = m := by simp; omega
  rw [hm, hm2]
  simp [List.replicate_succ]
theorem cellsOf_get (E : List CardV) (n i : Nat) (e : CardV) (h : E[i]? = some e) : (cellsOf E n)[i]? = some e.value := by
  obtain ⟨hi, rfl⟩ := List.getElem?_eq_some_iff.1 h
  rw [cellsOf, List.getElem?_append_left (by simpa using hi)]
  simp [hi]

/-- A list of cards in memory of its own: the block g of the cards, and for each card a block of its own behind it. -/
structure OwnDeck (w : World) (g : Nat) (E : List CardV) (n : Nat) : Prop where
  cards : w.heap[g]? = some (.cells (cellsOf E n).toArray 36 (0, 0))
  each : ∀ e ∈ E, ∃ ge, e.at_ = some ⟨ge, 0, none⟩ ∧ g < ge ∧ e.cap = e.xs.length ∧ Row w ge e.xs []

section
variable {w w' : World} {g n : Nat} {E : List CardV}
theorem OwnDeck.lt (h : OwnDeck w g E n) : g < w.heap.size := by
  rcases Nat.lt_or_ge g w.heap.size with hlt | hge
  · exact hlt
  · have := h.cards
    rw [Array.getElem?_eq_none hge] at this
    cases this
theorem OwnDeck.later (h : OwnDeck w g E n) (hb : Below w.heap.size w w') : OwnDeck w' g E n :=
  ⟨(hb.block g h.lt).trans h.cards, fun e he => by
    obtain ⟨ge, h1, h2, h3, h4⟩ := h.each e he
    exact ⟨ge, h1, h2, h3, h4.later hb⟩⟩
theorem OwnDeck.drew (h : OwnDeck w g E n) : OwnDeck w.drew g E n := ⟨h.cards, fun e he => by
  obtain ⟨ge, h1, h2, h3, h4⟩ := h.each e he
  exact ⟨ge, h1, h2, h3, h4.drew⟩⟩
theorem OwnDeck.alloc (h : OwnDeck w g E n) (o : Obj) : OwnDeck (w.alloc o) g E n := h.later (below_box w o)
theorem OwnDeck.cell (h : OwnDeck w g E n) (i : Nat) : w.cell? ⟨g, i, none⟩ = (cellsOf E n)[i]? := by
  rw [cell_of_row w g i _ _ _ h.cards]
  simp
theorem OwnDeck.frozen (h : OwnDeck w g E n) (i : Nat) : w.frozen? ⟨g, i, none⟩ = false := by
  have := h.cards
  simp [World.frozen?, this]
theorem OwnDeck.put (h : OwnDeck w g E n) (e : CardV) (ge : Nat) (hn : E.length < n) (h1 : e.at_ = some ⟨ge, 0, none⟩) (h2 : g < ge) (h3 : e.cap = e.xs.length) (h4 : Row w ge e.xs []) :
    OwnDeck (w.setCell ⟨g, E.length, none⟩ e.value) g (E ++ [e]) n := by
  refine ⟨?_, fun x hx => ?_⟩
  · have hc := h.cards
    simp only [World.setCell, Array.getElem?_modify, if_true, hc, Option.map_some]
    congr 2
    apply Array.ext'
    simp [cellsOf_set E n e hn]
  · rcases List.mem_append.1 hx with hx | hx
    · obtain ⟨gx, a1, a2, a3, a4⟩ := h.each x hx
      exact ⟨gx, a1, a2, a3, a4.far (by show gx ≠ g; omega) _⟩
    · obtain rfl : x = e := by simpa using hx
      exact ⟨ge, h1, h2, h3, h4.far (by show ge ≠ g; omega) _⟩
theorem OwnDeck.deck (h : OwnDeck w g E E.length) : Deck w w.heap.size (some ⟨g, 0, none⟩) E := fun _ => by
  refine ⟨g, 0, rfl, h.lt, fun i d hi => ?_⟩
  rw [Nat.zero_add, h.cell i, cellsOf_get E _ i d hi]
  obtain ⟨ge, h1, h2, _, h4⟩ := h.each d (List.mem_of_getElem? hi)
  refine ⟨rfl, ?_⟩
  rw [h1]
  exact h4.ints.more h4.lt
end

theorem takeL_more (xs ys : List (List Int)) (k : Nat) (x y : List Int) (hx : xs[k]? = some x) (hy : ys[k]? = some y) (h : xs.take k = ys.take k) (e : x = y) : xs.take (k + 1) = ys.take (k + 1) := by
  obtain ⟨h1, rfl⟩ := List.getElem?_eq_some_iff.1 hx
  obtain ⟨h2, rfl⟩ := List.getElem?_eq_some_iff.1 hy
  rw [List.take_succ_eq_append_getElem h1, List.take_succ_eq_append_getElem h2, h, e]

end Go.Proofs.YtdakbbgbglgioaaDoor