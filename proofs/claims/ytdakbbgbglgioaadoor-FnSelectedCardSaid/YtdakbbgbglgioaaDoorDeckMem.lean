/- Decks in memory of their own, as the laws about answered decks want them: where their blocks lie, what turns when one of them is marked; contracts of laws.markCardS and heldCardS. -/
import Derived.Test.YtdakbbgbglgioaaDoorDecks
import Derived.Test.YtdakbbgbglgioaaDoorMarks
import Derived.Test.YtdakbbgbglgioaaDoorWithin
namespace Go.Proofs.YtdakbbgbglgioaaDoor
open Go.ChangeShapes Go.WideShapes Go.ChangeAt Go.RowKit

/-- A list of cards whose memory lies in the blocks from lo up to hi: the block of the cards, and a block of its own for the numbers of each card. -/
structure DeckAt (w : World) (lo hi : Nat) (A : Option Addr) (E : List CardV) : Prop where
  top : 0 < E.length → ∃ g, A = some ⟨g, 0, none⟩ ∧ lo ≤ g ∧ g < hi ∧ ∀ (i : Nat) (d : CardV), E[i]? = some d → w.cell? ⟨g, i, none⟩ = some d.value
  rows : ∀ (i : Nat) (d : CardV), E[i]? = some d → ∃ gd ex, d.at_ = some ⟨gd, 0, none⟩ ∧ lo ≤ gd ∧ gd < hi ∧ A ≠ some ⟨gd, 0, none⟩ ∧ Row w gd d.xs ex
  apart : ∀ (i j : Nat) (d e : CardV), i ≠ j → E[i]? = some d → E[j]? = some e → d.at_ ≠ e.at_
  room : hi ≤ w.heap.size

section
variable {w w' : World} {lo hi lo' hi' : Nat} {A : Option Addr} {E : List CardV}
theorem DeckAt.nil (h : hi ≤ w.heap.size) : DeckAt w lo hi A [] := ⟨fun h => absurd h (by simp), fun i d h => by simp at h, fun i j d e _ h => by simp at h, h⟩
theorem DeckAt.later (h : DeckAt w lo hi A E) (hb : Below w.heap.size w w') : DeckAt w' lo hi A E where
  top h0 := by
    obtain ⟨g, hA, h1, h2, h3⟩ := h.top h0
    exact ⟨g, hA, h1, h2, fun i d hd => by
      have hr := h.room
      have := hb.cell (p := ⟨g, i, none⟩) (by show g < _; omega)
      rw [this]
      exact h3 i d hd⟩
  rows i d hd := by
    obtain ⟨gd, ex, h1, h2, h3, h4, h5⟩ := h.rows i d hd
    exact ⟨gd, ex, h1, h2, h3, h4, h5.later hb⟩
  apart := h.apart
  room := Nat.le_trans h.room hb.size
theorem DeckAt.drew (h : DeckAt w lo hi A E) : DeckAt w.drew lo hi A E := ⟨h.top, h.rows, h.apart, h.room⟩
theorem DeckAt.within (h : DeckAt w lo hi A E) (k : Within lo' hi' w w') (hd : hi ≤ lo' ∨ hi' ≤ lo) : DeckAt w' lo hi A E where
  top h0 := by
    obtain ⟨g, hA, h1, h2, h3⟩ := h.top h0
    exact ⟨g, hA, h1, h2, fun i d hd' => k.cell (h3 i d hd') (by show g < _ ∨ _ ≤ g; omega)⟩
  rows i d hd' := by
    obtain ⟨gd, ex, h1, h2, h3, h4, h5⟩ := h.rows i d hd'
    exact ⟨gd, ex, h1, h2, h3, h4, k.row h5 (by omega)⟩
  apart := h.apart
  room := Nat.le_trans h.room k.size
theorem DeckAt.deck (h : DeckAt w lo hi A E) : Deck w w.heap.size A E := fun h0 => by
  obtain ⟨g, hA, h1, h2, h3⟩ := h.top h0
  have hr := h.room
  refine ⟨g, 0, hA, by omega, fun i d hd => ?_⟩
  rw [Nat.zero_add]
  obtain ⟨gd, ex, e1, _, e3, _, e5⟩ := h.rows i d hd
  refine ⟨h3 i d hd, ?_⟩
  rw [e1]
  exact e5.ints.more (by omega)
theorem DeckAt.widen (h : DeckAt w lo hi A E) (h1 : lo' ≤ lo) (h2 : hi ≤ hi') (h3 : hi' ≤ w.heap.size) : DeckAt w lo' hi' A E where
  top h0 := by
    obtain ⟨g, hA, a1, a2, a3⟩ := h.top h0
    exact ⟨g, hA, by omega, by omega, a3⟩
  rows i d hd := by
    obtain ⟨gd, ex, b1, b2, b3, b4, b5⟩ := h.rows i d hd
    exact ⟨gd, ex, b1, by omega, by omega, b4, b5⟩
  apart := h.apart
  room := h3
/-- One card's numbers turn. -/
theorem DeckAt.turn (h : DeckAt w lo hi A E) {j gd : Nat} {d : CardV} {ys : List Int} {ex : List Value} (hd : E[j]? = some d) (hat : d.at_ = some ⟨gd, 0, none⟩) (hA : A ≠ some ⟨gd, 0, none⟩) (hg : w.grownBy w' (some gd)) (hr : Row w' gd ys ex) (hl : ys.length = d.xs.length) : DeckAt w' lo hi A (E.set j ⟨d.at_, d.cap, ys⟩) where
  top h0 := by
    have h0' : 0 < E.length := by simpa using h0
    obtain ⟨g, hA', h1, h2, h3⟩ := h.top h0'
    have hne : g ≠ gd := by
      rintro rfl
      exact hA hA'
    refine ⟨g, hA', h1, h2, fun i e he => ?_⟩
    rw [List.getElem?_set] at he
    by_cases hij : j = i
    · subst hij
      rw [if_pos rfl] at he
      split at he
      · obtain rfl := (Option.some.inj he).symm
        have := cell_only hg (h3 j d hd) (by show g ≠ gd; exact hne)
        rw [this]
        unfold CardV.value
        rw [hl]
      · cases he
    · rw [if_neg hij] at he
      exact cell_only hg (h3 i e he) (by show g ≠ gd; exact hne)
  rows i e he := by
    rw [List.getElem?_set] at he
    by_cases hij : j = i
    · subst hij
      rw [if_pos rfl] at he
      split at he
      · obtain rfl := (Option.some.inj he).symm
        obtain ⟨gd', ex', b1, b2, b3, b4, _⟩ := h.rows j d hd
        rw [hat] at b1
        obtain rfl : gd = gd' := by injection b1 with b1; injection b1
        exact ⟨gd, ex, hat, b2, b3, b4, hr⟩
      · cases he
    · rw [if_neg hij] at he
      obtain ⟨gd', ex', b1, b2, b3, b4, b5⟩ := h.rows i e he
      refine ⟨gd', ex', b1, b2, b3, b4, Row.only hg b5 ?_⟩
      rintro rfl
      exact h.apart j i d e hij hd he (by rw [hat, b1])
  apart i k e f hik he hf := by
    rw [List.getElem?_set] at he hf
    have key : ∀ x (y : CardV), (if j = x then (if j < E.length then some (⟨d.at_, d.cap, ys⟩ : CardV) else none) else E[x]?) = some y → ∃ z, E[x]? = some z ∧ z.at_ = y.at_ := fun x y hy => by
      by_cases hx : j = x
      · subst hx
        rw [if_pos rfl] at hy
        split at hy
        · obtain rfl := (Option.some.inj hy).symm
          exact ⟨d, hd, rfl⟩
        · cases hy
      · rw [if_neg hx] at hy
        exact ⟨y, hy, rfl⟩
    obtain ⟨z1, a1, a2⟩ := key i e he
    obtain ⟨z2, b1, b2⟩ := key k f hf
    rw [← a2, ← b2]
    exact h.apart i k z1 z2 hik a1 b1
  room := Nat.le_trans h.room hg.size
end

/-- how many numbers the first j cards have -/
def totTo (E : List CardV) (j : Nat) : Nat := ((E.take j).map fun d => d.xs.length).sum
theorem totTo_succ {E : List CardV} {j : Nat} {d : CardV} (h : E[j]? = some d) : totTo E (j + 1) = totTo E j + d.xs.length := by
  unfold totTo
  rw [List.take_add_one, h]
  simp
theorem totTo_le (E : List CardV) (j : Nat) : totTo E j ≤ totTo E E.length := by
  unfold totTo
  rw [List.take_length]
  conv => rhs; rw [← List.take_append_drop j E]
  rw [List.map_append, List.sum_append]
  omega
/-- the cards after the first j are marked, the marks from k on -/
def markTo (E : List CardV) (k : Int) (j : Nat) : List CardV := E.mapIdx fun i d => ⟨d.at_, d.cap, if i < j then marks (k + totTo E i) d.xs.length else d.xs⟩
theorem markTo_length (E : List CardV) (k : Int) (j : Nat) : (markTo E k j).length = E.length := by simp [markTo]
theorem markTo_get {E : List CardV} {k : Int} {j i : Nat} {d : CardV} (h : E[i]? = some d) : (markTo E k j)[i]? = some ⟨d.at_, d.cap, if i < j then marks (k + totTo E i) d.xs.length else d.xs⟩ := by
  simp [markTo, h]
theorem markTo_zero (E : List CardV) (k : Int) : markTo E k 0 = E := by
  apply List.ext_getElem?
  intro i
  simp only [markTo, List.getElem?_mapIdx]
  cases E[i]? <;> simp
theorem markTo_set {E : List CardV} {k : Int} {j : Nat} {d : CardV} (h : E[j]? = some d) : (markTo E k j).set j ⟨d.at_, d.cap, marks (k + totTo E j) d.xs.length⟩ = markTo E k (j + 1) := by
  obtain ⟨hj, _⟩ := List.getElem?_eq_some_iff.1 h
  apply List.ext_getElem?
  intro i
  rw [List.getElem?_set]
  by_cases hi : j = i
  · subst hi
    rw [if_pos rfl, if_pos (by rw [markTo_length]; exact hj), markTo_get h, if_pos (by omega)]
  · rw [if_neg hi]
    simp only [markTo, List.getElem?_mapIdx]
    cases hE : E[i]? with
    | none => rfl
    | some e =>
      simp only [Option.map_some]
      by_cases h1 : i < j
      · rw [if_pos h1, if_pos (by omega)]
      · rw [if_neg h1, if_neg (by omega)]

/-- how many numbers a list of cards has -/
def totH (H : List (List Int)) : Nat := (H.map List.length).sum
theorem totTo_holes (E : List CardV) : totTo E E.length = totH (holes E) := by
  unfold totTo totH holes
  rw [List.take_length, List.map_map]
  rfl
theorem totH_each {H : List (List Int)} {xs : List Int} (h : xs ∈ H) : xs.length ≤ totH H := by
  unfold totH
  induction H with
  | nil => cases h
  | cons y H ih =>
    rw [List.map_cons, List.sum_cons]
    rcases List.mem_cons.1 h with rfl | h
    · omega
    · have := ih h; omega
theorem totH_deck {E : List CardV} {H : List (List Int)} {m : Nat} (h : holes E = H) (hm : totH H ≤ m) : ∀ d ∈ E, d.xs.length ≤ m := fun d hd => by
  have : d.xs ∈ H := by rw [← h]; exact List.mem_map.2 ⟨d, hd, rfl⟩
  have := totH_each this
  omega

theorem holes_len (E : List CardV) : (holes E).length = E.length := by simp [holes]
/-- A list of cards of new memory, and a code. -/
def GivesDC (H : List (List Int)) (code : Int) (w : World) (e : Ending) (w' : World) : Prop :=
  ∃ A cap E, e = .returned (.tuple #[.slice A H.length cap, .int .i64 code]) ∧ holes E = H ∧ Below w.heap.size w w' ∧ DeckAt w' w.heap.size w'.heap.size A E

end Go.Proofs.YtdakbbgbglgioaaDoor