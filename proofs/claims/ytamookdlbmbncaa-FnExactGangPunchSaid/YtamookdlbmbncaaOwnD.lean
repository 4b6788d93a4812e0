/- A deck of one's own whose cards' numbers turn in place; the copy that spec.l02Copy makes: a contract's other form. -/
import Derived.Test.YtamookdlbmbncaaDeckCopy
import Derived.Test.YtamookdlbmbncaaNewRows
import Derived.Test.YtamookdlbmbncaaPairI
namespace Go.Proofs.Ytamookdlbmbncaa
open Go.ChangeShapes Go.WideShapes Go.ChangeAt Go.RowKit

/-- block g holds the cards E, their numbers lie in blocks of their own from lo on -/
structure OwnD (w : World) (lo g : Nat) (E : List CardV) : Prop where
  block : ∃ cs, w.heap[g]? = some (.cells cs 33 (0, 0))
  cards : ∀ (i : Nat) (d : CardV), E[i]? = some d → w.cell? ⟨g, i, none⟩ = some d.value
  rows : NewRows w lo E
  low : lo ≤ g
section
variable {w w' : World} {lo g n t ge : Nat} {E : List CardV} {e : CardV} {ys : List Int} {ex : List Value}
theorem OwnD.lt (h : OwnD w lo g E) : g < w.heap.size := by
  obtain ⟨cs, hc⟩ := h.block
  rcases Nat.lt_or_ge g w.heap.size with hlt | hge
  · exact hlt
  · rw [Array.getElem?_eq_none hge] at hc
    cases hc
theorem OwnD.later (h : OwnD w lo g E) (hb : Below w.heap.size w w') : OwnD w' lo g E := by
  obtain ⟨cs, hc⟩ := h.block
  exact ⟨⟨cs, (hb.block g h.lt).trans hc⟩, fun i d hd => cell_kept (h.cards i d hd) hb, h.rows.later hb, h.low⟩
theorem OwnD.deckAt (h : OwnD w lo g E) : DeckAt w lo w.heap.size (some ⟨g, 0, none⟩) E := by
  obtain ⟨cs, hc⟩ := h.block
  exact h.rows.deckAt (fun _ => ⟨h.low, hc⟩) h.cards
theorem NewRows.turn (h : NewRows w lo E) (he : E[t]? = some e) (hat : e.at_ = some ⟨ge, 0, none⟩) (hg : w.grownBy w' (some ge)) (hr : Row w' ge ys ex) : NewRows w' lo (E.set t ⟨e.at_, e.cap, ys⟩) := by
  have hap := h.apart
  rw [List.pairwise_iff_getElem] at hap
  have hne : ∀ (j : Nat) (x : CardV), j ≠ t → E[j]? = some x → x.at_ ≠ e.at_ := fun j x hj hx => by
    obtain ⟨hj1, hj2⟩ := List.getElem?_eq_some_iff.1 hx
    obtain ⟨ht1, ht2⟩ := List.getElem?_eq_some_iff.1 he
    rcases Nat.lt_or_ge j t with hlt | hge
    · have := hap j t hj1 ht1 hlt
      rwa [hj2, ht2] at this
    · have := hap t j ht1 hj1 (by omega)
      rw [hj2, ht2] at this
      exact fun q => this q.symm
  refine ⟨fun x hx => ?_, ?_⟩
  · obtain ⟨j, hj⟩ := List.mem_iff_getElem?.1 hx
    rw [List.getElem?_set] at hj
    by_cases hjt : t = j
    · subst hjt
      rw [if_pos rfl] at hj
      split at hj
      · obtain rfl := (Option.some.inj hj).symm
        obtain ⟨g0, _, h1, h2, _⟩ := h.each e (List.mem_of_getElem? he)
        rw [hat] at h1
        obtain rfl : ge = g0 := by injection h1 with h1; injection h1
        exact ⟨ge, ex, hat, h2, hr⟩
      · cases hj
    · rw [if_neg hjt] at hj
      obtain ⟨g0, ex0, h1, h2, h3⟩ := h.each x (List.mem_of_getElem? hj)
      refine ⟨g0, ex0, h1, h2, Row.only hg h3 ?_⟩
      rintro rfl
      exact hne j x (fun q => hjt q.symm) hj (by rw [h1, hat])
  · rw [List.pairwise_iff_getElem]
    intro i j hi hj hij
    rw [List.getElem_set, List.getElem_set]
    have hi' : i < E.length := by simpa using hi
    have hj' : j < E.length := by simpa using hj
    have key := hap i j hi' hj' hij
    by_cases h1 : t = i
    · rw [if_pos h1, if_neg (by omega)]
      subst h1
      have := (List.getElem?_eq_some_iff.1 he).2
      rw [this] at key
      exact key
    · rw [if_neg h1]
      by_cases h2 : t = j
      · rw [if_pos h2]
        subst h2
        have := (List.getElem?_eq_some_iff.1 he).2
        rw [this] at key
        exact key
      · rw [if_neg h2]
        exact key
theorem OwnD.turn (h : OwnD w lo g E) (he : E[t]? = some e) (hat : e.at_ = some ⟨ge, 0, none⟩) (hl : ys.length = e.xs.length) (hg : w.grownBy w' (some ge)) (hr : Row w' ge ys ex) : OwnD w' lo g (E.set t ⟨e.at_, e.cap, ys⟩) := by
  obtain ⟨cs, hc⟩ := h.block
  obtain ⟨g0, _, h1, _, h3⟩ := h.rows.each e (List.mem_of_getElem? he)
  rw [hat] at h1
  obtain rfl : ge = g0 := by injection h1 with h1; injection h1
  have hne := row_not_cards h3 hc
  refine ⟨⟨cs, (hg.block g h.lt (fun q => hne (by injection q with q; exact q.symm))).trans hc⟩, fun i d hd => ?_, h.rows.turn he hat hg hr, h.low⟩
  rw [List.getElem?_set] at hd
  by_cases hti : t = i
  · subst hti
    rw [if_pos rfl] at hd
    split at hd
    · obtain rfl := (Option.some.inj hd).symm
      have := cell_only hg (h.cards t e he) (by show g ≠ ge; exact fun q => hne q.symm)
      rw [this]
      unfold CardV.value
      rw [hl]
    · cases hd
  · rw [if_neg hti] at hd
    exact cell_only hg (h.cards i d hd) (by show g ≠ ge; exact fun q => hne q.symm)
theorem holes_set (E : List CardV) (t : Nat) (e : CardV) : holes (E.set t e) = (holes E).set t e.xs := by
  unfold holes
  rw [List.map_set]
end
/-- what spec.l02Copy gives -/
theorem copied_deck {H : List (List Int)} {n : Nat} {w w' : World} {e : Ending} (h : GivesRow H n w e w') : ∃ g cap E, e = .returned (.slice (some ⟨g, 0, none⟩) n cap) ∧ E.length = n ∧ holes E = H ∧ Below w.heap.size w w' ∧ OwnD w' w.heap.size g E := by
  obtain ⟨g, cap, E, h1, h2, h3, h4, h5, h6⟩ := h
  refine ⟨g, cap, E, h1, h2, h3, h4, ?_⟩
  rcases h5.2 with ⟨hv, _⟩ | ⟨g', cap', cur, hv, hb, hh, hn, _, hs, ht⟩
  · cases hv
  · injection hv with a b c
    obtain rfl : g = g' := by injection a with a; injection a
    refine ⟨⟨_, hh⟩, fun i d hd => ?_, h6, hb⟩
    obtain ⟨hi, _⟩ := List.getElem?_eq_some_iff.1 hd
    rw [cell_of_row w' g i _ _ _ hh]
    have e : (cur.toList.take (n * 1))[i]? = some d.value := by rw [ht, List.getElem?_map, hd]; rfl
    rw [List.getElem?_take_of_lt (by omega)] at e
    simpa using e
end Go.Proofs.Ytamookdlbmbncaa
