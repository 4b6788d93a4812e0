/- Decks that a call makes: the numbers of their cards lie in new blocks that are apart from each other; the copy of a card (impl.copyOf, spec.l02Own). -/
import Derived.Test.YtamookdlbmbncaaDoorDeckMem
import Derived.Test.YtamookdlbmbncaaDoorCloneC
namespace Go.Proofs.YtamookdlbmbncaaDoor
open Go.ChangeShapes Go.WideShapes Go.ChangeAt Go.RowKit

/-- the cards' numbers lie in blocks of their own from lo on -/
structure NewRows (w : World) (lo : Nat) (E : List CardV) : Prop where
  each : ∀ e ∈ E, ∃ ge ex, e.at_ = some ⟨ge, 0, none⟩ ∧ lo ≤ ge ∧ Row w ge e.xs ex
  apart : E.Pairwise fun d e => d.at_ ≠ e.at_
section
variable {w w' : World} {lo g n : Nat} {E : List CardV}
theorem NewRows.nil : NewRows w lo [] := ⟨fun _ he => (by cases he), List.Pairwise.nil⟩
theorem NewRows.later (h : NewRows w lo E) (hb : Below w.heap.size w w') : NewRows w' lo E :=
  ⟨fun e he => by obtain ⟨ge, ex, h1, h2, h3⟩ := h.each e he; exact ⟨ge, ex, h1, h2, h3.later hb⟩, h.apart⟩
/-- a block of cards is no block of numbers -/
theorem row_not_cards {xs : List Int} {ex : List Value} {cs : Array Value} {z : Nat × Nat} (h : Row w g xs ex) (hc : w.heap[n]? = some (.cells cs 57 z)) : g ≠ n := by
  rintro rfl
  unfold Row at h
  rw [h] at hc
  have := Option.some.inj hc
  injection this with _ e _
  cases e
theorem NewRows.only {cs : Array Value} {z : Nat × Nat} (h : NewRows w lo E) (hg : w.grownBy w' (some g)) (hc : w.heap[g]? = some (.cells cs 57 z)) : NewRows w' lo E :=
  ⟨fun e he => by obtain ⟨ge, ex, h1, h2, h3⟩ := h.each e he; exact ⟨ge, ex, h1, h2, Row.only hg h3 (row_not_cards h3 hc)⟩, h.apart⟩
theorem NewRows.more (h : NewRows w lo E) (hb : Below w.heap.size w w') {e : CardV} {ge : Nat} {ex : List Value} (h1 : e.at_ = some ⟨ge, 0, none⟩) (h2 : w.heap.size ≤ ge) (h3 : lo ≤ ge) (h4 : Row w' ge e.xs ex) : NewRows w' lo (E ++ [e]) := by
  refine ⟨fun x hx => ?_, ?_⟩
  · rcases List.mem_append.1 hx with hx | hx
    · exact (h.later hb).each x hx
    · obtain rfl : x = e := by simpa using hx
      exact ⟨ge, ex, h1, h3, h4⟩
  · rw [List.pairwise_append]
    refine ⟨h.apart, List.pairwise_singleton _ _, fun x hx y hy => ?_⟩
    obtain rfl : y = e := by simpa using hy
    obtain ⟨gx, _, a1, _, a3⟩ := h.each x hx
    rw [a1, h1]
    intro e
    have e1 : gx = ge := by simpa using e
    have := a3.lt
    omega
theorem cards_put {w : World} {g n : Nat} {E : List CardV} (h : w.heap[g]? = some (.cells (cellsOf E n).toArray 57 (0, 0))) (e : CardV) (hn : E.length < n) : (w.setCell ⟨g, E.length, none⟩ e.value).heap[g]? = some (.cells (cellsOf (E ++ [e]) n).toArray 57 (0, 0)) := by
  simp only [World.setCell, Array.getElem?_modify, if_true, h, Option.map_some]
  congr 2
  apply Array.ext'
  simp [cellsOf_set E n e hn]
theorem cards_cell {w : World} {g n : Nat} {E : List CardV} (h : w.heap[g]? = some (.cells (cellsOf E n).toArray 57 (0, 0))) (i : Nat) : w.cell? ⟨g, i, none⟩ = (cellsOf E n)[i]? := by
  rw [cell_of_row w g i _ _ _ h]
  simp
theorem cards_frozen {w : World} {g n : Nat} {E : List CardV} (h : w.heap[g]? = some (.cells (cellsOf E n).toArray 57 (0, 0))) (i : Nat) : w.frozen? ⟨g, i, none⟩ = false := by simp [World.frozen?, h]
theorem NewRows.deckAt (h : NewRows w lo E) {cs : Array Value} {z : Nat × Nat} (hc : 0 < E.length → lo ≤ g ∧ w.heap[g]? = some (.cells cs 57 z)) (hcell : ∀ (i : Nat) (d : CardV), E[i]? = some d → w.cell? ⟨g, i, none⟩ = some d.value) : DeckAt w lo w.heap.size (some ⟨g, 0, none⟩) E where
  top h0 := by
    obtain ⟨h1, h2⟩ := hc h0
    refine ⟨g, rfl, h1, ?_, hcell⟩
    rcases Nat.lt_or_ge g w.heap.size with hlt | hge
    · exact hlt
    · rw [Array.getElem?_eq_none hge] at h2
      cases h2
  rows i d hd := by
    obtain ⟨ge, ex, a1, a2, a3⟩ := h.each d (List.mem_of_getElem? hd)
    refine ⟨ge, ex, a1, a2, a3.lt, fun e => ?_, a3⟩
    have e1 : g = ge := by simpa using e
    obtain ⟨hi, _⟩ := List.getElem?_eq_some_iff.1 hd
    exact row_not_cards a3 (hc (by omega)).2 e1.symm
  apart i j d e hij hd he := by
    obtain ⟨hi1, hi2⟩ := List.getElem?_eq_some_iff.1 hd
    obtain ⟨hj1, hj2⟩ := List.getElem?_eq_some_iff.1 he
    have hp := h.apart
    rw [List.pairwise_iff_getElem] at hp
    rcases Nat.lt_or_ge i j with hlt | hge
    · have := hp i j hi1 hj1 hlt
      rw [hi2, hj2] at this
      exact this
    · have := hp j i hj1 hi1 (by omega)
      rw [hi2, hj2] at this
      exact fun e => this e.symm
  room := Nat.le_refl _
theorem NewRows.appended {base : Nat} {v : Value} {L : List Value} (h : NewRows w lo E) (ho : w.ownsRow base 57 1 v n L) (hg : w.grownBy w' v.ownBlock) : NewRows w' lo E := by
  rcases ho.2 with ⟨rfl, _⟩ | ⟨g, cap, cur, rfl, _, hh, _⟩
  · refine ⟨fun e he => ?_, h.apart⟩
    obtain ⟨ge, ex, h1, h2, h3⟩ := h.each e he
    exact ⟨ge, ex, h1, h2, (hg.block ge h3.lt (fun e => by cases e)).trans h3⟩
  · exact h.only hg hh
theorem own_deckAt {base : Nat} {v : Value} (h : w.ownsRow base 57 1 v n (E.map CardV.value)) (hl : E.length = n) (hr : NewRows w lo E) (hb : lo ≤ base) : ∃ A cap, v = .slice A n cap ∧ DeckAt w lo w.heap.size A E := by
  rcases h.2 with ⟨rfl, h0⟩ | ⟨g, cap, cur, rfl, hbg, hh, _, _, _, ht⟩
  · have e : E = [] := List.eq_nil_of_length_eq_zero (by omega)
    subst e
    exact ⟨none, 0, by rw [h0], DeckAt.nil (Nat.le_refl _)⟩
  · refine ⟨some ⟨g, 0, none⟩, cap, rfl, hr.deckAt (fun _ => ⟨by omega, hh⟩) (fun i d hd => ?_)⟩
    obtain ⟨hi, _⟩ := List.getElem?_eq_some_iff.1 hd
    rw [cell_of_row w g i _ _ _ hh]
    have e : (cur.toList.take (n * 1))[i]? = some d.value := by rw [ht, List.getElem?_map, hd]; rfl
    rw [List.getElem?_take_of_lt (by omega)] at e
    simpa using e
theorem own_card {W : World} {base B : Nat} {v v' : Value} {x : CardV}
    (hown : w'.ownsRow base 57 1 v' (n + 1) (E.map CardV.value ++ [x.value])) (hgrow : (w.alloc (.cells #[x.value] 57)).grownBy w' v.ownBlock)
    (hold : w.ownsRow base 57 1 v n (E.map CardV.value)) (hb : Below B W w) (hB : B ≤ base) (hs : B ≤ w.heap.size) (hr : NewRows w lo (E ++ [x])) :
    w'.ownsRow base 57 1 v' (n + 1) ((E ++ [x]).map CardV.value) ∧ Below B W w' ∧ NewRows w' lo (E ++ [x]) := by
  refine ⟨by simpa using hown, (hb.alloc hs _).grown hgrow (by simp; omega) (fun k hk => Nat.le_trans hB (hold.lt k hk).1), ?_⟩
  exact (hr.later (below_box w _)).appended (hold.alloc _) hgrow
theorem empty_cards (w : World) : (w.alloc (.cells #[] 57)).ownsRow w.heap.size 57 1 (.slice (some ⟨w.heap.size, 0, none⟩) 0 0) 0 [] :=
  ⟨rfl, Or.inr ⟨w.heap.size, 0, #[], rfl, Nat.le_refl _, heap_alloc_new w _, Nat.le_refl _, Nat.zero_le _, rfl, rfl⟩⟩
theorem card_news (W : World) (x : Value) : ∀ j u, [x][j]? = some u → (W.alloc (.cells #[x] 57)).cell? ((⟨W.heap.size, 0, none⟩ : Addr).add j) = some u := by
  intro j u hj
  match j, hj with
  | 0, hj => simp at hj; subst hj; simp [Addr.add]
theorem card_one (x : CardV) : ∀ u ∈ [x.value], u.oneCell' = true := by
  intro u hu
  simp at hu
  subst hu
  rfl
end

/-- a card of its own -/
def GivesOwn (xs : List Int) (w : World) (e : Ending) (w' : World) : Prop :=
  ∃ g cap ex, e = .returned (.agg #[.slice (some ⟨g, 0, none⟩) xs.length cap]) ∧ w.heap.size ≤ g ∧ Below w.heap.size w w' ∧ Row w' g xs ex
theorem ownNew_any (A : Option Addr) (c : Nat) (xs : List Int) (B p o : Nat) (w : World) (hp : w.cell? ⟨p, o, none⟩ = some (.slice A xs.length c)) (h : Ints w B A xs) (hB : B ≤ w.heap.size) (h0 : 0 < xs.length) (hn : xs.length ≤ 1048576) :
    Calls Tryd.prog 55 #[.pointer (some ⟨p, o, none⟩)] w (GivesOwn xs w) := by
  have hc := l00Own_any A c xs B (w.alloc (.cells #[.slice none 0 0] 57)) (h.alloc hB _) (by simp; omega) h0 hn
  have HC := Lib.hid hc
  have hlt := World.block_lt_of_cell? _ _ hp
  have hp2 := cell_kept hp (below_box w (.cells #[.slice none 0 0] 57))
  clear hc h
  go_enter Tryd.func55, Tryd.ntmps55
  go_wp2_with fail
  refine HC.out.mono ?_
  rintro e w1 ⟨g, cap, ex, rfl, hg, hb, hr⟩
  have B1 := Lib.hid (below_step (below_box w _) hb)
  have c1 := cell_kept (p := ⟨w.heap.size, 0, none⟩) (v := .slice none 0 0) (by simp) hb
  have f1 : w1.frozen? ⟨w.heap.size, 0, none⟩ = false := by rw [hb.frozen (by simp)]; simp
  have HR := Lib.hid hr
  have hg' : w.heap.size + 1 ≤ g := by simpa using hg
  clear hb hr hg
  go_wp2
  refine bodyPost_ret (v := .agg #[.slice (some ⟨g, 0, none⟩) xs.length cap]) (by simp [results, Tryd.results55, go_sem, c1]) rfl ⟨g, cap, ex, rfl, by omega, ?_, ?_⟩
  · exact B1.out.setCell (by simp) _
  · exact HR.out.far (by simp; omega) _
/-- a card of its own, with no less room than columns -/
def GivesOwnC (xs : List Int) (w : World) (e : Ending) (w' : World) : Prop :=
  ∃ g cap ex, e = .returned (.agg #[.slice (some ⟨g, 0, none⟩) xs.length cap]) ∧ xs.length ≤ cap ∧ cap ≤ maxLen ∧ w.heap.size ≤ g ∧ Below w.heap.size w w' ∧ Row w' g xs ex
theorem copyNew_any (A : Option Addr) (c : Nat) (xs : List Int) (B : Nat) (w : World) (h : Ints w B A xs) (hB : B ≤ w.heap.size) (h0 : 0 < xs.length) (hn : xs.length ≤ 1048576) :
    Calls Tryd.prog 59 #[.agg #[.slice A xs.length c]] w (GivesOwnC xs w) := by
  have hc := cloneC_any A c xs B ((w.alloc (.cells #[.slice A xs.length c] 57)).alloc (.cells #[.slice none 0 0] 57)) ((h.alloc hB _).alloc (by simp; omega) _) (by simp; omega) h0 hn
  have HC := Lib.hid hc
  clear hc h
  go_enter Tryd.func59, Tryd.ntmps59
  go_wp2_with fail
  refine HC.out.mono ?_
  rintro e w1 ⟨g, cap, ex, rfl, hc1, hc2, hg, hb, hr⟩
  have B1 := Lib.hid (below_step ((below_box w (.cells #[.slice A xs.length c] 57)).alloc (by simp) _) hb)
  have c1 := cell_kept (p := ⟨w.heap.size + 1, 0, none⟩) (v := .slice none 0 0) (by simp [go_sem]) hb
  have f1 : w1.frozen? ⟨w.heap.size + 1, 0, none⟩ = false := by rw [hb.frozen (by simp)]; simp [go_sem]
  have HR := Lib.hid hr
  have hg' : w.heap.size + 2 ≤ g := by simpa using hg
  clear hb hr hg
  go_wp2
  refine bodyPost_ret (v := .agg #[.slice (some ⟨g, 0, none⟩) xs.length cap]) (by simp [results, Tryd.results59, go_sem, c1]) rfl ⟨g, cap, ex, rfl, hc1, hc2, by omega, ?_, ?_⟩
  · exact B1.out.setCell (by simp) _
  · exact HR.out.far (by simp; omega) _

theorem row_shape {w : World} {base n size : Nat} {et : TypeId} {v : Value} {xs : List Value} (h : w.ownsRow base et size v n xs) (hne : v ≠ .slice none 0 0) : ∃ g cap, v = .slice (some ⟨g, 0, none⟩) n cap := by
  rcases h.2 with ⟨hz, _⟩ | ⟨g, cap, cur, rfl, _⟩
  · exact absurd hz hne
  · exact ⟨g, cap, rfl⟩
theorem holesAt {D : List CardV} {k : Nat} {d : CardV} (h : D[k]? = some d) : (holes D)[k]? = some d.xs := by simp [holes, h]
end Go.Proofs.YtamookdlbmbncaaDoor
