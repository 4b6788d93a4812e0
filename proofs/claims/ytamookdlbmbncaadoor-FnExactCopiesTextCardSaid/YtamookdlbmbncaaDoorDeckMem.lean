/- Decks in memory of their own, as the laws about answered decks want them: where their blocks lie, what turns when one of them is marked; contracts of laws.markCardS and heldCardS. -/
import Derived.Test.YtamookdlbmbncaaDoorDecks
import Derived.Test.YtamookdlbmbncaaDoorMarks
import Derived.Test.YtamookdlbmbncaaDoorWithin
namespace Go.Proofs.YtamookdlbmbncaaDoor
open Go.ChangeShapes Go.WideShapes Go.ChangeAt Go.RowKit

/-- A list of cards whose memory lies in the blocks from lo up to hi: the block of the cards, and a block of its own for the numbers of each card. -/
structure DeckAt (w : World) (lo hi : Nat) (A : Option Addr) (E : List CardV) : Prop where
  top : 0 < E.length → ∃ g, A = some ⟨g, 0, none⟩ ∧ lo ≤ g ∧ g < hi ∧ ∀ (i : Nat) (d : CardV), E[i]? = some d → w.cell? ⟨g, i, none⟩ = some d.value
  rows : ∀ (i : Nat) (d : CardV), E[i]? = some d → ∃ gd ex, d.at_ = some ⟨gd, 0, none⟩ ∧ lo ≤ gd ∧ gd < hi ∧ A ≠ some ⟨gd, 0, none⟩ ∧ Row w gd d.xs ex
  apart : ∀ (i j : Nat) (d e : CardV), i ≠ j → E[i]? = some d → E[j]? = some e → d.at_ ≠ e.at_
  room : hi ≤ w.heap.size

section
variable {w w' : World} {lo hi lo' hi' : Nat} {A : Option Addr} {E : List CardV}
theorem DeckAt.nil (h : hi ≤ w.heap.size) : DeckAt w lo hi A [] := ⟨fun h => absurd h (by simp), fun i d h => by simp at h, fun i j d e _ h => by simp at h, h⟩
theorem DeckAt.later (h : DeckAt w lo hi A E) (hb : Below w.heap.size w w') : DeckAt w' lo hi A E where
  top h0 := by
    obtain ⟨g, hA, h1, h2, h3⟩ := h.top h0
    exact ⟨g, hA, h1, h2, fun i d hd => by
      have hr := h.room
      have := hb.cell (p := ⟨g, i, none⟩) (by show g < _; omega)
      rw [this]
      exact h3 i d hd⟩
  rows i d hd := by
    obtain ⟨gd, ex, h1, h2, h3, h4, h5⟩ := h.rows i d hd
    exact ⟨gd, ex, h1, h2, h3, h4, h5.later hb⟩
  apart := h.apart
  room := Nat.le_trans h.room hb.size
theorem DeckAt.drew (h : DeckAt w lo hi A E) : DeckAt w.drew lo hi A E := ⟨h.top, h.rows, h.apart, h.room⟩
theorem DeckAt.within (h : DeckAt w lo hi A E) (k : Within lo' hi' w w') (hd : hi ≤ lo' ∨ hi' ≤ lo) : DeckAt w' lo hi A E where
  top h0 := by
    obtain ⟨g, hA, h1, h2, h3⟩ := h.top h0
    exact ⟨g, hA, h1, h2, fun i d hd' => k.cell (h3 i d hd') (by show g < _ ∨ _ ≤ g; omega)⟩
  rows i d hd' := by
    obtain ⟨gd, ex, h1, h2, h3, h4, h5⟩ := h.rows i d hd'
    exact ⟨gd, ex, h1, h2, h3, h4, k.row h5 (by omega)⟩
  apart := h.apart
  room := Nat.le_trans h.room k.size
theorem DeckAt.deck (h : DeckAt w lo hi A E) : Deck w w.heap.size A E := fun h0 => by
  obtain ⟨g, hA, h1, h2, h3⟩ := h.top h0
  have hr := h.room
  refine ⟨g, 0, hA, by omega, fun i d hd => ?_⟩
  rw [Nat.zero_add]
  obtain ⟨gd, ex, e1, _, e3, _, e5⟩ := h.rows i d hd
  refine ⟨h3 i d hd, ?_⟩
  rw [e1]
  exact e5.ints.more (by omega)
theorem DeckAt.widen (h : DeckAt w lo hi A E) (h1 : lo' ≤ lo) (h2 : hi ≤ hi') (h3 : hi' ≤ w.heap.size) : DeckAt w lo' hi' A E where
  top h0 := by
    obtain ⟨g, hA, a1, a2, a3⟩ := h.top h0
    exact ⟨g, hA, by omega, by omega, a3⟩
  rows i d hd := by
    obtain ⟨gd, ex, b1, b2, b3, b4, b5⟩ := h.rows i d hd
    exact ⟨gd, ex, b1, by omega, by omega, b4, b5⟩
  apart := h.apart
  room := h3
/-- One card's numbers turn. -/
theorem DeckAt.turn (h : DeckAt w lo hi A E) {j gd : Nat} {d : CardV} {ys : List Int} {ex : List Value} (hd : E[j]? = some d) (hat : d.at_ = some ⟨gd, 0, none⟩) (hA : A ≠ some ⟨gd, 0, none⟩) (hg : w.grownBy w' (some gd)) (hr : Row w' gd ys ex) (hl : ys.length = d.xs.length) : DeckAt w' lo hi A (E.set j ⟨d.at_, d.cap, ys⟩) where
  top h0 := by
    have h0' : 0 < E.length := by simpa using h0
    obtain ⟨g, hA', h1, h2, h3⟩ := h.top h0'
    have hne : g ≠ gd := by
      rintro rfl
      exact hA hA'
    refine ⟨g, hA', h1, h2, fun i e he => ?_⟩
    rw [List.getElem?_set] at he
    by_cases hij : j = i
    · subst hij
      rw [if_pos rfl] at he
      split at he
      · obtain rfl := (Option.some.inj he).symm
        have := cell_only hg (h3 j d hd) (by show g ≠ gd; exact hne)
        rw [this]
        unfold CardV.value
        rw [hl]
      · cases he
    · rw [if_neg hij] at he
      exact cell_only hg (h3 i e he) (by show g ≠ gd; exact hne)
  rows i e he := by
    rw [List.getElem?_set] at he
    by_cases hij : j = i
    · subst hij
      rw [if_pos rfl] at he
      split at he
      · obtain rfl := (Option.some.inj he).symm
        obtain ⟨gd', ex', b1, b2, b3, b4, _⟩ := h.rows j d hd
        rw [hat] at b1
        obtain rfl : gd = gd' := by injection b1 with b1; injection b1
        exact ⟨gd, ex, hat, b2, b3, b4, hr⟩
      · cases he
    · rw [if_neg hij] at he
      obtain ⟨gd', ex', b1, b2, b3, b4, b5⟩ := h.rows i e he
      refine ⟨gd', ex', b1, b2, b3, b4, Row.only hg b5 ?_⟩
      rintro rfl
      exact h.apart j i d e hij hd he (by rw [hat, b1])
  apart i k e f hik he hf := by
    rw [List.getElem?_set] at he hf
    have key : ∀ x (y : CardV), (if j = x then (if j < E.length then some (⟨d.at_, d.cap, ys⟩ : CardV) else none) else E[x]?) = some y → ∃ z, E[x]? = some z ∧ z.at_ = y.at_ := fun x y hy => by
      by_cases hx : j = x
      · subst hx
        rw [if_pos rfl] at hy
        split at hy
        · obtain rfl := (Option.some.inj hy).symm
          exact ⟨d, hd, rfl⟩
        · cases hy
      · rw [if_neg hx] at hy
        exact ⟨y, hy, rfl⟩
    obtain ⟨z1, a1, a2⟩ := key i e he
    obtain ⟨z2, b1, b2⟩ := key k f hf
    rw [← a2, ← b2]
    exact h.apart i k z1 z2 hik a1 b1
  room := Nat.le_trans h.room hg.size
end

/-- how many numbers the first j cards have -/
def totTo (E : List CardV) (j : Nat) : Nat := ((E.take j).map fun d => d.xs.length).sum
theorem totTo_succ {E : List CardV} {j : Nat} {d : CardV} (h : E[j]? = some d) : totTo E (j + 1) = totTo E j + d.xs.length := by
  unfold totTo
  rw [List.take_add_one, h]
  simp
theorem totTo_le (E : List CardV) (j : Nat) : totTo E j ≤ totTo E E.length := by
  unfold totTo
  rw [List.take_length]
  conv => rhs; rw [← List.take_append_drop j E]
  rw [List.map_append, List.sum_append]
  omega
/-- the cards after the first j are marked, the marks from k on -/
def markTo (E : List CardV) (k : Int) (j : Nat) : List CardV := E.mapIdx fun i d => ⟨d.at_, d.cap, if i < j then marks (k + totTo E i) d.xs.length else d.xs⟩
theorem markTo_length (E : List CardV) (k : Int) (j : Nat) : (markTo E k j).length = E.length := by simp [markTo]
theorem markTo_get {E : List CardV} {k : Int} {j i : Nat} {d : CardV} (h : E[i]? = some d) : (markTo E k j)[i]? = some ⟨d.at_, d.cap, if i < j then marks (k + totTo E i) d.xs.length else d.xs⟩ := by
  simp [markTo, h]
theorem markTo_zero (E : List CardV) (k : Int) : markTo E k 0 = E := by
  apply List.ext_getElem?
  intro i
  simp only [markTo, List.getElem?_mapIdx]
  cases E[i]? <;> simp
theorem markTo_set {E : List CardV} {k : Int} {j : Nat} {d : CardV} (h : E[j]? = some d) : (markTo E k j).set j ⟨d.at_, d.cap, marks (k + totTo E j) d.xs.length⟩ = markTo E k (j + 1) := by
  obtain ⟨hj, _⟩ := List.getElem?_eq_some_iff.1 h
  apply List.ext_getElem?
  intro i
  rw [List.getElem?_set]
  by_cases hi : j = i
  · subst hi
    rw [if_pos rfl, if_pos (by rw [markTo_length]; exact hj), markTo_get h, if_pos (by omega)]
  · rw [if_neg hi]
    simp only [markTo, List.getElem?_mapIdx]
    cases hE : E[i]? with
    | none => rfl
    | some e =>
      simp only [Option.map_some]
      by_cases h1 : i < j
      · rw [if_pos h1, if_pos (by omega)]
      · rw [if_neg h1, if_neg (by omega)]

set_option maxHeartbeats 1000000 in
theorem markCards_any (A : Option Addr) (c : Nat) (E : List CardV) (lo hi : Nat) (k : Int) (w : World) (h : DeckAt w lo hi A E) (h0 : 0 ≤ k) (h1 : k ≤ 4194304) (hn : E.length ≤ 1048576) (ht : totTo E E.length ≤ 1048576) :
    Calls Tryd.prog 12 #[.slice A E.length c, .int .i64 k] w fun e w' => e = .returned (.int .i64 (k + totTo E E.length)) ∧ Within lo hi w w' ∧ DeckAt w' lo hi A (markTo E k E.length) := by
  obtain ⟨n, hN⟩ : ∃ n, E.length = n := ⟨_, rfl⟩
  rw [hN] at hn ht ⊢
  have H := Lib.hid h
  have HN := Lib.hid hN
  have HTT := Lib.hid ht
  clear h hN ht
  go_enter Tryd.func12, Tryd.ntmps12
  go_wp2
  go_loopw [1, 5] (fun kk i wr => ∃ j : Nat, ∃ v : Int, j ≤ n ∧ i = .int .i64 j ∧ kk = .int .i64 v ∧ v = k + totTo E j ∧ Hid (Within lo hi w wr) ∧ Hid (DeckAt wr lo hi A (markTo E k j))) (fun _ i _ => n - (intOf i).toNat)
  case atStart => exact ⟨0, k, Nat.zero_le _, rfl, rfl, by simp [totTo], Within.refl _ _ _, by show DeckAt _ _ _ _ _; rw [markTo_zero]; exact H.out⟩
  case round =>
    obtain ⟨j, v, hj, rfl, rfl, hv, HW, HD⟩ := hrel
    have hle := totTo_le E j
    have htt := HTT.out
    rw [HN.out] at hle
    by_cases hlt : j < n
    · obtain ⟨d, hd⟩ : ∃ d, E[j]? = some d := ⟨E[j]'(by rw [HN.out]; exact hlt), List.getElem?_eq_getElem _⟩
      have hts := totTo_succ hd
      have hle2 := totTo_le E (j + 1)
      rw [HN.out] at hle2
      have hm : (markTo E k j)[j]? = some ⟨d.at_, d.cap, d.xs⟩ := by rw [markTo_get hd, if_neg (by omega)]
      obtain ⟨g, rfl, g1, g2, g3⟩ := HD.out.top (by rw [markTo_length, HN.out]; omega)
      have hc := g3 j _ hm
      obtain ⟨gd, ex, e1, e2, e3, e4, e5⟩ := HD.out.rows j _ hm
      simp only at e1 e5
      have hmk := markInts_any gd d.cap d.xs ex v wr e5 (by omega) (by omega) (by omega)
      have hset := markTo_set (k := k) hd
      have HTN := Lib.hid (fun (W : World) (hg : wr.grownBy W (some gd)) (hr : Row W gd (marks v d.xs.length) ex) => (HD.out.turn hm (by exact e1) e4 hg hr (by simp [marks_length]) : DeckAt W lo hi _ _))
      rw [show (⟨(⟨d.at_, d.cap, d.xs⟩ : CardV).at_, (⟨d.at_, d.cap, d.xs⟩ : CardV).cap, marks v d.xs.length⟩ : CardV) = ⟨d.at_, d.cap, marks (k + totTo E j) d.xs.length⟩ by rw [hv], hset] at HTN
      unfold CardV.value at hc
      simp only at hc
      rw [e1] at hc
      obtain ⟨z, hz⟩ : ∃ z, d.xs.length = z := ⟨_, rfl⟩
      rw [hz] at hc hmk hts
      simp only [hz] at HTN
      have HMK := Lib.hid hmk
      have HV : Hid (v + (z : Int) = k + totTo E (j + 1)) := by show _ = _; rw [hts, hv]; omega
      have E2 := Lib.hid e2
      have E3 := Lib.hid e3
      have k0 : (0 : Int) ≤ (j : Int) := Int.natCast_nonneg _
      have k1 : (j : Int) < (n : Int) := by omega
      clear hd hm g3 e1 e4 e5 hmk hset hz hts hv e2 e3
      go_wp2_with fail
      refine HMK.out.mono ?_
      rintro e w2 ⟨rfl, hg, hr⟩
      have HW2 : Hid (Within lo hi w w2) := HW.out.trans ⟨hg.os, hg.tape, hg.output, hg.size, fun b hb hx => hg.block b hb (fun e => by
        have e' := Option.some.inj e
        have h1 := E2.out
        have h2 := E3.out
        omega)⟩
      have HD2 := Lib.hid (HTN.out w2 hg hr)
      clear hg hr HTN HMK
      go_wp2
      go_roundw
      case rel => exact ⟨j + 1, _, by omega, by go_num, rfl, HV.out, HW2, HD2⟩
      case measure => simp [intOf]; omega
    · have hjn : j = n := by omega
      have k1 : ¬ (j : Int) < (n : Int) := by omega
      have HV : Hid (v = k + totTo E n) := by show _ = _; rw [hv, hjn]
      have HD2 : Hid (DeckAt wr lo hi A (markTo E k n)) := by rw [← hjn]; exact HD
      clear hv hjn HD
      go_wp2
      go_ret
      exact ⟨by rw [HV.out]; rfl, HW.out, HD2.out⟩

theorem heldCards_any (A : Option Addr) (c : Nat) (E : List CardV) (lo hi : Nat) (k : Int) (w : World) (h : DeckAt w lo hi A (markTo E k E.length)) (h0 : 0 ≤ k) (h1 : k ≤ 4194304) (hn : E.length ≤ 1048576) (ht : totTo E E.length ≤ 1048576) :
    Calls Tryd.prog 13 #[.slice A E.length c, .int .i64 k] w fun e w' => e = .returned (.int .i64 (k + totTo E E.length)) ∧ w = w' := by
  obtain ⟨n, hN⟩ : ∃ n, E.length = n := ⟨_, rfl⟩
  rw [hN] at h hn ht ⊢
  have H := Lib.hid h
  have HN := Lib.hid hN
  have HTT := Lib.hid ht
  clear h hN ht
  go_enter Tryd.func13, Tryd.ntmps13
  go_wp2
  go_loop [1, 5] (fun kk i => ∃ j : Nat, ∃ v : Int, j ≤ n ∧ i = .int .i64 j ∧ kk = .int .i64 v ∧ v = k + totTo E j) (fun _ i => n - (intOf i).toNat)
  case atStart => exact ⟨0, k, Nat.zero_le _, rfl, rfl, by simp [totTo]⟩
  case round =>
    obtain ⟨j, v, hj, rfl, rfl, hv⟩ := hrel
    have hle := totTo_le E j
    have htt := HTT.out
    rw [HN.out] at hle
    by_cases hlt : j < n
    · obtain ⟨d, hd⟩ : ∃ d, E[j]? = some d := ⟨E[j]'(by rw [HN.out]; exact hlt), List.getElem?_eq_getElem _⟩
      have hts := totTo_succ hd
      have hle2 := totTo_le E (j + 1)
      rw [HN.out] at hle2
      have hm : (markTo E k n)[j]? = some ⟨d.at_, d.cap, marks (k + totTo E j) d.xs.length⟩ := by rw [markTo_get hd, if_pos hlt]
      obtain ⟨g, rfl, g1, g2, g3⟩ := H.out.top (by rw [markTo_length, HN.out]; omega)
      have hc := g3 j _ hm
      obtain ⟨gd, ex, e1, e2, e3, e4, e5⟩ := H.out.rows j _ hm
      simp only at e1 e5
      unfold CardV.value at hc
      simp only [marks_length] at hc
      rw [e1] at hc
      rw [← hv] at e5
      have hmk := heldInts_any (some ⟨gd, 0, none⟩) d.cap d.xs.length (gd + 1) v w e5.ints (by omega) (by omega) (by omega)
      obtain ⟨z, hz⟩ : ∃ z, d.xs.length = z := ⟨_, rfl⟩
      rw [hz] at hc hmk hts
      have HMK := Lib.hid hmk
      have HV : Hid (v + (z : Int) = k + totTo E (j + 1)) := by show _ = _; rw [hts, hv]; omega
      have hneg : ¬ v + (z : Int) < 0 := by omega
      have k0 : (0 : Int) ≤ (j : Int) := Int.natCast_nonneg _
      have k1 : (j : Int) < (n : Int) := by omega
      clear hd hm g3 e1 e4 e5 hmk hz hts hv e2 e3 H
      go_wp2_with (go_at_call 40; refine HMK.out.mono ?_; rintro e w' ⟨rfl, rfl⟩)
      go_round
      case rel => exact ⟨j + 1, _, by omega, by go_num, rfl, HV.out⟩
      case measure => simp [intOf]; omega
    · have hjn : j = n := by omega
      have k1 : ¬ (j : Int) < (n : Int) := by omega
      have HV : Hid (v = k + totTo E n) := by show _ = _; rw [hv, hjn]
      clear hv hjn H
      go_wp2
      go_ret
      exact ⟨by rw [HV.out]; rfl, rfl⟩

/-- how many numbers a list of cards has -/
def totH (H : List (List Int)) : Nat := (H.map List.length).sum
theorem totTo_holes (E : List CardV) : totTo E E.length = totH (holes E) := by
  unfold totTo totH holes
  rw [List.take_length, List.map_map]
  rfl
theorem totH_each {H : List (List Int)} {xs : List Int} (h : xs ∈ H) : xs.length ≤ totH H := by
  unfold totH
  induction H with
  | nil => cases h
  | cons y H ih =>
    rw [List.map_cons, List.sum_cons]
    rcases List.mem_cons.1 h with rfl | h
    · omega
    · have := ih h; omega
theorem totH_deck {E : List CardV} {H : List (List Int)} {m : Nat} (h : holes E = H) (hm : totH H ≤ m) : ∀ d ∈ E, d.xs.length ≤ m := fun d hd => by
  have : d.xs ∈ H := by rw [← h]; exact List.mem_map.2 ⟨d, hd, rfl⟩
  have := totH_each this
  omega

-- with 6
theorem szTo_totH (D : List CardV) : szTo D D.length = D.length + totH (holes D) := by
  unfold szTo totH holes
  rw [List.take_length, List.map_map]
  rfl

theorem holes_len (E : List CardV) : (holes E).length = E.length := by simp [holes]
/-- A list of cards of new memory, and a code. -/
def GivesDC (H : List (List Int)) (code : Int) (w : World) (e : Ending) (w' : World) : Prop :=
  ∃ A cap E, e = .returned (.tuple #[.slice A H.length cap, .int .i64 code]) ∧ holes E = H ∧ Below w.heap.size w w' ∧ DeckAt w' w.heap.size w'.heap.size A E

theorem markDeck_any (A : Option Addr) (c : Nat) (E : List CardV) (H : List (List Int)) (lo hi : Nat) (k : Int) (w : World) (hE : holes E = H) (h : DeckAt w lo hi A E) (h0 : 0 ≤ k) (h1 : k ≤ 4194304) (hn : H.length ≤ 1048576) (ht : totH H ≤ 1048576) :
    Calls Tryd.prog 12 #[.slice A H.length c, .int .i64 k] w fun e w' => e = .returned (.int .i64 (k + totH H)) ∧ Within lo hi w w' ∧ DeckAt w' lo hi A (markTo E k E.length) := by
  subst hE
  have := markCards_any A c E lo hi k w h h0 h1 (by rw [← holes_len]; exact hn) (by rw [totTo_holes]; exact ht)
  rw [totTo_holes] at this
  rw [holes_len]
  exact this
theorem heldDeck_any (A : Option Addr) (c : Nat) (E : List CardV) (H : List (List Int)) (lo hi : Nat) (k : Int) (w : World) (hE : holes E = H) (h : DeckAt w lo hi A (markTo E k E.length)) (h0 : 0 ≤ k) (h1 : k ≤ 4194304) (hn : H.length ≤ 1048576) (ht : totH H ≤ 1048576) :
    Calls Tryd.prog 13 #[.slice A H.length c, .int .i64 k] w fun e w' => e = .returned (.int .i64 (k + totH H)) ∧ w = w' := by
  subst hE
  have := heldCards_any A c E lo hi k w h h0 h1 (by rw [← holes_len]; exact hn) (by rw [totTo_holes]; exact ht)
  rw [totTo_holes] at this
  rw [holes_len]
  exact this

/-- a deck of copies: no card has more room than columns -/
def CapsEq (E : List CardV) : Prop := ∀ d ∈ E, d.cap = d.xs.length
/-- laws.toCardS gives a deck in blocks of its own. -/
theorem toCardsAt_any (A : Option Addr) (c : Nat) (D : List CardV) (B : Nat) (w : World) (h : Deck w B A D) (hB : B ≤ w.heap.size) (hn : D.length ≤ 1048576) (hl : ∀ d ∈ D, d.xs.length ≤ 1048576) :
    Calls Tryd.prog 8 #[.slice A D.length c] w fun e w' => ∃ g E, holes E = holes D ∧ e = .returned (.slice (some ⟨g, 0, none⟩) D.length D.length) ∧ Below w.heap.size w w' ∧ DeckAt w' w.heap.size w'.heap.size (some ⟨g, 0, none⟩) E ∧ CapsEq E := by
  obtain ⟨n, hN⟩ : ∃ n, D.length = n := ⟨_, rfl⟩
  rw [hN] at hn ⊢
  have hmk : ∀ W : World, (Instr.makeSlice 26 (.int .i64 n) (.int .i64 n)).run Tryd.prog W = .ok (.slice (some ⟨W.heap.size, 0, none⟩) n n) (W.alloc (.cells (cellsOf [] n).toArray 57)) := fun W => by
    obtain ⟨i0, hi0, hz0, hz1, hz2⟩ := info_parts info_card
    have hr := run_make (P := Tryd.prog) W 26 57 i0 _ Tryd.underlying26 hi0 hz0 .i64 .i64 n n (by omega) (Int.le_refl _) (by rw [hz2]; omega) (by omega)
    have e : madeCells (Value.agg #[Value.slice none 0 0]).cells ((n : Int).toNat * i0.size) = (cellsOf [] n).toArray := by
      rw [hz1, Int.toNat_natCast, Nat.mul_one]
      apply Array.ext
      · simp [size_madeCells, cellsOf]
      · intro i h1 h2
        simp [madeCells, cellsOf, Value.cells, Nat.mod_one]
    rw [e, Int.toNat_natCast] at hr
    exact hr
  have H := Lib.hid h
  have HN := Lib.hid hN
  have HL := Lib.hid hl
  clear h hN hl
  go_enter Tryd.func8, Tryd.ntmps8
  go_wp2
  clear hmk
  go_loopw [4] (fun i wr => ∃ k : Nat, ∃ E : List CardV, k ≤ n ∧ i = .int .i64 k ∧ E.length = k ∧ Hid (holes E = (holes D).take k) ∧ Hid (Below w.heap.size w wr) ∧ Hid (OwnDeck wr w.heap.size E n) ∧ Hid (∀ e ∈ E, ∀ b, e.at_ = some ⟨b, 0, none⟩ → b < wr.heap.size) ∧ Hid (E.Pairwise fun d e => d.at_ ≠ e.at_)) (fun i _ => n - (intOf i).toNat)
  case atStart => exact ⟨0, [], Nat.zero_le _, rfl, rfl, by show _ = _; simp [holes], below_box w _, (⟨heap_alloc_new w _, fun e he => by cases he⟩ : OwnDeck _ _ _ _), (fun e he => by cases he), List.Pairwise.nil⟩
  case round =>
    obtain ⟨k, E, hk, rfl, hE, HH, HB, HO, HX, HP⟩ := hrel
    by_cases hlt : k < n
    · obtain ⟨d, hd⟩ : ∃ d, D[k]? = some d := ⟨D[k]'(by rw [HN.out]; exact hlt), List.getElem?_eq_getElem _⟩
      obtain ⟨b, off, rfl, hb, hcell⟩ := (H.out.below (HB.out.mono hB)) (by rw [HN.out]; omega)
      obtain ⟨hc, hi⟩ := hcell k d hd
      have hl1 := HL.out d (List.mem_of_getElem? hd)
      have HT := Lib.hid (toCard_any d.at_ d.cap d.xs B _ hi (Nat.le_trans hB HB.out.size) hl1)
      have hst : Hid ((cellsOf E n)[k]? = some (.slice none 0 0)) := by
        show _ = _
        rw [cellsOf, List.getElem?_append_right (by simp; omega), List.getElem?_replicate, if_pos (by simp; omega)]
      have HE := Lib.hid hE
      have HH1 : Hid (∀ e : CardV, e.xs = d.xs → holes (E ++ [e]) = (holes D).take (k + 1)) := fun e he => by
        have hkl : k < (holes D).length := by simp [holes]; rw [HN.out]; exact hlt
        rw [List.take_succ_eq_append_getElem hkl, ← HH.out]
        have : (holes D)[k]'hkl = d.xs := by
          obtain ⟨_, rfl⟩ := List.getElem?_eq_some_iff.1 hd
          simp [holes]
        rw [this]
        simp [holes, he]
      unfold CardV.value at hc
      clear hcell hd hi hl1 H hE
      go_wp2_with fail
      refine HT.out.mono ?_
      rintro e w2 ⟨ge, rfl, hge, hb2, hrow⟩
      have HB2 := Lib.hid (below_step HB.out hb2)
      have HO2 := Lib.hid (HO.out.later hb2)
      have HR2 := Lib.hid hrow
      have hg : w.heap.size < ge := Nat.lt_of_lt_of_le HO.out.lt hge
      have HGE := Lib.hid hge
      have HSZ := Lib.hid hb2.size
      have c2 : w2.cell? ⟨w.heap.size, k, none⟩ = some (.slice none 0 0) := by rw [HO2.out.cell k]; exact hst.out
      have f2 := HO2.out.frozen k
      clear hb2 hrow hc HT hge
      go_wp2
      go_roundw
      case rel =>
        refine ⟨k + 1, E ++ [⟨some ⟨ge, 0, none⟩, d.xs.length, d.xs⟩], by omega, by go_num, by simp [HE.out], HH1.out _ rfl, HB2.out.setCell (by simp) _, ?_, ?_, ?_⟩
        · have := HO2.out.put ⟨some ⟨ge, 0, none⟩, d.xs.length, d.xs⟩ ge (by rw [HE.out]; exact hlt) rfl hg rfl HR2.out
          rw [HE.out] at this
          exact this
        · intro e he b hb
          have hsz : ∀ p v, (w2.setCell p v).heap.size = w2.heap.size := fun p v => by simp [World.setCell]
          rw [hsz]
          rcases List.mem_append.1 he with he | he
          · exact Nat.lt_of_lt_of_le (HX.out e he b hb) HSZ.out
          · obtain rfl : e = ⟨some ⟨ge, 0, none⟩, d.xs.length, d.xs⟩ := by simpa using he
            have hb' : ge = b := by injection hb with hb; injection hb
            rw [← hb']
            exact HR2.out.lt
        · show List.Pairwise _ _
          rw [List.pairwise_append]
          refine ⟨HP.out, by simp, fun x hx y hy => ?_⟩
          obtain rfl : y = ⟨some ⟨ge, 0, none⟩, d.xs.length, d.xs⟩ := by simpa using hy
          intro e
          have := HX.out x hx ge e
          have h2 := HGE.out
          omega
      case measure => simp [intOf]; omega
    · have hkn : k = n := by omega
      have hh : holes E = holes D := by
        rw [HH.out, List.take_of_length_le (by simp [holes]; rw [HN.out]; omega)]
      have HHH := Lib.hid hh
      have HEn : Hid (E.length = n) := by rw [hkn] at hE; exact hE
      have hk1 : ¬ (k : Int) < (n : Int) := by omega
      have HDA : Hid (DeckAt wr w.heap.size wr.heap.size (some ⟨w.heap.size, 0, none⟩) E) := by
        refine ⟨fun _ => ⟨w.heap.size, rfl, Nat.le_refl _, HO.out.lt, fun i d hd => ?_⟩, fun i d hd => ?_, fun i j d e hij hd he => ?_, Nat.le_refl _⟩
        · rw [HO.out.cell i, cellsOf_get E n i d hd]
        · obtain ⟨ge, h1, h2, _, h4⟩ := HO.out.each d (List.mem_of_getElem? hd)
          exact ⟨ge, [], h1, by omega, h4.lt, fun e => by
            have : w.heap.size = ge := by injection e with e; injection e
            omega, h4⟩
        · obtain ⟨hi1, hi2⟩ := List.getElem?_eq_some_iff.1 hd
          obtain ⟨hj1, hj2⟩ := List.getElem?_eq_some_iff.1 he
          rw [List.pairwise_iff_getElem] at HP
          have hp := HP
          rcases Nat.lt_or_ge i j with hlt | hge
          · have := hp i j hi1 hj1 hlt
            rw [hi2, hj2] at this
            exact this
          · have := hp j i hj1 hi1 (by omega)
            rw [hi2, hj2] at this
            exact fun e => this e.symm
      have HCP : Hid (CapsEq E) := fun d hd => by
        obtain ⟨_, _, _, h3, _⟩ := HO.out.each d hd
        exact h3
      clear H hh hkn hE
      go_wp2
      go_ret
      exact ⟨_, E, HHH.out, rfl, HB.out, HDA.out, HCP.out⟩
end Go.Proofs.YtamookdlbmbncaaDoor
