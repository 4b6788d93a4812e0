/- The laws' helpers on lists of cards (sizes, copies, comparisons) answer what they should, for every list of cards of at most 1048576 cards and columns together: contracts of laws.szCardS, toCardS, eqCardS. -/
import Derived.Test.YtamookdlbmbncaaDoorInts
import Derived.Deep.RegionHeld3
namespace Go.Proofs.YtamookdlbmbncaaDoor
open Go.ChangeShapes Go.WideShapes Go.ChangeAt Go.RowKit

/-- a card in memory: its slice's address and capacity, and its numbers -/
structure CardV where
  at_ : Option Addr
  cap : Nat
  xs : List Int
def CardV.value (d : CardV) : Value := .slice d.at_ d.xs.length d.cap
def holes (D : List CardV) : List (List Int) := D.map (·.xs)

/-- The cards at address A, in a block below B, are D, and their numbers lie below B too. -/
def Deck (w : World) (B : Nat) (A : Option Addr) (D : List CardV) : Prop :=
  0 < D.length → ∃ b off, A = some ⟨b, off, none⟩ ∧ b < B ∧ ∀ (i : Nat) (d : CardV), D[i]? = some d → w.cell? ⟨b, off + i, none⟩ = some d.value ∧ Ints w B d.at_ d.xs

section
variable {w w' : World} {B B' : Nat} {A : Option Addr} {D : List CardV}
theorem Deck.nil : Deck w B A [] := fun h => absurd h (by simp)
theorem Deck.moved (h : Deck w B A D) (hk : ∀ p : Addr, p.block < B → w'.cell? p = w.cell? p) : Deck w' B A D := fun hn => by
  obtain ⟨b, off, rfl, hb, hc⟩ := h hn
  exact ⟨b, off, rfl, hb, fun i d hi => ⟨(hk ⟨b, off + i, none⟩ hb).trans (hc i d hi).1, (hc i d hi).2.moved hk⟩⟩
theorem Deck.more (h : Deck w B A D) (hB : B ≤ B') : Deck w B' A D := fun hn => by
  obtain ⟨b, off, rfl, hb, hc⟩ := h hn
  exact ⟨b, off, rfl, by omega, fun i d hi => ⟨(hc i d hi).1, (hc i d hi).2.more hB⟩⟩
theorem Deck.below (h : Deck w B A D) (hb : Below B w w') : Deck w' B A D := h.moved fun _ hp => hb.cell hp
theorem Deck.drew (h : Deck w B A D) : Deck w.drew B A D := h.moved fun _ _ => rfl
theorem Deck.alloc (h : Deck w B A D) (hB : B ≤ w.heap.size) (o : Obj) : Deck (w.alloc o) B A D := h.moved fun p hp => World.cell?_alloc_lt w o p (by omega)
end

/-- how much is counted after k cards -/
def szTo (D : List CardV) (k : Nat) : Nat := D.length + ((D.take k).map fun d => d.xs.length).sum
theorem szTo_zero (D : List CardV) : szTo D 0 = D.length := by simp [szTo]
theorem szTo_succ (D : List CardV) (k : Nat) (d : CardV) (h : D[k]? = some d) : szTo D (k + 1) = szTo D k + d.xs.length := by
  obtain ⟨hk, rfl⟩ := List.getElem?_eq_some_iff.1 h
  have e : (D.take (k + 1)).map (fun d => d.xs.length) = (D.take k).map (fun d => d.xs.length) ++ [D[k].xs.length] := by
    rw [List.take_succ_eq_append_getElem hk, List.map_append]
    rfl
  rw [szTo, szTo, e, List.sum_append]
  simp
  omega
theorem szTo_mono (D : List CardV) (k : Nat) : ∀ j, szTo D k ≤ szTo D (k + j)
  | 0 => Nat.le_refl _
  | j + 1 => by
    have := szTo_mono D k j
    cases h : D[k + j]? with
    | none =>
      have hl := List.getElem?_eq_none_iff.1 h
      have : szTo D (k + (j + 1)) = szTo D (k + j) := by
        unfold szTo
        rw [List.take_of_length_le (by omega), List.take_of_length_le (by omega)]
      omega
    | some d =>
      have := szTo_succ D (k + j) d h
      have e : k + (j + 1) = k + j + 1 := by omega
      rw [e]
      omega

theorem szCards_small (A : Option Addr) (c : Nat) (D : List CardV) (left : Int) (B : Nat) (w : World) (h : Deck w B A D) (hB : B ≤ w.heap.size) (h1 : left ≤ 1048576) (hs : (szTo D D.length : Int) ≤ left) :
    Calls Tryd.prog 6 #[.slice A D.length c, .int .i64 left] w fun e w' => e = .returned (.int .i64 (left - szTo D D.length)) ∧ Below w.heap.size w w' := by
  have hn0 := szTo_mono D 0 D.length
  rw [szTo_zero, Nat.zero_add] at hn0
  obtain ⟨n, hN⟩ : ∃ n, D.length = n := ⟨_, rfl⟩
  obtain ⟨t, hT⟩ : ∃ t, szTo D n = t := ⟨_, rfl⟩
  rw [hN] at hs hn0 ⊢
  rw [hT] at hs hn0 ⊢
  have H := Lib.hid h
  have HN := Lib.hid hN
  have HT := Lib.hid hT
  clear h hN hT
  go_enter Tryd.func6, Tryd.ntmps6
  go_wp2
  go_loopw [1, 5] (fun l i wr => ∃ k : Nat, ∃ q : Int, k ≤ n ∧ i = .int .i64 k ∧ l = .int .i64 q ∧ 0 ≤ q ∧ q ≤ 1048576 ∧ Hid (q = left - szTo D k) ∧ Hid (Below w.heap.size w wr)) (fun _ i _ => n - (intOf i).toNat)
  case atStart => exact ⟨0, left - n, Nat.zero_le _, rfl, rfl, by omega, by omega, by show _ = _; rw [szTo_zero, HN.out], Below.refl _ _⟩
  case round =>
    obtain ⟨k, q, hk, rfl, rfl, hq0, hq1, HQ, HB⟩ := hrel
    by_cases hlt : k < n
    · obtain ⟨d, hd⟩ : ∃ d, D[k]? = some d := ⟨D[k]'(by rw [HN.out]; exact hlt), List.getElem?_eq_getElem _⟩
      obtain ⟨b, off, rfl, hb, hcell⟩ := (H.out.below (HB.out.mono hB)) (by rw [HN.out]; omega)
      obtain ⟨hc, _⟩ := hcell k d hd
      have hsucc := szTo_succ D k d hd
      have hmono := szTo_mono D (k + 1) (n - (k + 1))
      have e1 : k + 1 + (n - (k + 1)) = n := by omega
      rw [e1, HT.out] at hmono
      have hql : (d.xs.length : Int) ≤ q := by have := HQ.out; omega
      have hz := fun W => szCard_any d.at_ d.xs.length d.cap q W hq0 hq1 (by omega)
      have e : (if q < (d.xs.length : Int) then (-1 : Int) else q - d.xs.length) = q - d.xs.length := if_neg (by omega)
      rw [e] at hz
      have HZ := Lib.hid hz
      have HQ1 : Hid (q - d.xs.length = left - szTo D (k + 1)) := by have := HQ.out; show _ = _; omega
      unfold CardV.value at hc
      obtain ⟨m, hm⟩ : ∃ m, d.xs.length = m := ⟨_, rfl⟩
      rw [hm] at hc HZ HQ1 hql
      clear hcell hd hsucc hmono e1 hz e H hm
      go_wp2_with (go_at_call 23; refine (HZ.out _).mono ?_; rintro e w2 ⟨rfl, hb2⟩; have HB2 := Lib.hid hb2; clear hb2)
      go_roundw
      case rel => exact ⟨k + 1, q - m, by omega, by go_num, rfl, by omega, by omega, HQ1, below_step HB.out HB2.out⟩
      case measure => simp [intOf]; omega
    · obtain rfl : k = n := by omega
      have hq : q = left - t := by rw [← HT.out]; exact HQ.out
      subst hq
      clear H
      go_wp2
      go_ret
      exact ⟨rfl, HB.out⟩

theorem szCards_big (A : Option Addr) (c : Nat) (D : List CardV) (left : Int) (B : Nat) (w : World) (h : Deck w B A D) (hB : B ≤ w.heap.size) (h0 : 0 ≤ left) (h1 : left ≤ 1048576) (hn : D.length ≤ 9223372036854775807)
    (hl : ∀ d ∈ D, d.xs.length ≤ 9223372036854775807) (hs : left < (szTo D D.length : Int)) :
    Calls Tryd.prog 6 #[.slice A D.length c, .int .i64 left] w fun e w' => e = .returned (.int .i64 (-1)) ∧ Below w.heap.size w w' := by
  obtain ⟨n, hN⟩ : ∃ n, D.length = n := ⟨_, rfl⟩
  rw [hN] at hs hn ⊢
  have H := Lib.hid h
  have HN := Lib.hid hN
  have HL := Lib.hid hl
  have HS := Lib.hid hs
  clear h hN hl hs
  by_cases hln : left < n
  · go_enter Tryd.func6, Tryd.ntmps6
    go_wp2
    go_ret
    exact ⟨rfl, Below.refl _ _⟩
  · go_enter Tryd.func6, Tryd.ntmps6
    go_wp2
    go_loopw [1, 5] (fun l i wr => ∃ k : Nat, ∃ q : Int, k ≤ n ∧ i = .int .i64 k ∧ l = .int .i64 q ∧ 0 ≤ q ∧ q ≤ 1048576 ∧ Hid (q = left - szTo D k) ∧ Hid (Below w.heap.size w wr)) (fun _ i _ => n - (intOf i).toNat)
    case atStart => exact ⟨0, left - n, Nat.zero_le _, rfl, rfl, by omega, by omega, by show _ = _; rw [szTo_zero, HN.out], Below.refl _ _⟩
    case round =>
      obtain ⟨k, q, hk, rfl, rfl, hq0, hq1, HQ, HB⟩ := hrel
      by_cases hlt : k < n
      · obtain ⟨d, hd⟩ : ∃ d, D[k]? = some d := ⟨D[k]'(by rw [HN.out]; exact hlt), List.getElem?_eq_getElem _⟩
        obtain ⟨b, off, rfl, hb, hcell⟩ := (H.out.below (HB.out.mono hB)) (by rw [HN.out]; omega)
        obtain ⟨hc, _⟩ := hcell k d hd
        have hsucc := szTo_succ D k d hd
        have hm1 := HL.out d (List.mem_of_getElem? hd)
        have hz := fun W => szCard_any d.at_ d.xs.length d.cap q W hq0 hq1 hm1
        unfold CardV.value at hc
        by_cases hql : q < (d.xs.length : Int)
        · rw [if_pos hql] at hz
          have HZ := Lib.hid hz
          obtain ⟨m, hm⟩ : ∃ m, d.xs.length = m := ⟨_, rfl⟩
          rw [hm] at hc HZ
          clear hcell hd hsucc hz H hm hql hm1
          go_wp2_with (go_at_call 23; refine (HZ.out _).mono ?_; rintro e w2 ⟨rfl, hb2⟩; have HB2 := Lib.hid hb2; clear hb2)
          go_ret
          exact ⟨rfl, below_step HB.out HB2.out⟩
        · rw [if_neg hql] at hz
          have HZ := Lib.hid hz
          have HQ1 : Hid (q - d.xs.length = left - szTo D (k + 1)) := by have := HQ.out; show _ = _; omega
          obtain ⟨m, hm⟩ : ∃ m, d.xs.length = m := ⟨_, rfl⟩
          rw [hm] at hc HZ HQ1 hql
          clear hcell hd hsucc hz H hm hm1
          go_wp2_with (go_at_call 23; refine (HZ.out _).mono ?_; rintro e w2 ⟨rfl, hb2⟩; have HB2 := Lib.hid hb2; clear hb2)
          go_roundw
          case rel => exact ⟨k + 1, q - m, by omega, by go_num, rfl, by omega, by omega, HQ1, below_step HB.out HB2.out⟩
          case measure => simp [intOf]; omega
      · obtain rfl : k = n := by omega
        have := HQ.out
        have := HS.out
        omega

/-- the value of a card's cell -/
def cellsOf (E : List CardV) (n : Nat) : List Value := E.map CardV.value ++ List.replicate (n - E.length) (.slice none 0 0)

theorem info_card : (Tryd.prog.info? 57).map (fun i => (i.zero, i.size, i.bytes)) = some (some (.agg #[.slice none 0 0]), 1, 24) := by kernel_rfl

theorem cellsOf_length (E : List CardV) (n : Nat) (h : E.length ≤ n) : (cellsOf E n).length = n := by simp [cellsOf]; omega
theorem cellsOf_set (E : List CardV) (n : Nat) (e : CardV) (h : E.length < n) : (cellsOf E n).set E.length e.value = cellsOf (E ++ [e]) n := by
  unfold cellsOf
  rw [List.set_append_right _ _ (by simp)]
  obtain ⟨m, hm⟩ : ∃ m, n - E.length = m + 1 := ⟨n - E.length - 1, by omega⟩
  have hm2 : n - (E ++ [e]).length = m := by simp; omega
  rw [hm, hm2]
  simp [List.replicate_succ]
theorem cellsOf_get (E : List CardV) (n i : Nat) (e : CardV) (h : E[i]? = some e) : (cellsOf E n)[i]? = some e.value := by
  obtain ⟨hi, rfl⟩ := List.getElem?_eq_some_iff.1 h
  rw [cellsOf, List.getElem?_append_left (by simpa using hi)]
  simp [hi]

/-- A list of cards in memory of its own: the block g of the cards, and for each card a block of its own behind it. -/
structure OwnDeck (w : World) (g : Nat) (E : List CardV) (n : Nat) : Prop where
  cards : w.heap[g]? = some (.cells (cellsOf E n).toArray 57 (0, 0))
  each : ∀ e ∈ E, ∃ ge, e.at_ = some ⟨ge, 0, none⟩ ∧ g < ge ∧ e.cap = e.xs.length ∧ Row w ge e.xs []

section
variable {w w' : World} {g n : Nat} {E : List CardV}
theorem OwnDeck.lt (h : OwnDeck w g E n) : g < w.heap.size := by
  rcases Nat.lt_or_ge g w.heap.size with hlt | hge
  · exact hlt
  · have := h.cards
    rw [Array.getElem?_eq_none hge] at this
    cases this
theorem OwnDeck.later (h : OwnDeck w g E n) (hb : Below w.heap.size w w') : OwnDeck w' g E n :=
  ⟨(hb.block g h.lt).trans h.cards, fun e he => by
    obtain ⟨ge, h1, h2, h3, h4⟩ := h.each e he
    exact ⟨ge, h1, h2, h3, h4.later hb⟩⟩
theorem OwnDeck.drew (h : OwnDeck w g E n) : OwnDeck w.drew g E n := ⟨h.cards, fun e he => by
  obtain ⟨ge, h1, h2, h3, h4⟩ := h.each e he
  exact ⟨ge, h1, h2, h3, h4.drew⟩⟩
theorem OwnDeck.alloc (h : OwnDeck w g E n) (o : Obj) : OwnDeck (w.alloc o) g E n := h.later (below_box w o)
theorem OwnDeck.cell (h : OwnDeck w g E n) (i : Nat) : w.cell? ⟨g, i, none⟩ = (cellsOf E n)[i]? := by
  rw [cell_of_row w g i _ _ _ h.cards]
  simp
theorem OwnDeck.frozen (h : OwnDeck w g E n) (i : Nat) : w.frozen? ⟨g, i, none⟩ = false := by
  have := h.cards
  simp [World.frozen?, this]
theorem OwnDeck.put (h : OwnDeck w g E n) (e : CardV) (ge : Nat) (hn : E.length < n) (h1 : e.at_ = some ⟨ge, 0, none⟩) (h2 : g < ge) (h3 : e.cap = e.xs.length) (h4 : Row w ge e.xs []) :
    OwnDeck (w.setCell ⟨g, E.length, none⟩ e.value) g (E ++ [e]) n := by
  refine ⟨?_, fun x hx => ?_⟩
  · have hc := h.cards
    simp only [World.setCell, Array.getElem?_modify, if_true, hc, Option.map_some]
    congr 2
    apply Array.ext'
    simp [cellsOf_set E n e hn]
  · rcases List.mem_append.1 hx with hx | hx
    · obtain ⟨gx, a1, a2, a3, a4⟩ := h.each x hx
      exact ⟨gx, a1, a2, a3, a4.far (by show gx ≠ g; omega) _⟩
    · obtain rfl : x = e := by simpa using hx
      exact ⟨ge, h1, h2, h3, h4.far (by show ge ≠ g; omega) _⟩
theorem OwnDeck.deck (h : OwnDeck w g E E.length) : Deck w w.heap.size (some ⟨g, 0, none⟩) E := fun _ => by
  refine ⟨g, 0, rfl, h.lt, fun i d hi => ?_⟩
  rw [Nat.zero_add, h.cell i, cellsOf_get E _ i d hi]
  obtain ⟨ge, h1, h2, _, h4⟩ := h.each d (List.mem_of_getElem? hi)
  refine ⟨rfl, ?_⟩
  rw [h1]
  exact h4.ints.more h4.lt
end

theorem toCards_any (A : Option Addr) (c : Nat) (D : List CardV) (B : Nat) (w : World) (h : Deck w B A D) (hB : B ≤ w.heap.size) (hn : D.length ≤ 1048576) (hl : ∀ d ∈ D, d.xs.length ≤ 1048576) :
    Calls Tryd.prog 8 #[.slice A D.length c] w fun e w' => e = .returned (.slice (some ⟨w.heap.size, 0, none⟩) D.length D.length) ∧ ∃ E, holes E = holes D ∧ E.length = D.length ∧ Below w.heap.size w w' ∧ OwnDeck w' w.heap.size E D.length := by
  obtain ⟨n, hN⟩ : ∃ n, D.length = n := ⟨_, rfl⟩
  rw [hN] at hn ⊢
  have hmk : ∀ W : World, (Instr.makeSlice 26 (.int .i64 n) (.int .i64 n)).run Tryd.prog W = .ok (.slice (some ⟨W.heap.size, 0, none⟩) n n) (W.alloc (.cells (cellsOf [] n).toArray 57)) := fun W => by
    obtain ⟨i0, hi0, hz0, hz1, hz2⟩ := info_parts info_card
    have hr := run_make (P := Tryd.prog) W 26 57 i0 _ Tryd.underlying26 hi0 hz0 .i64 .i64 n n (by omega) (Int.le_refl _) (by rw [hz2]; omega) (by omega)
    have e : madeCells (Value.agg #[Value.slice none 0 0]).cells ((n : Int).toNat * i0.size) = (cellsOf [] n).toArray := by
      rw [hz1, Int.toNat_natCast, Nat.mul_one]
      apply Array.ext
      · simp [size_madeCells, cellsOf]
      · intro i h1 h2
        simp [madeCells, cellsOf, Value.cells, Nat.mod_one]
    rw [e, Int.toNat_natCast] at hr
    exact hr
  have H := Lib.hid h
  have HN := Lib.hid hN
  have HL := Lib.hid hl
  clear h hN hl
  go_enter Tryd.func8, Tryd.ntmps8
  go_wp2
  clear hmk
  go_loopw [4] (fun i wr => ∃ k : Nat, ∃ E : List CardV, k ≤ n ∧ i = .int .i64 k ∧ E.length = k ∧ Hid (holes E = (holes D).take k) ∧ Hid (Below w.heap.size w wr) ∧ Hid (OwnDeck wr w.heap.size E n)) (fun i _ => n - (intOf i).toNat)
  case atStart => exact ⟨0, [], Nat.zero_le _, rfl, rfl, by show _ = _; simp [holes], below_box w _, heap_alloc_new w _, fun e he => by cases he⟩
  case round =>
    obtain ⟨k, E, hk, rfl, hE, HH, HB, HO⟩ := hrel
    by_cases hlt : k < n
    · obtain ⟨d, hd⟩ : ∃ d, D[k]? = some d := ⟨D[k]'(by rw [HN.out]; exact hlt), List.getElem?_eq_getElem _⟩
      obtain ⟨b, off, rfl, hb, hcell⟩ := (H.out.below (HB.out.mono hB)) (by rw [HN.out]; omega)
      obtain ⟨hc, hi⟩ := hcell k d hd
      have hl1 := HL.out d (List.mem_of_getElem? hd)
      have HT := Lib.hid (toCard_any d.at_ d.cap d.xs B _ hi (Nat.le_trans hB HB.out.size) hl1)
      have hst : Hid ((cellsOf E n)[k]? = some (.slice none 0 0)) := by
        show _ = _
        rw [cellsOf, List.getElem?_append_right (by simp; omega), List.getElem?_replicate, if_pos (by simp; omega)]
      have HE := Lib.hid hE
      have HH1 : Hid (∀ e : CardV, e.xs = d.xs → holes (E ++ [e]) = (holes D).take (k + 1)) := fun e he => by
        have hkl : k < (holes D).length := by simp [holes]; rw [HN.out]; exact hlt
        rw [List.take_succ_eq_append_getElem hkl, ← HH.out]
        have : (holes D)[k]'hkl = d.xs := by
          obtain ⟨_, rfl⟩ := List.getElem?_eq_some_iff.1 hd
          simp [holes]
        rw [this]
        simp [holes, he]
      unfold CardV.value at hc
      clear hcell hd hi hl1 H hE
      go_wp2_with fail
      refine HT.out.mono ?_
      rintro e w2 ⟨ge, rfl, hge, hb2, hrow⟩
      have HB2 := Lib.hid (below_step HB.out hb2)
      have HO2 := Lib.hid (HO.out.later hb2)
      have HR2 := Lib.hid hrow
      have hg : w.heap.size < ge := Nat.lt_of_lt_of_le HO.out.lt hge
      have c2 : w2.cell? ⟨w.heap.size, k, none⟩ = some (.slice none 0 0) := by rw [HO2.out.cell k]; exact hst.out
      have f2 := HO2.out.frozen k
      clear hb2 hrow hc HT
      go_wp2
      go_roundw
      case rel =>
        refine ⟨k + 1, E ++ [⟨some ⟨ge, 0, none⟩, d.xs.length, d.xs⟩], by omega, by go_num, by simp [HE.out], HH1.out _ rfl, HB2.out.setCell (by simp) _, ?_⟩
        have := HO2.out.put ⟨some ⟨ge, 0, none⟩, d.xs.length, d.xs⟩ ge (by rw [HE.out]; exact hlt) rfl hg rfl HR2.out
        rw [HE.out] at this
        exact this
      case measure => simp [intOf]; omega
    · have hkn : k = n := by omega
      have hh : holes E = holes D := by
        rw [HH.out, List.take_of_length_le (by simp [holes]; rw [HN.out]; omega)]
      have HHH := Lib.hid hh
      have HEn : Hid (E.length = n) := by rw [hkn] at hE; exact hE
      have hk1 : ¬ (k : Int) < (n : Int) := by omega
      clear H hh hkn hE
      go_wp2
      go_ret
      exact ⟨rfl, E, HHH.out, HEn.out, HB.out, HO.out⟩

theorem takeL_more (xs ys : List (List Int)) (k : Nat) (x y : List Int) (hx : xs[k]? = some x) (hy : ys[k]? = some y) (h : xs.take k = ys.take k) (e : x = y) : xs.take (k + 1) = ys.take (k + 1) := by
  obtain ⟨h1, rfl⟩ := List.getElem?_eq_some_iff.1 hx
  obtain ⟨h2, rfl⟩ := List.getElem?_eq_some_iff.1 hy
  rw [List.take_succ_eq_append_getElem h1, List.take_succ_eq_append_getElem h2, h, e]

theorem eqCards_any (A A' : Option Addr) (c c' : Nat) (D E : List CardV) (B B' : Nat) (w : World) (h : Deck w B A D) (h' : Deck w B' A' E) (hB : B ≤ w.heap.size) (hB' : B' ≤ w.heap.size) (hn : D.length ≤ 1048576) (_ : E.length ≤ 140737488355328)
    (hl : ∀ d ∈ D, d.xs.length ≤ 1048576) (hl' : ∀ d ∈ E, d.xs.length ≤ 1048576) :
    Calls Tryd.prog 11 #[.slice A D.length c, .slice A' E.length c'] w fun e w' => e = .returned (.bool (decide (holes D = holes E))) ∧ Below w.heap.size w w' := by
  by_cases hll : D.length = E.length
  · obtain ⟨n, hN⟩ : ∃ n, D.length = n := ⟨_, rfl⟩
    obtain ⟨r, hr⟩ : ∃ r, decide (holes D = holes E) = r := ⟨_, rfl⟩
    rw [hr]
    rw [hN] at hn ⊢
    rw [← hll, hN]
    have H := Lib.hid h
    have H' := Lib.hid h'
    have HN := Lib.hid hN
    have HE := Lib.hid (hll.symm.trans hN)
    have HR := Lib.hid hr
    have HL := Lib.hid hl
    have HL' := Lib.hid hl'
    clear h h' hN hll hr hl hl'
    go_enter Tryd.func11, Tryd.ntmps11
    go_wp2
    go_loopw [5] (fun i wr => ∃ k : Nat, k ≤ n ∧ i = .int .i64 k ∧ Hid (Below w.heap.size w wr) ∧ Hid ((holes D).take k = (holes E).take k)) (fun i _ => n - (intOf i).toNat)
    case atStart => exact ⟨0, Nat.zero_le _, rfl, Below.refl _ _, by show _ = _; simp⟩
    case round =>
      obtain ⟨k, hk, rfl, HB, HK⟩ := hrel
      by_cases hlt : k < n
      · obtain ⟨d, hd⟩ : ∃ d, D[k]? = some d := ⟨D[k]'(by rw [HN.out]; exact hlt), List.getElem?_eq_getElem _⟩
        obtain ⟨e, he⟩ : ∃ e, E[k]? = some e := ⟨E[k]'(by rw [HE.out]; exact hlt), List.getElem?_eq_getElem _⟩
        obtain ⟨b, off, rfl, hb, hcell⟩ := (H.out.below (HB.out.mono hB)) (by rw [HN.out]; omega)
        obtain ⟨b', off', rfl, hb', hcell'⟩ := (H'.out.below (HB.out.mono hB')) (by rw [HE.out]; omega)
        obtain ⟨hc, hi⟩ := hcell k d hd
        obtain ⟨hc', hi'⟩ := hcell' k e he
        have hm := HL.out d (List.mem_of_getElem? hd)
        have hm' := HL'.out e (List.mem_of_getElem? he)
        have HC := Lib.hid (eqCard_any d.at_ e.at_ d.cap e.cap d.xs e.xs B B' wr.drew hi.drew hi'.drew (Nat.le_trans hB HB.out.size) (Nat.le_trans hB' HB.out.size) hm (by omega))
        have hdx : (holes D)[k]? = some d.xs := by simp [holes, hd]
        have hex : (holes E)[k]? = some e.xs := by simp [holes, he]
        have HX := Lib.hid hdx
        have HY := Lib.hid hex
        have hk0 : (0 : Int) ≤ (k : Int) := Int.natCast_nonneg _
        have hk1 : (k : Int) < (n : Int) := by omega
        unfold CardV.value at hc hc'
        obtain ⟨q, hq⟩ : ∃ q, decide (d.xs = e.xs) = q := ⟨_, rfl⟩
        have HQ := Lib.hid hq
        rw [hq] at HC
        clear hcell hcell' hd he hi hi' hm hm' hdx hex hq H H'
        cases q
        · obtain rfl : r = false := by
            rw [← HR.out]
            simp only [decide_eq_false_iff_not]
            intro ee
            have := HX.out
            rw [ee, HY.out] at this
            injection this with this
            have hq := HQ.out
            rw [this] at hq
            simp at hq
          go_wp2
          go_region_held3 (fun W => W.cell? ⟨b, off + k, none⟩ = some (.slice d.at_ d.xs.length d.cap) ∧ W.cell? ⟨b', off' + k, none⟩ = some (.slice e.at_ e.xs.length e.cap))
            (first | exact ⟨hc, hc'⟩ | exact ⟨hc2, hc2'⟩)
            (first
              | (go_at_call 38
                 refine HC.out.mono ?_
                 rintro e2 w2 ⟨rfl, hb2⟩
                 have HB2 := Lib.hid (below_step HB.out.drew hb2)
                 have hc2 := cell_kept (w := wr.drew) hc hb2
                 have hc2' := cell_kept (w := wr.drew) hc' hb2
                 clear hb2))
          go_wp2
          go_ret
          exact ⟨rfl, HB2.out⟩
        · have HK1 : Hid ((holes D).take (k + 1) = (holes E).take (k + 1)) := takeL_more _ _ k d.xs e.xs HX.out HY.out HK.out (by simpa using HQ.out)
          go_wp2
          go_region_held3 (fun W => W.cell? ⟨b, off + k, none⟩ = some (.slice d.at_ d.xs.length d.cap) ∧ W.cell? ⟨b', off' + k, none⟩ = some (.slice e.at_ e.xs.length e.cap))
            (first | exact ⟨hc, hc'⟩ | exact ⟨hc2, hc2'⟩)
            (first
              | (go_at_call 38
                 refine HC.out.mono ?_
                 rintro e2 w2 ⟨rfl, hb2⟩
                 have HB2 := Lib.hid (below_step HB.out.drew hb2)
                 have hc2 := cell_kept (w := wr.drew) hc hb2
                 have hc2' := cell_kept (w := wr.drew) hc' hb2
                 clear hb2))
          go_wp2
          go_roundw
          case rel => exact ⟨k + 1, by omega, by go_num, HB2.out, HK1⟩
          case measure => simp [intOf]; omega
      · have hkn : k = n := by omega
        obtain rfl : r = true := by
          rw [← HR.out]
          have := HK.out
          rw [List.take_of_length_le (by simp [holes]; rw [HN.out]; omega), List.take_of_length_le (by simp [holes]; rw [HE.out]; omega)] at this
          simpa using this
        have hk1 : ¬ (k : Int) < (n : Int) := by omega
        clear hkn H H'
        go_wp2
        go_ret
        exact ⟨rfl, HB.out⟩
  · have e : decide (holes D = holes E) = false := by
      simp only [decide_eq_false_iff_not]
      intro ee
      apply hll
      have := congrArg List.length ee
      simpa [holes] using this
    rw [e]
    have hne : ((D.length : Int) != (E.length : Int)) = true := by rw [bne_iff_ne]; omega
    clear e h h' hl hl'
    go_enter Tryd.func11, Tryd.ntmps11
    go_wp2
    go_ret
    exact ⟨rfl, Below.refl _ _⟩
end Go.Proofs.YtamookdlbmbncaaDoor
