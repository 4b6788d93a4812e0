/- What the helpers of the named laws do (laws.a2Long, a2At, a2Width, a2Field): contracts. -/
import Derived.Test.YtdakbbgbglgioaaDoorDraw
import Derived.Test.YtdakbbgbglgioaaDoorDrawDeck
import Derived.Test.YtdakbbgbglgioaaDoorH2
import Derived.Test.YtdakbbgbglgioaaDoorCmpMath
namespace Go.Proofs.YtdakbbgbglgioaaDoor
open Go.ChangeShapes Go.WideShapes Go.ChangeAt Go.RowKit

theorem a2Long_any (A A' : Option Addr) (n n' c c' : Nat) (w : World) (hn : n ≤ 9223372036854775807) (hn' : n' ≤ 9223372036854775807) :
    Calls Tryd.prog 7 #[.slice A n c, .slice A' n' c'] w fun e w' => e = .returned (.bool (decide (3000 < n) || decide (3000 < n'))) ∧ w = w' := by
  by_cases h : 3000 < n
  · have h1 : (3000 : Int) < (n : Int) := by omega
    go_enter Tryd.func7, Tryd.ntmps7
    go_wp2
    go_ret
    exact ⟨by simp [h], rfl⟩
  · have h1 : ¬ (3000 : Int) < (n : Int) := by omega
    by_cases h' : 3000 < n'
    · have h2 : (3000 : Int) < (n' : Int) := by omega
      go_enter Tryd.func7, Tryd.ntmps7
      go_wp2
      go_ret
      exact ⟨by first | (simp; done) | (simp; omega), rfl⟩
    · have h2 : ¬ (3000 : Int) < (n' : Int) := by omega
      go_enter Tryd.func7, Tryd.ntmps7
      go_wp2
      go_ret
      exact ⟨by first | (simp; done) | (simp; omega), rfl⟩

theorem a2At_any (A : Option Addr) (n c B k : Nat) (m : Int) (w : World) (h : BytesAt w B A n) (hn : n ≤ 3000) (hk : k ≤ 1000) (h1 : 1 ≤ m) (h2 : m ≤ 1048576) :
    Calls Tryd.prog 17 #[.slice A n c, .int .i64 k, .int .i64 m] w fun e w' => ∃ r : Nat, e = .returned (.int .i64 r) ∧ (r : Int) < m ∧ w = w' := by
  by_cases hkn : n ≤ k
  · have hk1 : (n : Int) ≤ (k : Int) := by omega
    clear h
    go_enter Tryd.func17, Tryd.ntmps17
    go_wp2
    go_ret
    exact ⟨0, rfl, by omega, rfl⟩
  · have hk1 : ¬ (n : Int) ≤ (k : Int) := by omega
    have hk2 : (k : Int) < (n : Int) := by omega
    have hk0 : (0 : Int) ≤ (k : Int) := Int.natCast_nonneg _
    have hm1 : ¬ m < 1 := by omega
    have hm0 : m ≠ 0 := by omega
    obtain ⟨b, off, rfl, hb, hc⟩ := h (by omega)
    obtain ⟨u, hu, cu⟩ := hc k (by omega)
    clear h hc
    go_enter Tryd.func17, Tryd.ntmps17
    go_wp2
    go_ret
    have e0 := Int.emod_nonneg (u : Int) hm0
    have e1 := Int.emod_lt_of_pos (u : Int) (show 0 < m by omega)
    exact ⟨((u : Int) % m).toNat, by rw [Int.toNat_of_nonneg e0]; rfl, by rw [Int.toNat_of_nonneg e0]; exact e1, rfl⟩

theorem a2Width_one (b : Nat) (A : Option Addr) (n c : Nat) (w : World) (hc : w.cell? ⟨b, 0, none⟩ = some (.slice A n c)) :
    Calls Tryd.prog 60 #[.slice (some ⟨b, 0, none⟩) 1 1] w fun e w' => e = .returned (.int .i64 n) ∧ w = w' := by
  go_enter Tryd.func60, Tryd.ntmps60
  go_wp2
  go_ret
  exact ⟨rfl, rfl⟩

theorem a2Field_one (b : Nat) (A A' : Option Addr) (n c n' c' B : Nat) (w : World) (hc : w.cell? ⟨b, 0, none⟩ = some (.slice A n c)) (h1 : 1 ≤ n) (hn : n ≤ 1048576) (h : BytesAt w B A' n') (hB : B ≤ w.heap.size) (hn' : n' ≤ 3000) :
    Calls Tryd.prog 25 #[.slice (some ⟨b, 0, none⟩) 1 1, .slice A' n' c'] w fun e w' => ∃ i j : Nat, e = .returned (.agg #[.int .i64 i, .int .i64 j]) ∧ i < j ∧ j ≤ n ∧ Below w.heap.size w w' := by
  have hb := World.block_lt_of_cell? _ _ hc
  have c1 := cell_kept hc (below_box w (.cells #[.int .i64 0, .int .i64 0] 26))
  have f0 : (w.alloc (.cells #[.int .i64 0, .int .i64 0] 26)).frozen? ⟨w.heap.size, 0, none⟩ = false := by simp [go_sem]
  have f1 : (w.alloc (.cells #[.int .i64 0, .int .i64 0] 26)).frozen? ⟨w.heap.size, 1, none⟩ = false := by simp [go_sem]
  have H := Lib.hid (h.below ((below_box w (.cells #[.int .i64 0, .int .i64 0] 26)).mono hB))
  have HW := Lib.hid (a2Width_one b A n c _ c1)
  have HX := Lib.hid (a2At_any A' n' c' B 0 n _ H.out hn' (by omega) (by omega) (by omega))
  clear h hc
  go_enter Tryd.func25, Tryd.ntmps25
  go_wp2_with fail
  refine HW.out.mono ?_
  rintro e w1 ⟨rfl, rfl⟩
  go_wp2_with fail
  refine HX.out.mono ?_
  rintro e w1 ⟨i, rfl, hi, rfl⟩
  have HY := Lib.hid (a2At_any A' n' c' B 1 ((n : Int) - i) _ H.out hn' (by omega) (by omega) (by omega))
  go_wp2_with fail
  refine HY.out.mono ?_
  rintro e w1 ⟨r, rfl, hr, rfl⟩
  go_wp2
  exact bodyPost_ret (v := .agg #[.int .i64 i, .int .i64 ((i : Int) + 1 + r)]) (by simp [results, Tryd.results25, go_sem]) rfl ⟨i, i + 1 + r, by simp, by omega, by omega, below_box w _⟩
end Go.Proofs.YtdakbbgbglgioaaDoor

/- laws.a2Width and laws.a2Field of a list of one card or more: contracts. -/
namespace Go.Proofs.YtdakbbgbglgioaaDoor
open Go.ChangeShapes Go.WideShapes Go.ChangeAt Go.RowKit

theorem a2Width_deck (b N C : Nat) (hN : 1 ≤ N) (A : Option Addr) (n c : Nat) (w : World) (hc : w.cell? ⟨b, 0, none⟩ = some (.slice A n c)) :
    Calls Tryd.prog 60 #[.slice (some ⟨b, 0, none⟩) N C] w fun e w' => e = .returned (.int .i64 n) ∧ w = w' := by
  have hn1 : ¬ (N : Int) = 0 := by omega
  have hn2 : ((N : Int) == 0) = false := by simpa using hn1
  have hn3 : 0 < N := hN
  have hn4 : (0 : Int) < (N : Int) := by omega
  go_enter Tryd.func60, Tryd.ntmps60
  go_wp2
  go_ret
  exact ⟨rfl, rfl⟩

theorem a2Field_deck (b N C : Nat) (hN : 1 ≤ N) (A A' : Option Addr) (n c n' c' B : Nat) (w : World) (hc : w.cell? ⟨b, 0, none⟩ = some (.slice A n c)) (h1 : 1 ≤ n) (hn : n ≤ 1048576) (h : BytesAt w B A' n') (hB : B ≤ w.heap.size) (hn' : n' ≤ 3000) :
    Calls Tryd.prog 25 #[.slice (some ⟨b, 0, none⟩) N C, .slice A' n' c'] w fun e w' => ∃ i j : Nat, e = .returned (.agg #[.int .i64 i, .int .i64 j]) ∧ i < j ∧ j ≤ n ∧ Below w.heap.size w w' := by
  have hb := World.block_lt_of_cell? _ _ hc
  have c1 := cell_kept hc (below_box w (.cells #[.int .i64 0, .int .i64 0] 26))
  have f0 : (w.alloc (.cells #[.int .i64 0, .int .i64 0] 26)).frozen? ⟨w.heap.size, 0, none⟩ = false := by simp [go_sem]
  have f1 : (w.alloc (.cells #[.int .i64 0, .int .i64 0] 26)).frozen? ⟨w.heap.size, 1, none⟩ = false := by simp [go_sem]
  have H := Lib.hid (h.below ((below_box w (.cells #[.int .i64 0, .int .i64 0] 26)).mono hB))
  have HW := Lib.hid (a2Width_deck b N C hN A n c _ c1)
  have HX := Lib.hid (a2At_any A' n' c' B 0 n _ H.out hn' (by omega) (by omega) (by omega))
  clear h hc
  go_enter Tryd.func25, Tryd.ntmps25
  go_wp2_with fail
  refine HW.out.mono ?_
  rintro e w1 ⟨rfl, rfl⟩
  go_wp2_with fail
  refine HX.out.mono ?_
  rintro e w1 ⟨i, rfl, hi, rfl⟩
  have HY := Lib.hid (a2At_any A' n' c' B 1 ((n : Int) - i) _ H.out hn' (by omega) (by omega) (by omega))
  go_wp2_with fail
  refine HY.out.mono ?_
  rintro e w1 ⟨r, rfl, hr, rfl⟩
  go_wp2
  exact bodyPost_ret (v := .agg #[.int .i64 i, .int .i64 ((i : Int) + 1 + r)]) (by simp [results, Tryd.results25, go_sem]) rfl ⟨i, i + 1 + r, by simp, by omega, by omega, below_box w _⟩
end Go.Proofs.YtdakbbgbglgioaaDoor

/- A drawn deck is valid, its fields are texts, its cards have the room that they need. No function of the program is spoken of. -/
namespace Go.Proofs.YtdakbbgbglgioaaDoor
open Go.ChangeShapes Go.WideShapes Go.ChangeAt Go.RowKit

theorem drawn_deck {base m : Nat} {W : World} {v : Value} {D : List CardV} (h : DeckOwn base m W v D) (h40 : D.length ≤ 40) :
    deckB (holes D) = true ∧ widthH (holes D) = (if D.length = 0 then 20 else m) ∧ (∀ i j, keysB (holes D) i j = true) ∧ CapsOk D := by
  have key : ∀ y ∈ holes D, okB y = true ∧ y.length = m ∧ textOk y = true := fun y hy => by
    obtain ⟨d, hd, rfl⟩ := List.mem_map.1 hy
    obtain ⟨b, ex, _, _, _, hl, ht, hv, _⟩ := h.2 d hd
    exact ⟨hv, hl, ht⟩
  have hlen : (holes D).length = D.length := by simp [holes]
  have hz : D.length ≠ 0 → firstZ (holes D) = m := fun h0 => by
    have hx : (holes D)[0]? = some ((holes D)[0]'(by omega)) := List.getElem?_eq_getElem _
    rw [firstZ, hx]
    exact (key _ (List.mem_of_getElem? hx)).2.1
  refine ⟨?_, ?_, fun i j => ?_, fun d hd => ?_⟩
  · rw [deckB, Bool.and_eq_true, List.all_eq_true, decide_eq_true_eq]
    refine ⟨fun y hy => ?_, by omega⟩
    have h0 : D.length ≠ 0 := by
      intro e
      rw [List.eq_nil_of_length_eq_zero e] at hy
      cases hy
    rw [goodB, hz h0, Bool.and_eq_true, decide_eq_true_eq]
    exact ⟨(key y hy).1, by rw [(key y hy).2.1]⟩
  · unfold widthH
    rw [hlen]
    by_cases h0 : D.length = 0
    · rw [if_pos h0, if_pos h0]
    · rw [if_neg h0, if_neg h0, hz h0]
  · rw [keysB, List.all_eq_true]
    exact fun y hy => textOk_part (key y hy).2.2 i j
  · obtain ⟨b, ex, _, _, _, hl, _, _, hc, hcm⟩ := h.2 d hd
    unfold maxLen at hcm
    exact ⟨by omega, by omega⟩
theorem drawn_code {H : List (List Int)} {i j : Nat} (h1 : deckB H = true) (h3 : keysB H i j = true) (hij : i < j) (hj : j ≤ widthH H) : keysC H (i : Int) (j : Int) = 0 := by
  unfold keysC
  rw [if_neg (by simp [h1]), if_neg (by rw [fieldB]; simp; omega), Int.toNat_natCast, Int.toNat_natCast, if_neg (by simp [h3])]
theorem DeckOwn.deck {base m gq n cq : Nat} {W : World} {D : List CardV} (h : DeckOwn base m W (.slice (some ⟨gq, 0, none⟩) n cq) D) : Deck W W.heap.size (some ⟨gq, 0, none⟩) D := fun h0 => by
  have hb : gq < W.heap.size := by
    have := (h.card (k := 0) h0).1
    exact World.block_lt_of_cell? _ _ this
  refine ⟨gq, 0, rfl, hb, fun i d hd => ?_⟩
  obtain ⟨hi, e⟩ := List.getElem?_eq_some_iff.1 hd
  obtain ⟨hc, hca⟩ := h.card (k := i) hi
  rw [e] at hc hca
  obtain ⟨b, ex, e1, _, hr, hl, _⟩ := hca
  refine ⟨by rw [Nat.zero_add, hc, CardV.value, hl], ?_⟩
  rw [e1]
  exact hr.ints.more hr.lt

theorem a2Width_none (A : Option Addr) (c : Nat) (w : World) : Calls Tryd.prog 60 #[.slice A 0 c] w fun e w' => e = .returned (.int .i64 1) ∧ w = w' := by
  go_enter Tryd.func60, Tryd.ntmps60
  go_wp2
  go_ret
  exact ⟨rfl, rfl⟩
theorem a2Field_none (A A' : Option Addr) (c n' c' B : Nat) (w : World) (h : BytesAt w B A' n') (hB : B ≤ w.heap.size) (hn' : n' ≤ 3000) :
    Calls Tryd.prog 25 #[.slice A 0 c, .slice A' n' c'] w fun e w' => ∃ i j : Nat, e = .returned (.agg #[.int .i64 i, .int .i64 j]) ∧ i < j ∧ j ≤ 1 ∧ Below w.heap.size w w' := by
  have f0 : (w.alloc (.cells #[.int .i64 0, .int .i64 0] 26)).frozen? ⟨w.heap.size, 0, none⟩ = false := by simp [go_sem]
  have f1 : (w.alloc (.cells #[.int .i64 0, .int .i64 0] 26)).frozen? ⟨w.heap.size, 1, none⟩ = false := by simp [go_sem]
  have H := Lib.hid (h.below ((below_box w (.cells #[.int .i64 0, .int .i64 0] 26)).mono hB))
  have HW := Lib.hid (a2Width_none A c (w.alloc (.cells #[.int .i64 0, .int .i64 0] 26)))
  have HX := Lib.hid (a2At_any A' n' c' B 0 1 _ H.out hn' (by omega) (by omega) (by omega))
  clear h
  go_enter Tryd.func25, Tryd.ntmps25
  go_wp2_with fail
  refine HW.out.mono ?_
  rintro e w1 ⟨rfl, rfl⟩
  go_wp2_with fail
  refine HX.out.mono ?_
  rintro e w1 ⟨i, rfl, hi, rfl⟩
  have HY := Lib.hid (a2At_any A' n' c' B 1 ((1 : Int) - i) _ H.out hn' (by omega) (by omega) (by omega))
  go_wp2_with fail
  refine HY.out.mono ?_
  rintro e w1 ⟨r, rfl, hr, rfl⟩
  go_wp2
  exact bodyPost_ret (v := .agg #[.int .i64 i, .int .i64 ((i : Int) + 1 + r)]) (by simp [results, Tryd.results25, go_sem]) rfl ⟨i, i + 1 + r, by simp, by omega, by omega, below_box w _⟩
/-- a field of a drawn deck -/
theorem a2Field_drawn {base m gq cq : Nat} {W : World} {D : List CardV} (h : DeckOwn base m W (.slice (some ⟨gq, 0, none⟩) D.length cq) D) (hm : 1 ≤ m) (hm2 : m ≤ 20) (h40 : D.length ≤ 40) (A' : Option Addr) (n' c' B : Nat) (hb : BytesAt W B A' n') (hB : B ≤ W.heap.size) (hn' : n' ≤ 3000) :
    Calls Tryd.prog 25 #[.slice (some ⟨gq, 0, none⟩) D.length cq, .slice A' n' c'] W fun e w' => ∃ i j : Nat, e = .returned (.agg #[.int .i64 i, .int .i64 j]) ∧ i < j ∧ j ≤ widthH (holes D) ∧ Below W.heap.size W w' := by
  obtain ⟨_, v2, _, _⟩ := drawn_deck h h40
  rw [v2]
  by_cases h0 : D.length = 0
  · rw [if_pos h0, h0]
    exact (a2Field_none _ A' cq n' c' B W hb hB hn').mono fun _ _ ⟨i, j, e, h1, h2, h3⟩ => ⟨i, j, e, h1, by omega, h3⟩
  · rw [if_neg h0]
    exact a2Field_deck gq D.length cq (by omega) _ A' m _ n' c' B W (h.card (k := 0) (by omega)).1 hm (by omega) hb hB hn'
end Go.Proofs.YtdakbbgbglgioaaDoor

/- spec.A2Two: two drawn decks of two columns and a field: a contract. -/
namespace Go.Proofs.YtdakbbgbglgioaaDoor
open Go.ChangeShapes Go.WideShapes Go.ChangeAt Go.RowKit

/-- Two lists of at most 7 cards of two columns, in new memory, and a field of these columns. -/
def TwoDrawn (w : World) (e : Ending) (w' : World) : Prop :=
  ∃ gq cq D gp cp D', ∃ i j : Nat, e = .returned (.tuple #[.slice (some ⟨gq, 0, none⟩) D.length cq, .slice (some ⟨gp, 0, none⟩) D'.length cp, .agg #[.int .i64 i, .int .i64 j]]) ∧ D.length ≤ 7 ∧ D'.length ≤ 7 ∧ i < j ∧ j ≤ 2 ∧
    Below w.heap.size w w' ∧ DeckOwn w.heap.size 2 w' (.slice (some ⟨gq, 0, none⟩) D.length cq) D ∧ DeckOwn w.heap.size 2 w' (.slice (some ⟨gp, 0, none⟩) D'.length cp) D'
theorem DeckOwn.far {base m : Nat} {W : World} {v : Value} {D : List CardV} (h : DeckOwn base m W v D) {g i : Nat} (hg : g < base) (u : Value) : DeckOwn base m (W.setCell ⟨g, i, none⟩ u) v D := h.only (only_set W g i u) hg
set_option maxHeartbeats 2000000 in
theorem A2Two_any (A : Option Addr) (n c B : Nat) (w : World) (h : BytesAt w B A n) (hB : B ≤ w.heap.size) (hn : n ≤ 3000) :
    Calls Tryd.prog 8 #[.slice A n c] w (TwoDrawn w) := by
  have b0 := below_box w (.cells #[.int .i64 0, .int .i64 0] 26)
  have c0 : (w.alloc (.cells #[.int .i64 0, .int .i64 0] 26)).cell? ⟨w.heap.size, 0, none⟩ = some (.int .i64 0) := by simp [go_sem]
  have c1 : (w.alloc (.cells #[.int .i64 0, .int .i64 0] 26)).cell? ⟨w.heap.size, 1, none⟩ = some (.int .i64 0) := by simp [go_sem]
  have f0 : (w.alloc (.cells #[.int .i64 0, .int .i64 0] 26)).frozen? ⟨w.heap.size, 0, none⟩ = false := by simp [go_sem]
  have f1 : (w.alloc (.cells #[.int .i64 0, .int .i64 0] 26)).frozen? ⟨w.heap.size, 1, none⟩ = false := by simp [go_sem]
  have hsz : (w.alloc (.cells #[.int .i64 0, .int .i64 0] 26)).heap.size = w.heap.size + 1 := by simp
  have HC := Lib.hid (l00From_any A n c B _ (h.below (b0.mono hB)) (Nat.le_trans hB b0.size) (by omega))
  have BW := Lib.hid b0
  clear h b0
  go_enter Tryd.func8, Tryd.ntmps8
  go_wp2_with fail
  refine HC.out.mono ?_
  rintro e w1 ⟨rfl, hb, hs⟩
  have d0 := cell_kept c0 hb
  have d1 := cell_kept c1 hb
  have e0 : w1.frozen? ⟨w.heap.size, 0, none⟩ = false := (hb.frozen (by rw [hsz]; show w.heap.size < _; omega)).trans f0
  have e1 : w1.frozen? ⟨w.heap.size, 1, none⟩ = false := (hb.frozen (by rw [hsz]; show w.heap.size < _; omega)).trans f1
  have B1 := Lib.hid (below_step BW.out hb)
  rw [hsz] at hs ⊢
  have hgl := hs.lt
  have HD := Lib.hid (l07Draw_any 2 7 B (w.heap.size + 1) 0 w1 hs (by omega) (by omega) (by omega) (by omega))
  rw [show ((2 : Nat) : Int) = 2 from rfl, show ((7 : Nat) : Int) = 7 from rfl] at HD
  clear hb hs HC c0 c1 f0 f1
  go_wp2_with fail
  refine HD.out.mono ?_
  rintro e w2 ⟨gq, cq, D, rfl, hl, hg, hd, hs⟩
  have s2 := hg.size
  have c0 := cell_only hg d0 (by show w.heap.size ≠ w.heap.size + 1; omega)
  have c1 := cell_only hg d1 (by show w.heap.size ≠ w.heap.size + 1; omega)
  have f0 := frozen_only hg d0 e0 (by show w.heap.size ≠ w.heap.size + 1; omega)
  have f1 := frozen_only hg d1 e1 (by show w.heap.size ≠ w.heap.size + 1; omega)
  have B2 := Lib.hid (below_only B1.out hg (by omega))
  have HD1 := Lib.hid hd
  have HE := Lib.hid (l07Draw_any 2 7 B (w.heap.size + 1) _ w2 hs (by omega) (by omega) (by omega) (by omega))
  rw [show ((2 : Nat) : Int) = 2 from rfl, show ((7 : Nat) : Int) = 7 from rfl] at HE
  clear hg hs hd HD B1 d0 d1 e0 e1
  go_wp2_with fail
  refine HE.out.mono ?_
  rintro e w3 ⟨gp, cp, D', rfl, hl', hg, hd, hs⟩
  have d0 := cell_only hg c0 (by show w.heap.size ≠ w.heap.size + 1; omega)
  have d1 := cell_only hg c1 (by show w.heap.size ≠ w.heap.size + 1; omega)
  have e0 := frozen_only hg c0 f0 (by show w.heap.size ≠ w.heap.size + 1; omega)
  have e1 := frozen_only hg c1 f1 (by show w.heap.size ≠ w.heap.size + 1; omega)
  have B3 := Lib.hid (below_only B2.out hg (by omega))
  have HD2 := Lib.hid (HD1.out.only hg hgl)
  have HE2 := Lib.hid hd
  have HP := Lib.hid (pick_any w3 B (w.heap.size + 1) _ 2 hs (by omega) (by omega) (by omega))
  clear hg hs hd HE B2 HD1 c0 c1 f0 f1
  go_wp2_with fail
  refine HP.out.mono ?_
  rintro e w4 ⟨r, rfl, hr0, hr1, hg, hs⟩
  obtain ⟨a, rfl⟩ : ∃ a : Nat, r = a := ⟨r.toNat, by omega⟩
  have c0 := cell_only hg d0 (by show w.heap.size ≠ w.heap.size + 1; omega)
  have c1 := cell_only hg d1 (by show w.heap.size ≠ w.heap.size + 1; omega)
  have f0 := frozen_only hg d0 e0 (by show w.heap.size ≠ w.heap.size + 1; omega)
  have f1 := frozen_only hg d1 e1 (by show w.heap.size ≠ w.heap.size + 1; omega)
  have B4 := Lib.hid (below_only B3.out hg (by omega))
  have HD3 := Lib.hid (HD2.out.only hg hgl)
  have HE3 := Lib.hid (HE2.out.only hg (by omega))
  have HQ := Lib.hid (pick_any w4 B (w.heap.size + 1) _ (2 - (a : Int)) hs (by omega) (by omega) (by omega))
  clear hg hs HP B3 HD2 HE2 d0 d1 e0 e1
  go_wp2_with fail
  refine HQ.out.mono ?_
  rintro e w5 ⟨r, rfl, hr2, hr3, hg, hs⟩
  obtain ⟨y, rfl⟩ : ∃ y : Nat, r = y := ⟨r.toNat, by omega⟩
  have d0 := cell_only hg c0 (by show w.heap.size ≠ w.heap.size + 1; omega)
  have d1 := cell_only hg c1 (by show w.heap.size ≠ w.heap.size + 1; omega)
  have e0 := frozen_only hg c0 f0 (by show w.heap.size ≠ w.heap.size + 1; omega)
  have e1 := frozen_only hg c1 f1 (by show w.heap.size ≠ w.heap.size + 1; omega)
  have B5 := Lib.hid (below_only B4.out hg (by omega))
  have HD4 := Lib.hid ((HD3.out.only hg hgl).less (Nat.le_of_lt (show w.heap.size < w1.heap.size by omega)))
  have HE4 := Lib.hid ((HE3.out.only hg (by omega)).less (Nat.le_of_lt (show w.heap.size < w2.heap.size by omega)))
  have HD5 := Lib.hid (HD3.out.only hg hgl)
  have HE5 := Lib.hid (HE3.out.only hg (by omega))
  clear hg hs HQ B4 HD3 HE3 c0 c1 f0 f1
  go_wp2
  refine bodyPost_ret (v := .tuple #[.slice (some ⟨gq, 0, none⟩) D.length cq, .slice (some ⟨gp, 0, none⟩) D'.length cp, .agg #[.int .i64 a, .int .i64 ((a : Int) + 1 + y)]]) (by simp [results, Tryd.results8, go_sem, d0, d1]) rfl ⟨gq, cq, D, gp, cp, D', a, a + 1 + y, by simp, hl, hl', by omega, by omega, ?_, ?_, ?_⟩
  · exact (B5.out.setCell (Nat.le_refl _) _).setCell (Nat.le_refl _) _
  · exact ((HD5.out.far (by omega) _).far (by omega) _).less (by omega)
  · exact ((HE5.out.far (by omega) _).far (by omega) _).less (by omega)
end Go.Proofs.YtdakbbgbglgioaaDoor
