/- Words and lemmas for a list of numbers that a function makes by append. -/
import Derived.Test.YtdakbbgbglgioaaDoorM6
import Derived.Test.YtdakbbgbglgioaaDoorM4
import Derived.Test.YtdakbbgbglgioaaDoorChars
import Derived.Test.YtdakbbgbglgioaaDoorPunchText
import Derived.Test.YtdakbbgbglgioaaDoorRead
import Derived.Test.YtdakbbgbglgioaaDoorM3
import Derived.Lib.Bytealg
import Derived.Lib.LaidTab
import Derived.Outline
namespace Go.Proofs.YtdakbbgbglgioaaDoor
open Go.ChangeShapes Go.WideShapes Go.ChangeAt Go.RowKit

/-- A list of numbers of the call's own, and OK. -/
def GivesList (ys : List Int) (w : World) (e : Ending) (w' : World) : Prop :=
  ∃ A cap, e = .returned (.tuple #[.slice A ys.length cap, .int .i64 0]) ∧ Below w.heap.size w w' ∧ (0 < ys.length → ∃ g ex, A = some ⟨g, 0, none⟩ ∧ w.heap.size ≤ g ∧ Row w' g ys ex)
/-- No list, and a code. -/
def GivesNoList (a : Int) (w : World) (e : Ending) (w' : World) : Prop :=
  e = .returned (.tuple #[.slice none 0 0, .int .i64 a]) ∧ Below w.heap.size w w'

theorem owned_list {w : World} {base n : Nat} {v : Value} {xs : List Int} (h : w.ownsRow base 2 1 v n (xs.map (Value.int .i64))) (hl : xs.length = n) :
    ∃ A cap, v = .slice A xs.length cap ∧ (0 < xs.length → ∃ g ex, A = some ⟨g, 0, none⟩ ∧ base ≤ g ∧ Row w g xs ex) := by
  by_cases h0 : 0 < n
  · obtain ⟨g, cap, ex, hv, hg, hr⟩ := owned_row h h0 hl
    exact ⟨_, cap, hv, fun _ => ⟨g, ex, rfl, hg, hr⟩⟩
  · have hn : n = 0 := by omega
    subst hn
    rcases h.2 with ⟨hv, _⟩ | ⟨g, cap, cur, hv, _⟩
    · exact ⟨none, 0, by rw [hl]; exact hv, fun hh => absurd hh (by omega)⟩
    · exact ⟨_, cap, by rw [hl]; exact hv, fun hh => absurd hh (by omega)⟩

/-- What an append of one number leaves. -/
theorem own_more {w w' : World} {base : Nat} {v v' : Value} {xs : List Int} {x : Int} {W : World} {B : Nat}
    (hown : w'.ownsRow base 2 1 v' (xs.length + 1) (xs.map (Value.int .i64) ++ [.int .i64 x])) (hgrow : (w.alloc (.cells #[.int .i64 x] 2)).grownBy w' v.ownBlock)
    (hold : w.ownsRow base 2 1 v xs.length (xs.map (Value.int .i64))) (hb : Below B W w) (hB : B ≤ base) (hs : B ≤ w.heap.size) :
    w'.ownsRow base 2 1 v' (xs ++ [x]).length ((xs ++ [x]).map (Value.int .i64)) ∧ Below B W w' := by
  refine ⟨by simpa using hown, ?_⟩
  exact (hb.alloc hs _).grown hgrow (by simp; omega) (fun k hk => Nat.le_trans hB (hold.lt k hk).1)

/-- the columns among the first k of which q holds -/
def selTo (q : Nat → Bool) (k : Nat) : List Int := ((List.range k).filter q).map fun i : Nat => (i : Int)
theorem selTo_zero (q : Nat → Bool) : selTo q 0 = [] := rfl
theorem selTo_no (q : Nat → Bool) (k : Nat) (h : q k = false) : selTo q (k + 1) = selTo q k := by
  simp [selTo, List.range_succ, h]
theorem selTo_yes (q : Nat → Bool) (k : Nat) (h : q k = true) : selTo q (k + 1) = selTo q k ++ [(k : Int)] := by
  simp [selTo, List.range_succ, h]
theorem selTo_length (q : Nat → Bool) (k : Nat) : (selTo q k).length ≤ k := by
  have := List.length_filter_le q (List.range k)
  simpa [selTo] using this
end Go.Proofs.YtdakbbgbglgioaaDoor

/- spec.IllegalColumns and impl.IllegalColumns give the columns without a character, or the code, for every card of at most 1048576 columns: contracts. -/
namespace Go.Proofs.YtdakbbgbglgioaaDoor
open Go.ChangeShapes Go.WideShapes Go.ChangeAt Go.RowKit

/-- the columns without a character among the first k -/
def illTo (xs : List Int) (k : Nat) : List Int := ((List.range k).filter fun i => !charOk (xs[i]?.getD 0)).map fun i : Nat => (i : Int)
theorem illTo_zero (xs : List Int) : illTo xs 0 = [] := rfl
theorem illTo_ok (xs : List Int) (k : Nat) (h : charOk (xs[k]?.getD 0) = true) : illTo xs (k + 1) = illTo xs k := by
  simp [illTo, List.range_succ, h]
theorem illTo_bad (xs : List Int) (k : Nat) (h : charOk (xs[k]?.getD 0) = false) : illTo xs (k + 1) = illTo xs k ++ [(k : Int)] := by
  simp [illTo, List.range_succ, h]
theorem illTo_length (xs : List Int) (k : Nat) : (illTo xs k).length ≤ k := by
  have := List.length_filter_le (fun i => !charOk (xs[i]?.getD 0)) (List.range k)
  simpa [illTo] using this

end Go.Proofs.YtdakbbgbglgioaaDoor
/- Plain facts of columns and their characters: a text that was read of columns, punched again, gives the columns; the columns without a character rise. No function of the program is spoken of. -/
namespace Go.Proofs.YtdakbbgbglgioaaDoor
open Go.ChangeShapes Go.WideShapes Go.ChangeAt Go.RowKit

theorem code_char (m : Int) (h : charOk m = true) : codeS (charV m) = m := by
  unfold charOk at h
  unfold charV
  cases hr : rankM m with
  | none => rw [hr] at h; cases h
  | some j => exact (rankM_some hr).2.1
theorem textS_size (xs : List Int) : (textS xs).size = xs.length := by
  show (textL xs).toArray.size = xs.length
  simp [textL]
theorem textCodes_textS (xs : List Int) (h : textOk xs = true) : textCodes (textS xs) = xs := by
  have e : (textS xs).data.toList = xs.map byteV := by simp [textS, textL]
  rw [textCodes, e, List.map_map]
  rw [textOk, List.all_eq_true] at h
  conv => rhs; rw [← List.map_id xs]
  apply List.map_congr_left
  intro m hm
  show codeS ((byteV m).toNat : Int) = m
  rw [byteV_int, code_char m (h m hm)]
theorem punch_text (xs : List Int) (h : textOk xs = true) : punchTo (textS xs) xs.length (textS xs).size = xs := by
  rw [punchTo, textCodes_textS xs h, textS_size, List.take_length, Nat.sub_self]
  simp
theorem legal_text (xs : List Int) (h : textOk xs = true) (h0 : ∀ x ∈ xs, 0 ≤ x) : legalT (textS xs) = true := by
  rw [legalT, textCodes_textS xs h, List.all_eq_true]
  intro x hx
  simpa using h0 x hx

theorem ill_none (xs : List Int) (h : textOk xs = true) : illTo xs xs.length = [] := by
  rw [textOk, List.all_eq_true] at h
  have : ((List.range xs.length).filter fun i => !charOk (xs[i]?.getD 0)) = [] := by
    rw [List.filter_eq_nil_iff]
    intro i hi
    have hi' : i < xs.length := List.mem_range.1 hi
    rw [List.getElem?_eq_getElem hi']
    simpa using h _ (List.getElem_mem hi')
  rw [illTo, this]
  rfl
theorem ill_some (xs : List Int) (h : textOk xs = false) : 0 < (illTo xs xs.length).length := by
  rw [textOk, List.all_eq_false] at h
  obtain ⟨x, hx, hc⟩ := h
  obtain ⟨i, hi, rfl⟩ := List.getElem_of_mem hx
  have : i ∈ ((List.range xs.length).filter fun i => !charOk (xs[i]?.getD 0)) := by
    rw [List.mem_filter]
    refine ⟨List.mem_range.2 hi, ?_⟩
    rw [List.getElem?_eq_getElem hi]
    simpa using hc
  rw [illTo, List.length_map]
  exact List.length_pos_of_mem this
/-- what stands at place k of the columns without a character -/
theorem ill_get (xs : List Int) (k : Nat) (hk : k < (illTo xs xs.length).length) : ∃ i : Nat, (illTo xs xs.length)[k]?.getD 0 = (i : Int) ∧ i < xs.length ∧ charOk (xs[i]?.getD 0) = false := by
  rw [illTo, List.length_map] at hk
  obtain ⟨i, hi⟩ : ∃ i, ((List.range xs.length).filter fun i => !charOk (xs[i]?.getD 0))[k]'hk = i := ⟨_, rfl⟩
  have hm : i ∈ ((List.range xs.length).filter fun i => !charOk (xs[i]?.getD 0)) := by
    rw [← hi]
    exact List.getElem_mem hk
  rw [List.mem_filter] at hm
  refine ⟨i, ?_, List.mem_range.1 hm.1, by simpa using hm.2⟩
  rw [illTo, List.getElem?_map, List.getElem?_eq_getElem hk, hi]
  rfl
theorem ill_rises (xs : List Int) (k : Nat) (hk : k + 1 < (illTo xs xs.length).length) : (illTo xs xs.length)[k]?.getD 0 < (illTo xs xs.length)[k + 1]?.getD 0 := by
  have hp : (illTo xs xs.length).Pairwise (· < ·) := by
    rw [illTo, List.pairwise_map]
    exact ((List.pairwise_lt_range (n := xs.length)).filter _).imp (fun h => by omega)
  rw [List.getElem?_eq_getElem hk, List.getElem?_eq_getElem (by omega)]
  exact List.pairwise_iff_getElem.1 hp k (k + 1) (by omega) hk (by omega)
end Go.Proofs.YtdakbbgbglgioaaDoor

/- The rank of a character: spec.l03Rank, spec.RankOf and impl.RankOf, for every byte: contracts; impl's in worlds whose table of places holds what the program's text lays in it. -/
namespace Go.Proofs.YtdakbbgbglgioaaDoor
open Go.ChangeShapes Go.WideShapes Go.ChangeAt Go.RowKit

/-- the rank of a byte, -1 if there is none -/
def rankS (c : Int) : Int := Lib.indexByte orderL c.toNat.toUInt8
def placesL : List Int := [0, 0, 0, 0, 0, 0, 0, 0, 0, 0, 0, 0, 0, 0, 0, 0, 0, 0, 0, 0, 0, 0, 0, 0, 0, 0, 0, 0, 0, 0, 0, 0, 1, 0, 0, 0, 0, 0, 2, 0, 0, 0, 0, 0, 0, 12, 0, 22, 31, 32, 33, 34, 35, 36, 37, 38, 39, 40, 0, 0, 0, 0, 0, 0, 0, 3, 4, 5, 6, 7, 8, 9, 10, 11, 13, 14, 15, 16, 17, 18, 19, 20, 21, 23, 24, 25, 26, 27, 28, 29, 30]

def rankB (n : Nat) : Bool := let c : Int := n
  (decide (rankS c = -1) && (List.range 40).all (fun k => charR k != c) && (decide (91 ≤ n) || decide (placesL.getD n 0 = 0))) ||
    (decide (0 ≤ rankS c) && decide (rankS c < 40) && decide (charR (rankS c).toNat = c) && (List.range (rankS c).toNat).all (fun k => charR k != c) && decide (n < 91) && decide (placesL.getD n 0 = rankS c + 1))
theorem rank_all : ∀ n : Fin 256, rankB n.val = true := by decide +kernel
theorem rank_cases (n : Nat) (h : n ≤ 255) : (rankS n = -1 ∧ (∀ k, k < 40 → charR k ≠ n) ∧ (91 ≤ n ∨ placesL.getD n 0 = 0)) ∨
    (∃ j : Nat, j < 40 ∧ rankS n = j ∧ charR j = n ∧ (∀ k, k < j → charR k ≠ n) ∧ n < 91 ∧ placesL.getD n 0 = (j : Int) + 1) := by
  have hb := rank_all ⟨n, by omega⟩
  simp only [rankB, Bool.or_eq_true, Bool.and_eq_true, decide_eq_true_eq, List.all_eq_true, List.mem_range, bne_iff_ne] at hb
  rcases hb with ⟨⟨h1, h2⟩, h3⟩ | ⟨⟨⟨⟨⟨h1, h2⟩, h3⟩, h4⟩, h5⟩, h6⟩
  · exact Or.inl ⟨h1, h2, h3⟩
  · have e : ((rankS n).toNat : Int) = rankS n := by omega
    exact Or.inr ⟨(rankS n).toNat, by omega, e.symm, h3, h4, h5, by rw [h6, e]⟩

theorem neq_r {a b : Int} (h : a ≠ b) : (a == b) = false := by simpa using h

theorem l03Rank_yes (c : Int) (j : Nat) (hj : j < 40) (h : charR j = c) (hf : ∀ k, k < j → charR k ≠ c) (w : World) :
    Calls Tryd.prog 76 #[.int .u8 c] w fun e w' => e = .returned (.int .i64 j) ∧ w = w' := by
  have HJ := Lib.hid h
  have H := Lib.hid hf
  have HO := Lib.hid l03Order_any
  have HZ := Lib.hid orderS_size
  clear h hf
  go_enter Tryd.func76, Tryd.ntmps76
  go_wp2_with (go_at_call 85; refine (HO.out _).mono ?_; rintro e w' ⟨rfl, rfl⟩)
  go_loop [4] (fun i => ∃ k : Nat, k ≤ j ∧ i = .int .i64 k) (fun i => 40 - (intOf i).toNat)
  case atStart => exact ⟨0, Nat.zero_le _, rfl⟩
  case round =>
    obtain ⟨k, hk, rfl⟩ := hrel
    have hlt : k < orderS.size := by rw [HZ.out]; omega
    have hsz : (k : Int) < (orderS.size : Int) := by omega
    by_cases hkj : k = j
    · have hg : (orderS[k].toNat : Int) = c := by rw [order_get k hlt, hkj]; exact HJ.out
      subst hkj
      clear H hk
      go_wp2
      go_ret
      exact ⟨rfl, rfl⟩
    · have hg := order_get k hlt
      have e := H.out k (by omega)
      obtain ⟨x, hx⟩ : ∃ x, charR k = x := ⟨_, rfl⟩
      rw [hx] at hg e
      have hne : (x == c) = false := neq_r e
      have hkj' : k + 1 ≤ j := by omega
      clear hx hkj e
      go_wp2
      go_round
      case rel => exact ⟨k + 1, by omega, by go_num⟩
      case measure => simp [intOf]; omega

theorem l03Rank_no (c : Int) (h : ∀ k, k < 40 → charR k ≠ c) (w : World) :
    Calls Tryd.prog 76 #[.int .u8 c] w fun e w' => e = .returned (.int .i64 (-1)) ∧ w = w' := by
  have H := Lib.hid h
  have HO := Lib.hid l03Order_any
  have HZ := Lib.hid orderS_size
  clear h
  go_enter Tryd.func76, Tryd.ntmps76
  go_wp2_with (go_at_call 85; refine (HO.out _).mono ?_; rintro e w' ⟨rfl, rfl⟩)
  go_loop [4] (fun i => ∃ k : Nat, k ≤ 40 ∧ i = .int .i64 k) (fun i => 40 - (intOf i).toNat)
  case atStart => exact ⟨0, Nat.zero_le _, rfl⟩
  case round =>
    obtain ⟨k, hk, rfl⟩ := hrel
    by_cases hk40 : k < 40
    · have hlt : k < orderS.size := by rw [HZ.out]; omega
      have hsz : (k : Int) < (orderS.size : Int) := by omega
      have hg := order_get k hlt
      have e := H.out k (by omega)
      obtain ⟨x, hx⟩ : ∃ x, charR k = x := ⟨_, rfl⟩
      rw [hx] at hg e
      have hne : (x == c) = false := neq_r e
      clear hx e
      go_wp2
      go_round
      case rel => exact ⟨k + 1, by omega, by go_num⟩
      case measure => simp [intOf]; omega
    · have hsz : ¬ (k : Int) < (orderS.size : Int) := by have := HZ.out; omega
      clear hk40
      go_wp2
      go_ret
      exact ⟨rfl, rfl⟩

theorem l03Rank_any (n : Nat) (h : n ≤ 255) (w : World) :
    Calls Tryd.prog 76 #[.int .u8 n] w fun e w' => e = .returned (.int .i64 (rankS n)) ∧ w = w' := by
  rcases rank_cases n h with ⟨h1, h2, _⟩ | ⟨j, hj, h1, h2, h3, _⟩
  · rw [h1]
    exact l03Rank_no n h2 w
  · rw [h1]
    exact l03Rank_yes n j hj h2 h3 w

/-- the table of places in memory -/
def Places (w : World) : Prop := ∀ i, i < 91 → w.cell? ⟨0, i, none⟩ = some (.int .i8 (placesL.getD i 0))
theorem Places.below {w w' : World} (h : Places w) (hb : Below w.heap.size w w') : Places w' := fun i hi => by
  have hlt := World.block_lt_of_cell? _ _ (h 0 (by decide))
  rw [hb.cell (p := ⟨0, i, none⟩) hlt]
  exact h i hi

theorem implRank_no (n : Nat) (h : n ≤ 255) (h' : 91 ≤ n ∨ placesL.getD n 0 = 0) (w : World) (hp : Places w) :
    Calls Tryd.prog 79 #[.int .u8 n] w fun e w' => e = .returned (.tuple #[.int .i64 0, .bool false]) ∧ w = w' := by
  by_cases hn : 91 ≤ n
  · have h0 : (91 : Int) ≤ (n : Int) := by omega
    have h1 : (n : Int) ≤ 255 := by omega
    clear hp h' hn h
    go_enter Tryd.func79, Tryd.ntmps79
    go_wp2
    go_ret2
    exact ⟨rfl, rfl⟩
  · have hc := hp n (by omega)
    rw [h'.resolve_left hn] at hc
    have h0 : ¬ (91 : Int) ≤ (n : Int) := by omega
    have h1 : (n : Int) < 91 := by omega
    have h2 : (0 : Int) ≤ (n : Int) := by omega
    clear hp h' hn h
    go_enter Tryd.func79, Tryd.ntmps79
    go_wp2
    go_ret2
    exact ⟨rfl, rfl⟩

theorem implRank_yes (n j : Nat) (h : n < 91) (hj : j < 40) (h' : placesL.getD n 0 = (j : Int) + 1) (w : World) (hp : Places w) :
    Calls Tryd.prog 79 #[.int .u8 n] w fun e w' => e = .returned (.tuple #[.int .i64 j, .bool true]) ∧ w = w' := by
  have hc := hp n h
  rw [h'] at hc
  have h0 : ¬ (91 : Int) ≤ (n : Int) := by omega
  have h1 : (n : Int) < 91 := by omega
  have h2 : (0 : Int) ≤ (n : Int) := by omega
  have h3 : ((j : Int) + 1 == 0) = false := neq_r (by omega)
  have h4 : (j : Int) + 1 - 1 = (j : Int) := by omega
  clear hp h' h
  go_enter Tryd.func79, Tryd.ntmps79
  go_wp2
  go_ret2
  exact ⟨by rw [← h4]; rfl, rfl⟩
end Go.Proofs.YtdakbbgbglgioaaDoor

/- Plain facts of characters: holes, characters and ranks belong together; a text of characters with one blank more, punched, reads as it was; and impl.RankOf for every byte. -/
namespace Go.Proofs.YtdakbbgbglgioaaDoor
open Go.ChangeShapes Go.WideShapes Go.ChangeAt Go.RowKit

def rkV (n : Nat) : Int := if rankS n < 0 then 0 else rankS n
def rkB (n : Nat) : Bool := !decide (rankS n < 0)
theorem implRank_any (n : Nat) (h : n ≤ 255) (w : World) (hp : Places w) :
    Calls Tryd.prog 79 #[.int .u8 n] w fun e w' => e = .returned (.tuple #[.int .i64 (rkV n), .bool (rkB n)]) ∧ w = w' := by
  rcases rank_cases n h with ⟨h1, _, h3⟩ | ⟨j, hj, h1, _, _, h4, h5⟩
  · have e1 : rkV n = 0 := by rw [rkV, h1]; rfl
    have e2 : rkB n = false := by rw [rkB, h1]; rfl
    rw [e1, e2]
    exact implRank_no n h h3 w hp
  · have e1 : rkV n = j := by rw [rkV, h1, if_neg (by omega)]
    have e2 : rkB n = true := by rw [rkB, h1]; simp
    rw [e1, e2]
    exact implRank_yes n j h4 hj h5 w hp
theorem rank_yes (n : Nat) (h : n ≤ 255) (hb : rkB n = true) : ∃ j : Nat, j < 40 ∧ rkV n = j ∧ charR j = n := by
  rcases rank_cases n h with ⟨h1, _, _⟩ | ⟨j, hj, h1, h2, _, _, _⟩
  · rw [rkB, h1] at hb
    cases hb
  · exact ⟨j, hj, by rw [rkV, h1, if_neg (by omega)], h2⟩
theorem rank_one (n k : Nat) (hn : n ≤ 255) (hk : k ≤ 255) (bn : rkB n = true) (bk : rkB k = true) (h : rkV k = rkV n) : k = n := by
  obtain ⟨i, _, e1, e2⟩ := rank_yes n hn bn
  obtain ⟨j, _, e3, e4⟩ := rank_yes k hk bk
  have : i = j := by omega
  subst this
  omega

def codeB (n : Nat) : Bool := let c : Int := n
  (decide (codeS c < 0) == decide (rankS c < 0)) && (decide (codeS c < 0) || (charOk (codeS c) && decide (charV (codeS c) = c) && decide (codeS c ≤ 4095)))
theorem code_all : ∀ n : Fin 256, codeB n.val = true := by decide +kernel
theorem code_rank (n : Nat) (h : n ≤ 255) : decide (codeS n < 0) = decide (rankS n < 0) := by
  have := code_all ⟨n, by omega⟩
  simp only [codeB, Bool.and_eq_true] at this
  exact eq_of_beq this.1
theorem code_back (n : Nat) (h : n ≤ 255) (h0 : ¬ codeS n < 0) : charOk (codeS n) = true ∧ charV (codeS n) = n ∧ codeS n ≤ 4095 := by
  have := code_all ⟨n, by omega⟩
  simp only [codeB, Bool.and_eq_true, Bool.or_eq_true, decide_eq_true_eq] at this
  rcases this.2 with h' | ⟨⟨h1, h2⟩, h3⟩
  · exact absurd h' h0
  · exact ⟨h1, h2, h3⟩

/-- the text of some bytes -/
def textN (l : List Nat) : ByteArray := ⟨(l.map UInt8.ofNat).toArray⟩
theorem textN_size (l : List Nat) : (textN l).size = l.length := by
  show (l.map UInt8.ofNat).toArray.size = _
  simp
theorem order_code : ∀ k : Fin 40, ¬ codeS ((((orderL[k.val]?.getD 0).toNat : Nat)) : Int) < 0 := by decide +kernel
theorem legalL_code {l : List Nat} (h : legalL l) {x : Nat} (hx : x ∈ l) : x ≤ 255 ∧ ¬ codeS (x : Int) < 0 := by
  obtain ⟨k, hk, rfl⟩ := h x hx
  have := (orderL[k]?.getD 0).toNat_lt
  exact ⟨by omega, order_code ⟨k, hk⟩⟩
theorem textCodes_textN {l : List Nat} (h : legalL l) : textCodes (textN l) = l.map fun (x : Nat) => codeS (x : Int) := by
  have e : (textN l).data.toList = l.map UInt8.ofNat := by simp [textN]
  rw [textCodes, e, List.map_map]
  apply List.map_congr_left
  intro x hx
  have := (legalL_code h hx).1
  show codeS ((UInt8.ofNat x).toNat : Int) = _
  rw [UInt8.toNat_ofNat']
  congr 2
  omega
theorem legal_textN {l : List Nat} (h : legalL l) : legalT (textN l) = true := by
  rw [legalT, textCodes_textN h, List.all_eq_true]
  intro y hy
  obtain ⟨x, hx, rfl⟩ := List.mem_map.1 hy
  have := (legalL_code h hx).2
  simpa using this
/-- the columns of a text with one blank more -/
def colsN (l : List Nat) : List Int := (l.map fun (x : Nat) => codeS (x : Int)) ++ [0]
theorem punch_textN {l : List Nat} (h : legalL l) : punchTo (textN l) (l.length + 1) (textN l).size = colsN l := by
  rw [punchTo, textCodes_textN h, textN_size, List.take_of_length_le (by simp), Nat.add_sub_cancel_left]
  rfl
theorem colsN_length (l : List Nat) : (colsN l).length = l.length + 1 := by simp [colsN]
theorem char_blank : charOk 0 = true ∧ byteV 0 = 32 := by decide +kernel
theorem colsN_ok {l : List Nat} (h : legalL l) : textOk (colsN l) = true := by
  rw [textOk, List.all_eq_true]
  intro y hy
  rcases List.mem_append.1 hy with hy | hy
  · obtain ⟨x, hx, rfl⟩ := List.mem_map.1 hy
    have := legalL_code h hx
    exact (code_back x this.1 this.2).1
  · rw [List.mem_singleton.1 hy]
    exact char_blank.1
theorem colsN_legal {l : List Nat} (h : legalL l) (h8 : l.length ≤ 8) : okB (colsN l) = true := by
  simp only [okB, legalB, inB, maskB, Bool.and_eq_true, decide_eq_true_eq, List.all_eq_true, colsN_length]
  refine ⟨fun y hy => ?_, by omega, by omega⟩
  rcases List.mem_append.1 hy with hy | hy
  · obtain ⟨x, hx, rfl⟩ := List.mem_map.1 hy
    have := legalL_code h hx
    have h3 := code_back x this.1 this.2
    exact ⟨by omega, by omega⟩
  · rw [List.mem_singleton.1 hy]
    exact ⟨by omega, by omega⟩
theorem colsN_text {l : List Nat} (h : legalL l) : textS (colsN l) = textN l ++ ⟨#[32]⟩ := by
  apply ByteArray.ext
  apply Array.ext'
  have e : (textS (colsN l)).data.toList = (colsN l).map byteV := by simp [textS, textL]
  have e2 : (textN l ++ ⟨#[32]⟩).data.toList = l.map UInt8.ofNat ++ [32] := by simp [textN]
  rw [e, e2, colsN, List.map_append, List.map_map]
  congr 1
  · apply List.map_congr_left
    intro x hx
    have hc := legalL_code h hx
    have h3 := code_back x hc.1 hc.2
    show byteV (codeS (x : Int)) = UInt8.ofNat x
    rw [byteV, h3.2.1]
    rfl
end Go.Proofs.YtdakbbgbglgioaaDoor
