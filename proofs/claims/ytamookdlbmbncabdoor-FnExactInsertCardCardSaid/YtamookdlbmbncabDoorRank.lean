/- The rank of a character: spec.l03Rank, spec.RankOf and impl.RankOf, for every byte: contracts; impl's in worlds whose table of places holds what the program's text lays in it. -/
import Derived.Test.YtamookdlbmbncabDoorOrder
import Derived.Lib.Bytealg
import Derived.Lib.LaidTab
import Derived.Outline
namespace Go.Proofs.YtamookdlbmbncabDoor
open Go.ChangeShapes Go.WideShapes Go.ChangeAt Go.RowKit

/-- the rank of a byte, -1 if there is none -/
def rankS (c : Int) : Int := Lib.indexByte orderL c.toNat.toUInt8
def placesL : List Int := [0, 0, 0, 0, 0, 0, 0, 0, 0, 0, 0, 0, 0, 0, 0, 0, 0, 0, 0, 0, 0, 0, 0, 0, 0, 0, 0, 0, 0, 0, 0, 0, 1, 0, 0, 0, 0, 0, 2, 0, 0, 0, 0, 0, 0, 12, 0, 22, 31, 32, 33, 34, 35, 36, 37, 38, 39, 40, 0, 0, 0, 0, 0, 0, 0, 3, 4, 5, 6, 7, 8, 9, 10, 11, 13, 14, 15, 16, 17, 18, 19, 20, 21, 23, 24, 25, 26, 27, 28, 29, 30]

def rankB (n : Nat) : Bool := let c : Int := n
  (decide (rankS c = -1) && (List.range 40).all (fun k => charR k != c) && (decide (91 ≤ n) || decide (placesL.getD n 0 = 0))) ||
    (decide (0 ≤ rankS c) && decide (rankS c < 40) && decide (charR (rankS c).toNat = c) && (List.range (rankS c).toNat).all (fun k => charR k != c) && decide (n < 91) && decide (placesL.getD n 0 = rankS c + 1))
theorem rank_all : ∀ n : Fin 256, rankB n.val = true := by decide +kernel
theorem rank_cases (n : Nat) (h : n ≤ 255) : (rankS n = -1 ∧ (∀ k, k < 40 → charR k ≠ n) ∧ (91 ≤ n ∨ placesL.getD n 0 = 0)) ∨
    (∃ j : Nat, j < 40 ∧ rankS n = j ∧ charR j = n ∧ (∀ k, k < j → charR k ≠ n) ∧ n < 91 ∧ placesL.getD n 0 = (j : Int) + 1) := by
  have hb := rank_all ⟨n, by omega⟩
  simp only [rankB, Bool.or_eq_true, Bool.and_eq_true, decide_eq_true_eq, List.all_eq_true, List.mem_range, bne_iff_ne] at hb
  rcases hb with ⟨⟨h1, h2⟩, h3⟩ | ⟨⟨⟨⟨⟨h1, h2⟩, h3⟩, h4⟩, h5⟩, h6⟩
  · exact Or.inl ⟨h1, h2, h3⟩
  · have e : ((rankS n).toNat : Int) = rankS n := by omega
    exact Or.inr ⟨(rankS n).toNat, by omega, e.symm, h3, h4, h5, by rw [h6, e]⟩

theorem neq_r {a b : Int} (h : a ≠ b) : (a == b) = false := by simpa using h

theorem l03Rank_yes (c : Int) (j : Nat) (hj : j < 40) (h : charR j = c) (hf : ∀ k, k < j → charR k ≠ c) (w : World) :
    Calls Tryd.prog 39 #[.int .u8 c] w fun e w' => e = .returned (.int .i64 j) ∧ w = w' := by
  have HJ := Lib.hid h
  have H := Lib.hid hf
  have HO := Lib.hid l03Order_any
  have HZ := Lib.hid orderS_size
  clear h hf
  go_enter Tryd.func39, Tryd.ntmps39
  go_wp2_with (go_at_call 48; refine (HO.out _).mono ?_; rintro e w' ⟨rfl, rfl⟩)
  go_loop [4] (fun i => ∃ k : Nat, k ≤ j ∧ i = .int .i64 k) (fun i => 40 - (intOf i).toNat)
  case atStart => exact ⟨0, Nat.zero_le _, rfl⟩
  case round =>
    obtain ⟨k, hk, rfl⟩ := hrel
    have hlt : k < orderS.size := by rw [HZ.out]; omega
    have hsz : (k : Int) < (orderS.size : Int) := by omega
    by_cases hkj : k = j
    · have hg : (orderS[k].toNat : Int) = c := by rw [order_get k hlt, hkj]; exact HJ.out
      subst hkj
      clear H hk
      go_wp2
      go_ret
      exact ⟨rfl, rfl⟩
    · have hg := order_get k hlt
      have e := H.out k (by omega)
      obtain ⟨x, hx⟩ : ∃ x, charR k = x := ⟨_, rfl⟩
      rw [hx] at hg e
      have hne : (x == c) = false := neq_r e
      have hkj' : k + 1 ≤ j := by omega
      clear hx hkj e
      go_wp2
      go_round
      case rel => exact ⟨k + 1, by omega, by go_num⟩
      case measure => simp [intOf]; omega

theorem l03Rank_no (c : Int) (h : ∀ k, k < 40 → charR k ≠ c) (w : World) :
    Calls Tryd.prog 39 #[.int .u8 c] w fun e w' => e = .returned (.int .i64 (-1)) ∧ w = w' := by
  have H := Lib.hid h
  have HO := Lib.hid l03Order_any
  have HZ := Lib.hid orderS_size
  clear h
  go_enter Tryd.func39, Tryd.ntmps39
  go_wp2_with (go_at_call 48; refine (HO.out _).mono ?_; rintro e w' ⟨rfl, rfl⟩)
  go_loop [4] (fun i => ∃ k : Nat, k ≤ 40 ∧ i = .int .i64 k) (fun i => 40 - (intOf i).toNat)
  case atStart => exact ⟨0, Nat.zero_le _, rfl⟩
  case round =>
    obtain ⟨k, hk, rfl⟩ := hrel
    by_cases hk40 : k < 40
    · have hlt : k < orderS.size := by rw [HZ.out]; omega
      have hsz : (k : Int) < (orderS.size : Int) := by omega
      have hg := order_get k hlt
      have e := H.out k (by omega)
      obtain ⟨x, hx⟩ : ∃ x, charR k = x := ⟨_, rfl⟩
      rw [hx] at hg e
      have hne : (x == c) = false := neq_r e
      clear hx e
      go_wp2
      go_round
      case rel => exact ⟨k + 1, by omega, by go_num⟩
      case measure => simp [intOf]; omega
    · have hsz : ¬ (k : Int) < (orderS.size : Int) := by have := HZ.out; omega
      clear hk40
      go_wp2
      go_ret
      exact ⟨rfl, rfl⟩

theorem l03Rank_any (n : Nat) (h : n ≤ 255) (w : World) :
    Calls Tryd.prog 39 #[.int .u8 n] w fun e w' => e = .returned (.int .i64 (rankS n)) ∧ w = w' := by
  rcases rank_cases n h with ⟨h1, h2, _⟩ | ⟨j, hj, h1, h2, h3, _⟩
  · rw [h1]
    exact l03Rank_no n h2 w
  · rw [h1]
    exact l03Rank_yes n j hj h2 h3 w

/-- the table of places in memory -/
def Places (w : World) : Prop := ∀ i, i < 91 → w.cell? ⟨0, i, none⟩ = some (.int .i8 (placesL.getD i 0))
theorem Places.below {w w' : World} (h : Places w) (hb : Below w.heap.size w w') : Places w' := fun i hi => by
  have hlt := World.block_lt_of_cell? _ _ (h 0 (by decide))
  rw [hb.cell (p := ⟨0, i, none⟩) hlt]
  exact h i hi

theorem implRank_no (n : Nat) (h : n ≤ 255) (h' : 91 ≤ n ∨ placesL.getD n 0 = 0) (w : World) (hp : Places w) :
    Calls Tryd.prog 68 #[.int .u8 n] w fun e w' => e = .returned (.tuple #[.int .i64 0, .bool false]) ∧ w = w' := by
  by_cases hn : 91 ≤ n
  · have h0 : (91 : Int) ≤ (n : Int) := by omega
    have h1 : (n : Int) ≤ 255 := by omega
    clear hp h' hn h
    go_enter Tryd.func68, Tryd.ntmps68
    go_wp2
    go_ret2
    exact ⟨rfl, rfl⟩
  · have hc := hp n (by omega)
    rw [h'.resolve_left hn] at hc
    have h0 : ¬ (91 : Int) ≤ (n : Int) := by omega
    have h1 : (n : Int) < 91 := by omega
    have h2 : (0 : Int) ≤ (n : Int) := by omega
    clear hp h' hn h
    go_enter Tryd.func68, Tryd.ntmps68
    go_wp2
    go_ret2
    exact ⟨rfl, rfl⟩

theorem implRank_yes (n j : Nat) (h : n < 91) (hj : j < 40) (h' : placesL.getD n 0 = (j : Int) + 1) (w : World) (hp : Places w) :
    Calls Tryd.prog 68 #[.int .u8 n] w fun e w' => e = .returned (.tuple #[.int .i64 j, .bool true]) ∧ w = w' := by
  have hc := hp n h
  rw [h'] at hc
  have h0 : ¬ (91 : Int) ≤ (n : Int) := by omega
  have h1 : (n : Int) < 91 := by omega
  have h2 : (0 : Int) ≤ (n : Int) := by omega
  have h3 : ((j : Int) + 1 == 0) = false := neq_r (by omega)
  have h4 : (j : Int) + 1 - 1 = (j : Int) := by omega
  clear hp h' h
  go_enter Tryd.func68, Tryd.ntmps68
  go_wp2
  go_ret2
  exact ⟨by rw [← h4]; rfl, rfl⟩
end Go.Proofs.YtamookdlbmbncabDoor
