/- spec.HasHole and impl.HasHole answer the same for every card of at most 1048576 columns, every column and row: contracts, of spec.l02At, impl.bitOn, impl.BitOf and impl.isColumnOf too. -/
import Derived.Test.YtamookdlbmbncaaDoorValid
import Derived.Deep.QuietTactic
import Derived.BigQuiet
namespace Go.Proofs.YtamookdlbmbncaaDoor
open Go.ChangeShapes Go.WideShapes Go.ChangeAt Go.RowKit

theorem rowBit_some (r : Int) (h : ¬ (r < 0 ∨ r = 10 ∨ 12 < r)) : 1 ≤ rowBit r ∧ rowBit r ≤ 2048 := by
  rcases rowBit_cases r with h' | h' | h' | h' | h' | h' | h' | h' | h' | h' | h' | h' | h' | h' | h'
  · exact absurd (Or.inl h') h
  · exact absurd (Or.inr (Or.inl h')) h
  · exact absurd (Or.inr (Or.inr h')) h
  all_goals (subst h'; decide)

theorem isColumnOf_any (n m : Int) (w : World) :
    Calls Tryd.prog 90 #[.int .i64 n, .int .i64 m] w fun e w' => e = .returned (.bool (decide (0 ≤ n) && decide (n < m))) ∧ w = w' := by
  by_cases h1 : 0 ≤ n
  · by_cases h2 : n < m
    · have e : (decide (0 ≤ n) && decide (n < m)) = true := by simp [h1, h2]
      rw [e]
      clear e
      go_enter Tryd.func90, Tryd.ntmps90
      go_wp2
      go_ret
      exact ⟨rfl, rfl⟩
    · have e : (decide (0 ≤ n) && decide (n < m)) = false := by simp [h2]
      rw [e]
      clear e
      go_enter Tryd.func90, Tryd.ntmps90
      go_wp2
      go_ret
      exact ⟨rfl, rfl⟩
  · have e : (decide (0 ≤ n) && decide (n < m)) = false := by simp [h1]
    rw [e]
    clear e
    go_enter Tryd.func90, Tryd.ntmps90
    go_wp2
    go_ret
    exact ⟨rfl, rfl⟩

/-- the code of a card, a column and a row -/
def atCode (xs : List Int) (col row : Int) : Int := if okB xs = false then 1 else if (decide (0 ≤ col) && decide (col < xs.length)) = false ∨ rowBit row = 0 then 2 else 0

theorem atCode_cases (xs : List Int) (col row : Int) : (atCode xs col row = 1 ∧ okB xs = false) ∨ (atCode xs col row = 2 ∧ okB xs = true ∧ (decide (0 ≤ col) && decide (col < xs.length)) = false) ∨
    (atCode xs col row = 2 ∧ okB xs = true ∧ (decide (0 ≤ col) && decide (col < xs.length)) = true ∧ rowBit row = 0) ∨ (atCode xs col row = 0 ∧ okB xs = true ∧ (decide (0 ≤ col) && decide (col < xs.length)) = true ∧ rowBit row ≠ 0) := by
  unfold atCode
  cases okB xs <;> cases (decide (0 ≤ col) && decide (col < xs.length)) <;> by_cases h : rowBit row = 0 <;> simp [h]

/-- the code of a card and a column -/
def colCode (xs : List Int) (col : Int) : Int := if okB xs = false then 1 else if (decide (0 ≤ col) && decide (col < xs.length)) = false then 2 else 0
theorem colCode_cases (xs : List Int) (col : Int) : (colCode xs col = 1 ∧ okB xs = false) ∨ (colCode xs col = 2 ∧ okB xs = true ∧ (decide (0 ≤ col) && decide (col < xs.length)) = false) ∨
    (colCode xs col = 0 ∧ okB xs = true ∧ (decide (0 ≤ col) && decide (col < xs.length)) = true) := by
  unfold colCode
  cases okB xs <;> cases (decide (0 ≤ col) && decide (col < xs.length)) <;> simp
theorem atCode_col (xs : List Int) (col row : Int) : (colCode xs col ≠ 0 ∧ atCode xs col row = colCode xs col) ∨ (colCode xs col = 0 ∧ rowBit row = 0 ∧ atCode xs col row = 2) ∨ (colCode xs col = 0 ∧ rowBit row ≠ 0 ∧ atCode xs col row = 0) := by
  unfold colCode atCode
  cases okB xs <;> cases (decide (0 ≤ col) && decide (col < xs.length)) <;> by_cases h : rowBit row = 0 <;> simp [h]

/-- whether a valid card has the hole -/
def holeB (xs : List Int) (col row : Int) : Bool := bits .and .i64 (xs[col.toNat]?.getD 0) (rowBit row) != 0

theorem column_of {n : Nat} {col : Int} (h : (decide (0 ≤ col) && decide (col < n)) = true) : ∃ k : Nat, col = k ∧ k < n := by
  simp only [Bool.and_eq_true, decide_eq_true_eq] at h
  exact ⟨col.toNat, by omega, by omega⟩

end Go.Proofs.YtamookdlbmbncaaDoor