/- spec.HasHole and impl.HasHole answer the same for every card of at most 1048576 columns, every column and row: contracts, of spec.l02At, impl.bitOn, impl.BitOf and impl.isColumnOf too. -/
import Derived.Test.YthkfdfocghmmeaaValid
import Derived.Deep.QuietTactic
import Derived.BigQuiet
namespace Go.Proofs.Ythkfdfocghmmeaa
open Go.ChangeShapes Go.WideShapes Go.ChangeAt Go.RowKit

theorem rowBit_some (r : Int) (h : ¬ (r < 0 ∨ r = 10 ∨ 12 < r)) : 1 ≤ rowBit r ∧ rowBit r ≤ 2048 := by
  rcases rowBit_cases r with h' | h' | h' | h' | h' | h' | h' | h' | h' | h' | h' | h' | h' | h' | h'
  · exact absurd (Or.inl h') h
  · exact absurd (Or.inr (Or.inl h')) h
  · exact absurd (Or.inr (Or.inr h')) h
  all_goals (subst h'; decide)

theorem isColumnOf_any (n m : Int) (w : World) :
    Calls Try.prog 74 #[.int .i64 n, .int .i64 m] w fun e w' => e = .returned (.bool (decide (0 ≤ n) && decide (n < m))) ∧ w = w' := by
  by_cases h1 : 0 ≤ n
  · by_cases h2 : n < m
    · have e : (decide (0 ≤ n) && decide (n < m)) = true := by simp [h1, h2]
      rw [e]
      clear e
      go_enter Try.func74, Try.ntmps74
      go_wp2
      go_ret
      exact ⟨rfl, rfl⟩
    · have e : (decide (0 ≤ n) && decide (n < m)) = false := by simp [h2]
      rw [e]
      clear e
      go_enter Try.func74, Try.ntmps74
      go_wp2
      go_ret
      exact ⟨rfl, rfl⟩
  · have e : (decide (0 ≤ n) && decide (n < m)) = false := by simp [h1]
    rw [e]
    clear e
    go_enter Try.func74, Try.ntmps74
    go_wp2
    go_ret
    exact ⟨rfl, rfl⟩

/-- the code of a card, a column and a row -/
def atCode (xs : List Int) (col row : Int) : Int := if okB xs = false then 1 else if (decide (0 ≤ col) && decide (col < xs.length)) = false ∨ rowBit row = 0 then 2 else 0

theorem atCode_cases (xs : List Int) (col row : Int) : (atCode xs col row = 1 ∧ okB xs = false) ∨ (atCode xs col row = 2 ∧ okB xs = true ∧ (decide (0 ≤ col) && decide (col < xs.length)) = false) ∨
    (atCode xs col row = 2 ∧ okB xs = true ∧ (decide (0 ≤ col) && decide (col < xs.length)) = true ∧ rowBit row = 0) ∨ (atCode xs col row = 0 ∧ okB xs = true ∧ (decide (0 ≤ col) && decide (col < xs.length)) = true ∧ rowBit row ≠ 0) := by
  unfold atCode
  cases okB xs <;> cases (decide (0 ≤ col) && decide (col < xs.length)) <;> by_cases h : rowBit row = 0 <;> simp [h]

/-- the code of a card and a column -/
def colCode (xs : List Int) (col : Int) : Int := if okB xs = false then 1 else if (decide (0 ≤ col) && decide (col < xs.length)) = false then 2 else 0
theorem colCode_cases (xs : List Int) (col : Int) : (colCode xs col = 1 ∧ okB xs = false) ∨ (colCode xs col = 2 ∧ okB xs = true ∧ (decide (0 ≤ col) && decide (col < xs.length)) = false) ∨
    (colCode xs col = 0 ∧ okB xs = true ∧ (decide (0 ≤ col) && decide (col < xs.length)) = true) := by
  unfold colCode
  cases okB xs <;> cases (decide (0 ≤ col) && decide (col < xs.length)) <;> simp
theorem atCode_col (xs : List Int) (col row : Int) : (colCode xs col ≠ 0 ∧ atCode xs col row = colCode xs col) ∨ (colCode xs col = 0 ∧ rowBit row = 0 ∧ atCode xs col row = 2) ∨ (colCode xs col = 0 ∧ rowBit row ≠ 0 ∧ atCode xs col row = 0) := by
  unfold colCode atCode
  cases okB xs <;> cases (decide (0 ≤ col) && decide (col < xs.length)) <;> by_cases h : rowBit row = 0 <;> simp [h]

theorem checkColumn_any (A : Option Addr) (c : Nat) (xs : List Int) (B : Nat) (col : Int) (w : World) (h : Ints w B A xs) (hB : B ≤ w.heap.size) (hn : xs.length ≤ 1048576) :
    Calls Try.prog 54 #[.agg #[.slice A xs.length c], .int .i64 col] w fun e w' =>
      e = .returned (.int .i64 (colCode xs col)) ∧ Below w.heap.size w w' := by
  have hok := implValidCard_any A c xs B (w.alloc (.cells #[.slice A xs.length c] 28)) (h.alloc hB _) (by simp; omega) hn
  rcases colCode_cases xs col with ⟨e, hv⟩ | ⟨e, hv, hc⟩ | ⟨e, hv, hc⟩
  · rw [e]
    rw [hv] at hok
    have HO := Lib.hid hok
    clear hok e hv h hn
    go_enter Try.func54, Try.ntmps54
    go_wp2_with fail
    refine HO.out.mono ?_
    rintro e w1 ⟨rfl, hb⟩
    have B1 := Lib.hid (below_step (below_box w _) hb)
    clear hb
    go_wp2
    go_ret
    exact ⟨rfl, B1.out⟩
  · rw [e]
    rw [hv] at hok
    have hin := isColumnOf_any col xs.length
    rw [hc] at hin
    have HO := Lib.hid hok
    have HI := Lib.hid hin
    clear hok hin hc e hv h hn
    go_enter Try.func54, Try.ntmps54
    go_wp2_with fail
    refine HO.out.mono ?_
    rintro e w1 ⟨rfl, hb⟩
    have B1 := Lib.hid (below_step (below_box w _) hb)
    have c1 := cell_kept (p := ⟨w.heap.size, 0, none⟩) (v := .slice A xs.length c) (by simp) hb
    clear hb
    go_wp2_with (go_at_call 74; refine (HI.out _).mono ?_; rintro e w' ⟨rfl, rfl⟩)
    go_ret
    exact ⟨rfl, B1.out⟩
  · rw [e]
    rw [hv] at hok
    have hin := isColumnOf_any col xs.length
    rw [hc] at hin
    have HO := Lib.hid hok
    have HI := Lib.hid hin
    clear hok hin hc e hv h hn
    go_enter Try.func54, Try.ntmps54
    go_wp2_with fail
    refine HO.out.mono ?_
    rintro e w1 ⟨rfl, hb⟩
    have B1 := Lib.hid (below_step (below_box w _) hb)
    have c1 := cell_kept (p := ⟨w.heap.size, 0, none⟩) (v := .slice A xs.length c) (by simp) hb
    clear hb
    go_wp2_with (go_at_call 74; refine (HI.out _).mono ?_; rintro e w' ⟨rfl, rfl⟩)
    go_ret
    exact ⟨rfl, B1.out⟩

/-- whether a valid card has the hole -/
def holeB (xs : List Int) (col row : Int) : Bool := bits .and .i64 (xs[col.toNat]?.getD 0) (rowBit row) != 0

theorem column_of {n : Nat} {col : Int} (h : (decide (0 ≤ col) && decide (col < n)) = true) : ∃ k : Nat, col = k ∧ k < n := by
  simp only [Bool.and_eq_true, decide_eq_true_eq] at h
  exact ⟨col.toNat, by omega, by omega⟩

end Go.Proofs.Ythkfdfocghmmeaa