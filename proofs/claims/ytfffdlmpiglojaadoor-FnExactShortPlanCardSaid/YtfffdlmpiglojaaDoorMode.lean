/- laws.toPass copies a pass; spec.l07Mode and impl.isMode answer whether a number is a mode: contracts. -/
import Derived.Test.YtfffdlmpiglojaaDoorBits
import Derived.Test.YtfffdlmpiglojaaDoorPassMem
namespace Go.Proofs.YtfffdlmpiglojaaDoor
open Go.ChangeShapes Go.WideShapes Go.ChangeAt Go.RowKit

theorem toPass_any (a b : Int) (w : World) :
    Calls Tryd.prog 49 #[.agg #[.int .i64 a, .int .i64 b]] w fun e w' => e = .returned (.agg #[.int .i64 a, .int .i64 b]) ∧ Below w.heap.size w w' := by
  go_enter Tryd.func49, Tryd.ntmps49
  go_wp2
  refine bodyPost_ret (v := .agg #[.int .i64 a, .int .i64 b]) (by simp [results, Tryd.results49, go_sem]) rfl ⟨rfl, ?_⟩
  exact ((below_box w _).alloc (by simp) _).alloc (by simp; omega) _

/-- whether a number is a mode -/
def modeB (m : Int) : Bool := inB m 1 2
theorem l07Mode_any (m : Int) (w : World) :
    Calls Tryd.prog 75 #[.int .i64 m] w fun e w' => e = .returned (.bool (modeB m)) ∧ w = w' := by
  have HI := Lib.hid (in_any m 1 2)
  go_enter Tryd.func75, Tryd.ntmps75
  go_wp2_with (go_at_call 74; refine (HI.out _).mono ?_; rintro e w' ⟨rfl, rfl⟩)
  go_ret
  exact ⟨rfl, rfl⟩
theorem modeB_cases (m : Int) : (modeB m = true ∧ m = 1) ∨ (modeB m = true ∧ m = 2) ∨ (modeB m = false ∧ m ≠ 1 ∧ m ≠ 2) := by
  unfold modeB inB
  by_cases h1 : m = 1
  · subst h1; simp
  · by_cases h2 : m = 2
    · subst h2; simp
    · right; right
      refine ⟨?_, h1, h2⟩
      simp only [Bool.and_eq_false_iff, decide_eq_false_iff_not]
      omega
theorem isMode_any (m : Int) (w : World) :
    Calls Tryd.prog 99 #[.int .i64 m] w fun e w' => e = .returned (.bool (modeB m)) ∧ w = w' := by
  rcases modeB_cases m with ⟨e, h⟩ | ⟨e, h⟩ | ⟨e, h1, h2⟩
  · rw [e]
    subst h
    go_enter Tryd.func99, Tryd.ntmps99
    go_wp2
    go_ret
    exact ⟨rfl, rfl⟩
  · rw [e]
    subst h
    go_enter Tryd.func99, Tryd.ntmps99
    go_wp2
    go_ret
    exact ⟨rfl, rfl⟩
  · rw [e]
    have e1 : (m == 1) = false := by simpa using h1
    have e2 : (m == 2) = false := by simpa using h2
    clear e
    go_enter Tryd.func99, Tryd.ntmps99
    go_wp2
    go_ret
    exact ⟨rfl, rfl⟩
end Go.Proofs.YtfffdlmpiglojaaDoor
