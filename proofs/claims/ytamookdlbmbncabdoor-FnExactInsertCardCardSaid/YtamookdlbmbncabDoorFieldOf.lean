/- Whether a field is one of so many columns: contracts of spec.l02Field and impl.isFieldOf (as in XPart, which a seat of layouts does not take in). -/
import Derived.Test.YtamookdlbmbncabDoorMem
namespace Go.Proofs.YtamookdlbmbncabDoor
open Go.ChangeShapes Go.WideShapes Go.ChangeAt Go.RowKit

/-- whether from a to b is a field of n columns -/
def fieldB (a b n : Int) : Bool := decide (0 ≤ a) && (decide (a < b) && decide (b ≤ n))

theorem fieldB_cases (a b n : Int) : (fieldB a b n = false ∧ ¬ 0 ≤ a) ∨ (fieldB a b n = false ∧ 0 ≤ a ∧ ¬ a < b) ∨ (fieldB a b n = false ∧ 0 ≤ a ∧ a < b ∧ ¬ b ≤ n) ∨ (fieldB a b n = true ∧ 0 ≤ a ∧ a < b ∧ b ≤ n) := by
  unfold fieldB
  by_cases h1 : 0 ≤ a
  · by_cases h2 : a < b
    · by_cases h3 : b ≤ n
      · exact Or.inr (Or.inr (Or.inr ⟨by simp [h1, h2, h3], h1, h2, h3⟩))
      · exact Or.inr (Or.inr (Or.inl ⟨by simp [h3], h1, h2, h3⟩))
    · exact Or.inr (Or.inl ⟨by simp [h2], h1, h2⟩)
  · exact Or.inl ⟨by simp [h1], h1⟩

theorem l02Field_any (a b n : Int) (w : World) :
    Calls Tryd.prog 26 #[.agg #[.int .i64 a, .int .i64 b], .int .i64 n] w fun e w' => e = .returned (.bool (fieldB a b n)) ∧ Below w.heap.size w w' := by
  rcases fieldB_cases a b n with ⟨e, h⟩ | ⟨e, h, h2⟩ | ⟨e, h, h2, h3⟩ | ⟨e, h, h2, h3⟩
  all_goals
    rw [e]
    clear e
    go_enter Tryd.func26, Tryd.ntmps26
    go_wp2
    go_ret
    exact ⟨rfl, below_box w _⟩

theorem isFieldOf_any (a b n : Int) (w : World) :
    Calls Tryd.prog 55 #[.agg #[.int .i64 a, .int .i64 b], .int .i64 n] w fun e w' => e = .returned (.bool (fieldB a b n)) ∧ Below w.heap.size w w' := by
  rcases fieldB_cases a b n with ⟨e, h⟩ | ⟨e, h, h2⟩ | ⟨e, h, h2, h3⟩ | ⟨e, h, h2, h3⟩
  all_goals
    rw [e]
    clear e
    go_enter Tryd.func55, Tryd.ntmps55
    go_wp2
    go_ret
    exact ⟨rfl, below_box w _⟩

end Go.Proofs.YtamookdlbmbncabDoor
