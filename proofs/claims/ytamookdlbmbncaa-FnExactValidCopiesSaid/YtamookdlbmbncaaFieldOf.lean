/- Whether a field is one of so many columns: contracts of spec.l02Field and impl.isFieldOf (as in XPart, which a seat of layouts does not take in). -/
import Derived.Test.YtamookdlbmbncaaMem
namespace Go.Proofs.Ytamookdlbmbncaa
open Go.ChangeShapes Go.WideShapes Go.ChangeAt Go.RowKit

/-- whether from a to b is a field of n columns -/
def fieldB (a b n : Int) : Bool := decide (0 ≤ a) && (decide (a < b) && decide (b ≤ n))

theorem fieldB_cases (a b n : Int) : (fieldB a b n = false ∧ ¬ 0 ≤ a) ∨ (fieldB a b n = false ∧ 0 ≤ a ∧ ¬ a < b) ∨ (fieldB a b n = false ∧ 0 ≤ a ∧ a < b ∧ ¬ b ≤ n) ∨ (fieldB a b n = true ∧ 0 ≤ a ∧ a < b ∧ b ≤ n) := by
  unfold fieldB
  by_cases h1 : 0 ≤ a
  · by_cases h2 : a < b
    · by_cases h3 : b ≤ n
      · exact Or.inr (Or.inr (Or.inr ⟨by simp [h1, h2, h3], h1, h2, h3⟩))
      · exact Or.inr (Or.inr (Or.inl ⟨by simp [h3], h1, h2, h3⟩))
    · exact Or.inr (Or.inl ⟨by simp [h2], h1, h2⟩)
  · exact Or.inl ⟨by simp [h1], h1⟩

end Go.Proofs.Ytamookdlbmbncaa
