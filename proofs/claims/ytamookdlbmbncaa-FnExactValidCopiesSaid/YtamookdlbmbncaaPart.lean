/- spec.PartOf and impl.PartOf give the card that has the columns of a field, or the code, for every card of at most 1048576 columns and every field: contracts, of laws.toField too. -/
import Derived.Test.YtamookdlbmbncaaOwn
import Derived.Test.YtamookdlbmbncaaFieldOf
import Derived.Deep.RegionHeld3
import Derived.Deep.QuietTactic
import Derived.BigQuiet
import Derived.Laws.NewDeep
namespace Go.Proofs.Ytamookdlbmbncaa
open Go.ChangeShapes Go.WideShapes Go.ChangeAt Go.RowKit

/-- the code of a card and a field -/
def partCode (xs : List Int) (a b : Int) : Int := if okB xs = false then 1 else if fieldB a b xs.length = false then 2 else 0

/-- the numbers of a field -/
def partOf (xs : List Int) (i j : Nat) : List Int := (xs.drop i).take (j - i)
theorem partOf_length (xs : List Int) (i j : Nat) (h : j ≤ xs.length) : (partOf xs i j).length = j - i := by simp [partOf]; omega
theorem Ints.part {w : World} {B b off : Nat} {xs : List Int} (h : Ints w B (some ⟨b, off, none⟩) xs) (i j : Nat) (hij : i < j) (hj : j ≤ xs.length) : Ints w B (some ⟨b, off + i, none⟩) (partOf xs i j) := by
  intro _
  obtain ⟨b', off', e, hb, hc⟩ := h (by omega)
  injection e with e
  injection e with e1 e2
  subst e1 e2
  refine ⟨b, off + i, rfl, hb, fun t ht => ?_⟩
  rw [partOf_length xs i j hj] at ht
  rw [Nat.add_assoc, hc (i + t) (by omega), partOf, List.getElem?_take_of_lt (by omega), List.getElem?_drop]

theorem partCode_cases (xs : List Int) (a b : Int) : (partCode xs a b = 1 ∧ okB xs = false) ∨ (partCode xs a b = 2 ∧ okB xs = true ∧ fieldB a b xs.length = false) ∨ (partCode xs a b = 0 ∧ okB xs = true ∧ fieldB a b xs.length = true) := by
  unfold partCode
  cases okB xs <;> cases fieldB a b xs.length <;> simp

end Go.Proofs.Ytamookdlbmbncaa