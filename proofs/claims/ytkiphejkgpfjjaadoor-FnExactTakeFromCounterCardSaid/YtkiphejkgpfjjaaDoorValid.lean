/- spec.ValidCard and impl.ValidCard answer whether a card has 1 to 20 columns with numbers from 0 to 4095, for every card of at most 1048576 columns: contracts, of the functions that they call too. -/
import Derived.Test.YtkiphejkgpfjjaaDoorInts
import Derived.Test.YtkiphejkgpfjjaaDoorBits
import Derived.Outline
namespace Go.Proofs.YtkiphejkgpfjjaaDoor
open Go.ChangeShapes Go.WideShapes Go.ChangeAt Go.RowKit

def maskB (x : Int) : Bool := inB x 0 4095
def legalB (xs : List Int) : Bool := xs.all maskB
def okB (xs : List Int) : Bool := legalB xs && inB xs.length 1 20

theorem legalB_take (xs : List Int) (k : Nat) (hk : k < xs.length) : legalB (xs.take (k + 1)) = (legalB (xs.take k) && maskB (xs[k]?.getD 0)) := by
  rw [legalB, legalB, List.take_succ_eq_append_getElem hk, List.getElem?_eq_getElem hk, List.all_append, List.all_cons, List.all_nil, Bool.and_true]
  rfl
theorem legalB_bad (xs : List Int) (k : Nat) (hk : k < xs.length) (h : maskB (xs[k]?.getD 0) = false) : legalB xs = false := by
  rw [List.getElem?_eq_getElem hk] at h
  rw [legalB, List.all_eq_false]
  exact ⟨xs[k], List.getElem_mem hk, by simpa using h⟩

theorem okB_parts {xs : List Int} (h : okB xs = true) : legalB xs = true ∧ xs.length ≤ 20 := by
  rw [okB, Bool.and_eq_true] at h
  refine ⟨h.1, ?_⟩
  have := h.2
  simp [inB] at this
  omega
theorem legal_at {xs : List Int} (h : legalB xs = true) {j : Nat} (hj : j < xs.length) : 0 ≤ xs[j]?.getD 0 ∧ xs[j]?.getD 0 ≤ 4095 := by
  rw [List.getElem?_eq_getElem hj]
  have := List.all_eq_true.1 h xs[j] (List.getElem_mem hj)
  simpa [maskB, inB] using this

end Go.Proofs.YtkiphejkgpfjjaaDoor