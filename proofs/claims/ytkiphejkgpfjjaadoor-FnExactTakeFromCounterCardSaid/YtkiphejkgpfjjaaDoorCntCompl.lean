/- spec.ComplementOf and impl.ComplementOf give the counter with the complement of each digit, or the code, for every counter of at most 1048576 digits: contracts. -/
import Derived.Test.YtkiphejkgpfjjaaDoorCntOut
namespace Go.Proofs.YtkiphejkgpfjjaaDoor
open Go.ChangeShapes Go.WideShapes Go.ChangeAt Go.RowKit

/-- the answer of ComplementOf -/
def compA (xs : List Int) : List Int := if okK xs = true then compL xs else []
/-- the code of a function that asks only for a valid counter -/
def okC (xs : List Int) : Int := if okK xs = true then 0 else 1
theorem compA_length {xs : List Int} (hm : xs.length ≤ 1048576) : (compA xs).length ≤ 1048576 := by
  unfold compA
  split
  · rw [compL_length]; exact hm
  · simp
theorem comp_take {xs : List Int} {k : Nat} (h : k < xs.length) : (compL xs).take (k + 1) = (compL xs).take k ++ [9 - xs[k]?.getD 0] := by
  rw [List.take_succ_eq_append_getElem (by rw [compL_length]; exact h), List.getElem?_eq_getElem h]
  simp [compL]
theorem GivesK1.kc {ys : List Int} {w w' : World} {g cap : Nat} {ex : List Value} (hg : w.heap.size ≤ g) (hr : Row w' g ys ex) : IAt w' w.heap.size w'.heap.size (some ⟨g, 0, none⟩) ys :=
  ⟨fun _ => ⟨g, ex, rfl, hg, hr.lt, hr⟩, Nat.le_refl _⟩

end Go.Proofs.YtkiphejkgpfjjaaDoor
