/- What spec.l06Pair, spec.DrawDistanceOf, spec.DrawRepairCard and spec.DrawRepairColumn give: cards of at most 64 columns in memory of their own, and a number. -/
import Derived.Test.YtjfogadcedgndaaBent
namespace Go.Proofs.Ytjfogadcedgndaa
open Go.ChangeShapes Go.WideShapes Go.ChangeAt Go.RowKit

/-- Two cards of at most 64 columns, in new memory. -/
def DrawsTwo (w : World) (e : Ending) (w' : World) : Prop :=
  ∃ A cap xs A' cap' ys, e = .returned (.tuple #[.agg #[.slice A xs.length cap], .agg #[.slice A' ys.length cap']]) ∧ xs.length ≤ 64 ∧ ys.length ≤ 64 ∧ CardFrom w.heap.size w' A xs ∧ CardFrom w.heap.size w' A' ys ∧ Below w.heap.size w w'
/-- A card of at most 64 columns, in new memory. -/
def DrawsOne (w : World) (e : Ending) (w' : World) : Prop :=
  ∃ A cap xs, e = .returned (.agg #[.slice A xs.length cap]) ∧ xs.length ≤ 64 ∧ CardFrom w.heap.size w' A xs ∧ Below w.heap.size w w'

end Go.Proofs.Ytjfogadcedgndaa