/- Words for a list of numbers and a code, as they stand in two temporaries behind a statement that calls a function on fresh copies. -/
import Derived.Test.YthkfdfocghmmeaaLists
namespace Go.Proofs.Ythkfdfocghmmeaa
open Go.ChangeShapes Go.WideShapes Go.ChangeAt Go.RowKit

def CutSome (ys : List Int) (k : Int) (W : World) (s t : Value) (wx : World) : Prop :=
  ∃ g cap ex, s = .slice (some ⟨g, 0, none⟩) ys.length cap ∧ t = .int .i64 k ∧ W.heap.size ≤ g ∧ Below W.heap.size W wx ∧ Row wx g ys ex
def CutNone (k : Int) (W : World) (s t : Value) (wx : World) : Prop :=
  ∃ A cap, s = .slice A 0 cap ∧ t = .int .i64 k ∧ Below W.heap.size W wx
end Go.Proofs.Ythkfdfocghmmeaa
