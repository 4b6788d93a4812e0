/- spec.IllegalColumns and impl.IllegalColumns give the columns without a character, or the code, for every card of at most 1048576 columns: contracts. -/
import Derived.Test.YtamookdlbmbncabDoorChars
import Derived.Test.YtamookdlbmbncabDoorGrow
namespace Go.Proofs.YtamookdlbmbncabDoor
open Go.ChangeShapes Go.WideShapes Go.ChangeAt Go.RowKit

/-- the columns without a character among the first k -/
def illTo (xs : List Int) (k : Nat) : List Int := ((List.range k).filter fun i => !charOk (xs[i]?.getD 0)).map fun i : Nat => (i : Int)
theorem illTo_zero (xs : List Int) : illTo xs 0 = [] := rfl
theorem illTo_ok (xs : List Int) (k : Nat) (h : charOk (xs[k]?.getD 0) = true) : illTo xs (k + 1) = illTo xs k := by
  simp [illTo, List.range_succ, h]
theorem illTo_bad (xs : List Int) (k : Nat) (h : charOk (xs[k]?.getD 0) = false) : illTo xs (k + 1) = illTo xs k ++ [(k : Int)] := by
  simp [illTo, List.range_succ, h]
theorem illTo_length (xs : List Int) (k : Nat) : (illTo xs k).length ≤ k := by
  have := List.length_filter_le (fun i => !charOk (xs[i]?.getD 0)) (List.range k)
  simpa [illTo] using this

end Go.Proofs.YtamookdlbmbncabDoor