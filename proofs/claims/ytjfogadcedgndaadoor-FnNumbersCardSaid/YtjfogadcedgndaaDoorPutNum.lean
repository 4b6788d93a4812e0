/- spec.l03Put gives the columns of a number, and whether it fits, for every number of a card and 1 to 20 columns: contracts. -/
import Derived.Test.YtjfogadcedgndaaDoorWriteAt
import Derived.Test.YtjfogadcedgndaaDoorOwn
namespace Go.Proofs.YtjfogadcedgndaaDoor
open Go.ChangeShapes Go.WideShapes Go.ChangeAt Go.RowKit

/-- The columns of a number in new memory, and whether it fits. -/
def GivesPut (n : Int) (wd : Nat) (b : Bool) (w : World) (e : Ending) (w' : World) : Prop :=
  ∃ g, e = .returned (.tuple #[.slice (some ⟨g, 0, none⟩) wd wd, .bool b]) ∧ w.heap.size ≤ g ∧ Below w.heap.size w w' ∧ Row w' g (numW n wd) []

end Go.Proofs.YtjfogadcedgndaaDoor