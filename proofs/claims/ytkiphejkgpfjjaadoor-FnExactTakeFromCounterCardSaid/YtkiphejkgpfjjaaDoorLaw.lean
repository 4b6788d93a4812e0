/- An argument that is a card (a field, a pass) is opened to its list of numbers. For every program of this seat's rows; no condition. -/
import Derived.Test.YtkiphejkgpfjjaaDoorMem
import Derived.Test.YtkiphejkgpfjjaaDoorPost
import Derived.Lib.SmallJoins
namespace Go.Proofs.YtkiphejkgpfjjaaDoor
open Go.ChangeShapes Go.WideShapes Go.ChangeAt Go.RowKit

section
variable {H : Type} {enc : TypeId × Value → H}

end
end Go.Proofs.YtkiphejkgpfjjaaDoor
