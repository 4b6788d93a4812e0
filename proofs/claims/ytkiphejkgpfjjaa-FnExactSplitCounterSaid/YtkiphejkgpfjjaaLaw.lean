/- An argument that is a card (a field, a pass) is opened to its list of numbers. For every program of this seat's rows; no condition. -/
import Derived.Test.YtkiphejkgpfjjaaMem
import Derived.Test.YtkiphejkgpfjjaaPost
import Derived.Lib.SmallJoins
namespace Go.Proofs.Ytkiphejkgpfjjaa
open Go.ChangeShapes Go.WideShapes Go.ChangeAt Go.RowKit

section
variable {H : Type} {enc : TypeId × Value → H}

end
end Go.Proofs.Ytkiphejkgpfjjaa
