/- The sentinels of texts that are punched, in memory, and impl.codeFor at them: contracts. -/
import Derived.Test.YtamookdlbmbncabDoorSent
namespace Go.Proofs.YtamookdlbmbncabDoor
open Go.ChangeShapes Go.WideShapes Go.ChangeAt Go.RowKit

end Go.Proofs.YtamookdlbmbncabDoor