/- The sentinels of texts that are punched, in memory, and impl.codeFor at them: contracts. -/
import Derived.Test.YtamookdlbmbncaaSent
namespace Go.Proofs.Ytamookdlbmbncaa
open Go.ChangeShapes Go.WideShapes Go.ChangeAt Go.RowKit

end Go.Proofs.Ytamookdlbmbncaa