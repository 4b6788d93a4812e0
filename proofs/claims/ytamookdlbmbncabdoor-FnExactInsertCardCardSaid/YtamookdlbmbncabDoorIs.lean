/- errors.Is at errors of errors.New's make, as the sentinels are: the same one, nil, another one: contracts. After the guide's worked text for another program. -/
import Derived.Test.YtamookdlbmbncabDoorChecked
import Derived.WalkKit
import Derived.LaidEql
import Derived.Stop.Asserts
import Derived.RowKitTokens
import Derived.Lib.Hide
namespace Go.Proofs.YtamookdlbmbncabDoor
open Go.RowKit Go.Extern.Stop Go.Stop Go.Extern

end Go.Proofs.YtamookdlbmbncabDoor