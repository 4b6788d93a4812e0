/- spec.PunchHole and impl.PunchHole give the card with one more hole, or the code, for every card of at most 1048576 columns, every column and row: contracts. -/
import Derived.Test.YtjlgfgekiekenaaDoorOwn
import Derived.Test.YtjlgfgekiekenaaDoorHoles
import Derived.Deep.RegionLaw
namespace Go.Proofs.YtjlgfgekiekenaaDoor
open Go.ChangeShapes Go.WideShapes Go.ChangeAt Go.RowKit

theorem cell_stored {w : World} {p : Addr} {v : Value} (h : w.cell? p = some v) (u : Value) : (w.setCell p u).cell? p = some u :=
  World.cell?_setCell_same w p u h

end Go.Proofs.YtjlgfgekiekenaaDoor