/- spec.PunchNumber and impl.PunchNumber give the card with a number in a field, or the code, for every card of at most 1048576 columns, every field and number: contracts. -/
import Derived.Test.YtjfogadcedgndaaDoorWriteNum
import Derived.Test.YtjfogadcedgndaaDoorPart
import Derived.Test.YtjfogadcedgndaaDoorOwnCard
import Derived.Test.YtjfogadcedgndaaDoorBoxed
import Derived.RegionTactic
import Derived.ChangeAlike
namespace Go.Proofs.YtjfogadcedgndaaDoor
open Go.ChangeShapes Go.WideShapes Go.ChangeAt Go.RowKit

theorem only_drewP {a w : World} {row : Option Nat} (h : a.grownBy w row) : a.grownBy w.drew row := ⟨h.os, h.tape, h.output, h.size, h.block⟩
theorem three_below (w : World) (o1 o2 o3 : Obj) {w1 : World} (h : Below ((w.alloc o1).alloc o2 |>.alloc o3).heap.size ((w.alloc o1).alloc o2 |>.alloc o3) w1) : Below w.heap.size w w1 :=
  below_step (((below_box w _).alloc (by simp) _).alloc (by simp; omega) _) h

end Go.Proofs.YtjfogadcedgndaaDoor
