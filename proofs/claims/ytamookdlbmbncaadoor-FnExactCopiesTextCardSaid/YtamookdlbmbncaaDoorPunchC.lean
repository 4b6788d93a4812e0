/- spec.l10Copy, and impl's pair.punched: the columns that copies punch: contracts. -/
import Derived.Test.YtamookdlbmbncaaDoorPairs
import Derived.RegionTactic
import Derived.ChangeAlike
import Derived.Laws.NewDeep
namespace Go.Proofs.YtamookdlbmbncaaDoor
open Go.ChangeShapes Go.WideShapes Go.ChangeAt Go.RowKit

theorem punch_one {xs zs : List Int} {P : List (Int × Int)} {t p q : Nat} {x : Int × Int} (hx : P[t]? = some x) (hp : x.1 = p) (hq : x.2 = q) : xferTo xs zs (P.drop t) = xferTo xs (zs.set q (bits .or .i64 (zs[q]?.getD 0) (xs[p]?.getD 0))) (P.drop (t + 1)) := by
  rw [drop_one hx, xferTo, hp, hq, Int.toNat_natCast, Int.toNat_natCast]
theorem punch_end {xs zs : List Int} {P : List (Int × Int)} {t : Nat} (h : P.length ≤ t) : xferTo xs zs (P.drop t) = zs := by
  rw [List.drop_of_length_le h]
  rfl

theorem drewOnly {a w : World} {g : Nat} (h : a.grownBy w (some g)) : a.grownBy w.drew (some g) := ⟨h.os, h.tape, h.output, h.size, h.block⟩

end Go.Proofs.YtamookdlbmbncaaDoor