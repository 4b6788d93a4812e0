/- The characters in the order of their ranks, and spec.l03Order, which answers them: a contract. -/
import Derived.Test.YtamookdlbmbncabDoorRows
import Derived.WalkKit
import Derived.ProofKit
import Derived.OpenShut
import Derived.WalkSpells
import Derived.Lib.Hide
namespace Go.Proofs.YtamookdlbmbncabDoor
open Go.ChangeShapes Go.WideShapes Go.ChangeAt Go.RowKit

/-- the characters in the order of their ranks -/
def orderL : List UInt8 := [32, 38, 65, 66, 67, 68, 69, 70, 71, 72, 73, 45, 74, 75, 76, 77, 78, 79, 80, 81, 82, 47, 83, 84, 85, 86, 87, 88, 89, 90, 48, 49, 50, 51, 52, 53, 54, 55, 56, 57]
def orderS : ByteArray := ⟨orderL.toArray⟩
theorem orderS_size : orderS.size = 40 := rfl

theorem l03Order_any (w : World) :
    Calls Tryd.prog 48 #[] w fun e w' => e = .returned (.string orderS) ∧ w = w' := by
  go_enter Tryd.func48, Tryd.ntmps48
  go_wp2
  go_ret
  exact ⟨rfl, rfl⟩

/-- the character of rank k -/
def charR (k : Nat) : Int := ((orderL[k]?.getD 0).toNat : Int)
theorem charR_le (k : Nat) : 0 ≤ charR k ∧ charR k ≤ 255 := by
  unfold charR
  have := (orderL[k]?.getD 0).toNat_lt
  omega
theorem order_get (k : Nat) (h : k < orderS.size) : (orderS[k].toNat : Int) = charR k := by
  have h' : k < orderL.length := h
  unfold charR
  rw [List.getElem?_eq_getElem h']
  rfl
end Go.Proofs.YtamookdlbmbncabDoor
