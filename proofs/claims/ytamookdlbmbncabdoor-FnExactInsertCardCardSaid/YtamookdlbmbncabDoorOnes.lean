/- bits.OnesCount64 answers the number of bits of a number below 4096: a contract. -/
import Derived.Test.YtamookdlbmbncabDoorRows
import Derived.WalkKit
import Derived.ProofKit
import Derived.OpenShut
import Derived.Lib.Hide
namespace Go.Proofs.YtamookdlbmbncabDoor
open Go.ChangeShapes Go.WideShapes Go.ChangeAt Go.RowKit
def ones1 (a : Int) : Int := IntKind.u64.wrap (bits .and .u64 (a / 2) 6148914691236517205 + bits .and .u64 a 6148914691236517205)
def ones2 (a : Int) : Int := IntKind.u64.wrap (bits .and .u64 (a / 4) 3689348814741910323 + bits .and .u64 a 3689348814741910323)
def ones3 (a : Int) : Int := bits .and .u64 (IntKind.u64.wrap (a / 16 + a)) 1085102592571150095
def ones4 (a : Int) : Int := IntKind.u64.wrap (a + a / 256)
def ones5 (a : Int) : Int := IntKind.u64.wrap (a + a / 65536)
def ones6 (a : Int) : Int := IntKind.u64.wrap (a + a / 4294967296)
def ones7 (a : Int) : Int := bits .and .i64 (wrap64 a) 127
def ones (m : Int) : Int := ones7 (ones6 (ones5 (ones4 (ones3 (ones2 (ones1 m))))))

def popc : Nat → Nat → Nat
  | 0, _ => 0
  | k + 1, m => m % 2 + popc k (m / 2)

theorem ones_parts : ∀ a b : Fin 64, ones ((64 * a.val + b.val : Nat) : Int) = (popc 12 (64 * a.val + b.val) : Int) := by decide +kernel
theorem ones_small (m : Nat) (hm : m < 4096) : ones (m : Int) = (popc 12 m : Int) := by
  have h := ones_parts ⟨m / 64, by omega⟩ ⟨m % 64, by omega⟩
  have e : 64 * (m / 64) + m % 64 = m := by omega
  simp only [e] at h
  exact h

theorem ones_any (m : Nat) (hm : m < 4096) (w : World) :
    Calls Tryd.prog 70 #[.int .u64 m] w fun e w' => e = .returned (.int .i64 (popc 12 m)) ∧ w = w' := by
  have HO : Hid (ones m = popc 12 m) := ones_small m hm
  go_enter Tryd.func70, Tryd.ntmps70
  go_wp2
  go_ret
  rw [← HO.out]
  exact ⟨rfl, rfl⟩

theorem popc_zero : ∀ k, popc k 0 = 0
  | 0 => rfl
  | k + 1 => by rw [popc, Nat.zero_mod, Nat.zero_div, popc_zero k]
theorem popc_le : ∀ k m, popc k m ≤ k
  | 0, _ => Nat.le_refl _
  | k + 1, m => by
    have := popc_le k (m / 2)
    rw [popc]
    omega
end Go.Proofs.YtamookdlbmbncabDoor
