/- The functions of rows of a card answer, for every row, the bit of the row: contracts of spec.l00In, spec.l02Bit, spec.BitOf and impl.BitOf, for every argument. -/
import Derived.Test.YtpklmhffgbgakaaRows
import Derived.WalkKit
import Derived.ProofKit
import Derived.OpenShut
import Derived.Deep.QuietTactic
import Derived.BigQuiet
import Derived.WalkSpells
namespace Go.Proofs.Ytpklmhffgbgakaa
open Go.ChangeShapes Go.WideShapes Go.ChangeAt Go.RowKit

/-- the bit of a row, 0 if there is none -/
def rowBit (r : Int) : Int :=
  if r = 12 then 1 else if r = 11 then 2 else if r = 0 then 4 else if r = 1 then 8 else if r = 2 then 16 else if r = 3 then 32 else if r = 4 then 64
  else if r = 5 then 128 else if r = 6 then 256 else if r = 7 then 512 else if r = 8 then 1024 else if r = 9 then 2048 else 0

theorem rowBit_cases (r : Int) : r < 0 ∨ r = 10 ∨ 12 < r ∨ r = 0 ∨ r = 1 ∨ r = 2 ∨ r = 3 ∨ r = 4 ∨ r = 5 ∨ r = 6 ∨ r = 7 ∨ r = 8 ∨ r = 9 ∨ r = 11 ∨ r = 12 := by omega

theorem rowBit_out (r : Int) (h : r < 0 ∨ r = 10 ∨ 12 < r) : rowBit r = 0 := by
  unfold rowBit
  repeat (rw [if_neg (by omega)])

def inB (n lo hi : Int) : Bool := decide (lo ≤ n) && decide (n ≤ hi)

theorem in_any (n lo hi : Int) (w : World) :
    Calls Try.prog 70 #[.int .i64 n, .int .i64 lo, .int .i64 hi] w fun e w' => e = .returned (.bool (inB n lo hi)) ∧ w = w' := by
  by_cases h1 : lo ≤ n
  · by_cases h2 : n ≤ hi
    · have e : inB n lo hi = true := by simp [inB, h1, h2]
      rw [e]
      clear e
      go_enter Try.func70, Try.ntmps70
      go_wp2
      go_ret
      exact ⟨rfl, rfl⟩
    · have e : inB n lo hi = false := by simp [inB, h2]
      rw [e]
      clear e
      go_enter Try.func70, Try.ntmps70
      go_wp2
      go_ret
      exact ⟨rfl, rfl⟩
  · have e : inB n lo hi = false := by simp [inB, h1]
    rw [e]
    clear e
    go_enter Try.func70, Try.ntmps70
    go_wp2
    go_ret
    exact ⟨rfl, rfl⟩

end Go.Proofs.Ytpklmhffgbgakaa