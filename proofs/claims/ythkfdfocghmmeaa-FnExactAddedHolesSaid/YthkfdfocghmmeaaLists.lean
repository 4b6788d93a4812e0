/- The laws' helpers on lists of numbers that a function answered, in the form that a law's walk takes: contracts of laws.eqInt64S, markInt64S, heldInt64S. -/
import Derived.Test.YthkfdfocghmmeaaMarks
namespace Go.Proofs.Ythkfdfocghmmeaa
open Go.ChangeShapes Go.WideShapes Go.ChangeAt Go.RowKit

theorem below_drewOf (w : World) (n : Nat) : Below w.heap.size w (w.drewN n) := below_drewN (Below.refl _ _) n

theorem eqList_any (A A' : Option Addr) (c c' : Nat) (ys : List Int) (B B' : Nat) (w : World) (h : Ints w B A ys) (h' : Ints w B' A' ys) (hn : ys.length ≤ 1048576) :
    Calls Try.prog 24 #[.slice A ys.length c, .slice A' ys.length c'] w fun e w' => e = .returned (.bool true) ∧ Below w.heap.size w w' := by
  refine (eqInts_any A A' c c' ys ys B B' w h h' hn (by omega)).mono ?_
  rintro e w' ⟨rfl, n, rfl⟩
  exact ⟨by simp, below_drewOf w n⟩

theorem eqNil_any (A A' : Option Addr) (c c' : Nat) (w : World) :
    Calls Try.prog 24 #[.slice A 0 c, .slice A' 0 c'] w fun e w' => e = .returned (.bool true) ∧ Below w.heap.size w w' :=
  eqList_any A A' c c' [] 0 0 w Ints.nil Ints.nil (by simp)

theorem heldList_any (A : Option Addr) (c n B : Nat) (k : Int) (w : World) (h : Ints w B A (marks k n)) (h0 : 0 ≤ k) (h1 : k ≤ 1099511627776) (hn : n ≤ 1048576) :
    Calls Try.prog 26 #[.slice A n c, .int .i64 k] w fun e w' => e = .returned (.int .i64 (k + n)) ∧ Below w.heap.size w w' := by
  refine (heldInts_any A c n B k w h h0 h1 hn).mono ?_
  rintro e w' ⟨rfl, rfl⟩
  exact ⟨rfl, Below.refl _ _⟩

theorem heldNil_any (A : Option Addr) (c : Nat) (k : Int) (w : World) (h0 : 0 ≤ k) (h1 : k ≤ 1099511627776) :
    Calls Try.prog 26 #[.slice A 0 c, .int .i64 k] w fun e w' => e = .returned (.int .i64 k) ∧ Below w.heap.size w w' := by
  have := heldList_any A c 0 0 k w Ints.nil h0 h1 (by omega)
  simpa using this

theorem markNil_any (A : Option Addr) (c : Nat) (k : Int) (w : World) :
    Calls Try.prog 25 #[.slice A 0 c, .int .i64 k] w fun e w' => e = .returned (.int .i64 k) ∧ Below w.heap.size w w' := by
  go_enter Try.func25, Try.ntmps25
  go_wp2
  go_loop [1, 5] (fun kk i => i = .int .i64 0 ∧ kk = .int .i64 k) (fun _ _ => 0)
  case atStart => exact ⟨rfl, rfl⟩
  case round =>
    obtain ⟨rfl, rfl⟩ := hrel
    go_wp2
    go_ret
    exact ⟨rfl, Below.refl _ _⟩

/-- A list of numbers in new memory (at least one), and a code. -/
def GivesSome (ys : List Int) (k : Int) (w : World) (e : Ending) (w' : World) : Prop :=
  ∃ g cap ex, e = .returned (.tuple #[.slice (some ⟨g, 0, none⟩) ys.length cap, .int .i64 k]) ∧ w.heap.size ≤ g ∧ Below w.heap.size w w' ∧ Row w' g ys ex
/-- A list without a number, and a code. -/
def GivesNone (k : Int) (w : World) (e : Ending) (w' : World) : Prop :=
  ∃ A cap, e = .returned (.tuple #[.slice A 0 cap, .int .i64 k]) ∧ Below w.heap.size w w'
end Go.Proofs.Ythkfdfocghmmeaa
