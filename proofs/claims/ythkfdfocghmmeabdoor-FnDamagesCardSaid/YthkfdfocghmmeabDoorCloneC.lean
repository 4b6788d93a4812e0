/- slices.Clone (at []int64) gives a slice whose capacity is no less than its length: a contract. -/
import Derived.Test.YthkfdfocghmmeabDoorOwn
namespace Go.Proofs.YthkfdfocghmmeabDoor
open Go.ChangeShapes Go.WideShapes Go.ChangeAt Go.RowKit

/-- A slice of new memory with the numbers ys, and no less room. -/
def GivesIntsC (ys : List Int) (w : World) (e : Ending) (w' : World) : Prop :=
  ∃ g cap ex, e = .returned (.slice (some ⟨g, 0, none⟩) ys.length cap) ∧ ys.length ≤ cap ∧ cap ≤ maxLen ∧ w.heap.size ≤ g ∧ Below w.heap.size w w' ∧ Row w' g ys ex
theorem owned_rowC {w : World} {base n : Nat} {v : Value} {xs : List Int} (h : w.ownsRow base 2 1 v n (xs.map (Value.int .i64))) (hn : 0 < n) (hl : xs.length = n) :
    ∃ g cap ex, v = .slice (some ⟨g, 0, none⟩) xs.length cap ∧ xs.length ≤ cap ∧ cap ≤ maxLen ∧ base ≤ g ∧ Row w g xs ex := by
  rcases h.2 with ⟨_, h0⟩ | ⟨g, cap, cur, hv, hb, hh, h1, h2, h3, ht⟩
  · omega
  · refine ⟨g, cap, cur.toList.drop n, by rw [hl]; exact hv, by rw [hl]; exact h1, h2, hb, ?_⟩
    unfold Row
    rw [hh]
    congr 2
    apply Array.ext'
    rw [← List.take_append_drop n cur.toList, ← ht, Nat.mul_one]
    simp

end Go.Proofs.YthkfdfocghmmeabDoor