/- Words for what a function gives that answers a card and a code; spec.BlankCard and impl.BlankCard give a card without holes, or the code of a wrong width, for every width: contracts. -/
import Derived.Test.YtpklmhffgbgakaaMarks
import Derived.Test.YtpklmhffgbgakaaValid
namespace Go.Proofs.Ytpklmhffgbgakaa
open Go.ChangeShapes Go.WideShapes Go.ChangeAt Go.RowKit

/-- A card of new memory with the numbers ys, and OK. -/
def GivesCard (ys : List Int) (w : World) (e : Ending) (w' : World) : Prop :=
  ∃ g cap ex, e = .returned (.tuple #[.agg #[.slice (some ⟨g, 0, none⟩) ys.length cap], .int .i64 0]) ∧ w.heap.size ≤ g ∧ Below w.heap.size w w' ∧ Row w' g ys ex
/-- No card, and a code. -/
def GivesCode (a : Int) (w : World) (e : Ending) (w' : World) : Prop :=
  e = .returned (.tuple #[.agg #[.slice none 0 0], .int .i64 a]) ∧ Below w.heap.size w w'

theorem Row.sub {w : World} {g : Nat} {xs ys : List Int} {ex ex' : List Value} (h : Row w g xs ex) (e : (xs.map (Value.int .i64)) ++ ex = (ys.map (Value.int .i64)) ++ ex') : Row w g ys ex' := by
  unfold Row at h ⊢
  rw [h, e]

theorem Row.new_at {w : World} {g : Nat} (xs : List Int) (ex : List Value) (hg : g = w.heap.size) : Row (w.alloc (.cells ((xs.map (Value.int .i64)) ++ ex).toArray 2)) g xs ex := by
  subst hg
  exact heap_alloc_new w _

end Go.Proofs.Ytpklmhffgbgakaa