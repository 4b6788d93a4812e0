/- Cards in memory of their own, as laws about lists and cards want them: copies, comparisons, marks: contracts. -/
import Derived.Test.YtkiphejkgpfjjaaDoorIntsAt
import Derived.Test.YtkiphejkgpfjjaaDoorLaw
import Derived.Test.YtkiphejkgpfjjaaDoorBoxed
namespace Go.Proofs.YtkiphejkgpfjjaaDoor
open Go.ChangeShapes Go.WideShapes Go.ChangeAt Go.RowKit

theorem IAt.drew {w : World} {lo hi : Nat} {A : Option Addr} {L : List Int} (h : IAt w lo hi A L) : IAt w.drew lo hi A L := ⟨h.top, h.room⟩
/-- a card of one's own and a code -/
def GivesKC (L : List Int) (code : Int) (w : World) (e : Ending) (w' : World) : Prop :=
  ∃ A cap, e = .returned (.tuple #[.agg #[.slice A L.length cap], .int .i64 code]) ∧ Below w.heap.size w w' ∧ IAt w' w.heap.size w'.heap.size A L

theorem GivesCard.kc {L : List Int} {w w' : World} {e : Ending} (h : GivesCard L w e w') : GivesKC L 0 w e w' := by
  obtain ⟨g, cap, ex, he, hg, hb, hr⟩ := h
  exact ⟨some ⟨g, 0, none⟩, cap, he, hb, fun _ => ⟨g, ex, rfl, hg, hr.lt, hr⟩, Nat.le_refl _⟩

theorem GivesCode.kc {a : Int} {w w' : World} {e : Ending} (h : GivesCode a w e w') : GivesKC [] a w e w' := ⟨none, 0, h.1, h.2, fun h => absurd h (by simp), Nat.le_refl _⟩
end Go.Proofs.YtkiphejkgpfjjaaDoor
