/- A list of passes in memory. -/
import Derived.Test.YtfffdlmpiglojaaDoorMem
namespace Go.Proofs.YtfffdlmpiglojaaDoor
open Go.ChangeShapes Go.WideShapes Go.ChangeAt Go.RowKit

/-- The passes at address A, in a block below B, are P. -/
def Passes (w : World) (B : Nat) (A : Option Addr) (P : List (Int × Int)) : Prop :=
  0 < P.length → ∃ b off, A = some ⟨b, off, none⟩ ∧ b < B ∧ ∀ (k : Nat) (p : Int × Int), P[k]? = some p → w.cell? ⟨b, off + k * 2, none⟩ = some (.int .i64 p.1) ∧ w.cell? ⟨b, off + k * 2 + 1, none⟩ = some (.int .i64 p.2)
theorem Passes.below {w w' : World} {B : Nat} {A : Option Addr} {P : List (Int × Int)} (h : Passes w B A P) (hb : Below B w w') : Passes w' B A P := fun h0 => by
  obtain ⟨b, off, rfl, hlt, hc⟩ := h h0
  exact ⟨b, off, rfl, hlt, fun k p hk => ⟨(hb.cell hlt).trans (hc k p hk).1, (hb.cell hlt).trans (hc k p hk).2⟩⟩
end Go.Proofs.YtfffdlmpiglojaaDoor
