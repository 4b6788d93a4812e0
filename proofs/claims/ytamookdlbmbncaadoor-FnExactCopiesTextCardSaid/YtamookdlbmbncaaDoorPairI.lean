/- impl's pair.punched: the columns that copies punch: a contract. -/
import Derived.Test.YtamookdlbmbncaaDoorPunchC
import Derived.Test.YtamookdlbmbncaaDoorBoxed
namespace Go.Proofs.YtamookdlbmbncaaDoor
open Go.ChangeShapes Go.WideShapes Go.ChangeAt Go.RowKit

theorem copy_box (W : World) (p q : Int) : (W.alloc (.cells #[.int .i64 p, .int .i64 q] 70)).cell? ⟨W.heap.size, 0, none⟩ = some (.int .i64 p) ∧ (W.alloc (.cells #[.int .i64 p, .int .i64 q] 70)).cell? ⟨W.heap.size, 1, none⟩ = some (.int .i64 q) := by simp

theorem frozen_onlyP {w w' : World} {g : Nat} (h : w.grownBy w' (some g)) {p : Addr} {v : Value} (hc : w.cell? p = some v) (f : w.frozen? p = false) (hne : p.block ≠ g) : w'.frozen? p = false := by
  rw [World.frozen?_of_block (h.block p.block (World.block_lt_of_cell? _ _ hc) (fun e => hne (by injection e)))]
  exact f

end Go.Proofs.YtamookdlbmbncaaDoor