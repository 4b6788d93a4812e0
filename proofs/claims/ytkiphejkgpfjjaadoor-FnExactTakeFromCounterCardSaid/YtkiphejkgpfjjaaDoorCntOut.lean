/- A loop that appends numbers to the list in a box: what it keeps, and what a round leaves; spec.ComplementOf and impl.ComplementOf: contracts. -/
import Derived.Test.YtkiphejkgpfjjaaDoorCntReg
import Derived.Test.YtkiphejkgpfjjaaDoorOwnMem
import Derived.Test.YtkiphejkgpfjjaaDoorStepOwn
import Derived.Test.YtkiphejkgpfjjaaDoorOwn
import Derived.Deep.RegionLaw
import Derived.StillTailTactics
namespace Go.Proofs.YtkiphejkgpfjjaaDoor
open Go.ChangeShapes Go.WideShapes Go.ChangeAt Go.RowKit

/-- Since w0 nothing has turned but the box p, whose list l is the call's own. -/
structure Out (w0 wr : World) (p : Nat) (l : List Int) (v : Value) : Prop where
  os : wr.os = w0.os
  tape : wr.tape = w0.tape
  output : wr.output = w0.output
  size : w0.heap.size ≤ wr.heap.size
  lt : p < w0.heap.size
  keep : ∀ j, j < w0.heap.size → j ≠ p → wr.heap[j]? = w0.heap[j]?
  box : wr.cell? ⟨p, 0, none⟩ = some v
  fz : wr.frozen? ⟨p, 0, none⟩ = false
  own : wr.ownsRow w0.heap.size 2 1 v l.length (l.map (Value.int .i64))

section
variable {w w0 wr w9 : World} {p : Nat} {l : List Int} {v v' : Value}
theorem Out.start (hp : w0.cell? ⟨p, 0, none⟩ = some (.slice none 0 0)) (hf : w0.frozen? ⟨p, 0, none⟩ = false) : Out w0 w0 p [] (.slice none 0 0) :=
  ⟨rfl, rfl, rfl, Nat.le_refl _, World.block_lt_of_cell? _ _ hp, fun _ _ _ => rfl, hp, hf, ⟨rfl, Or.inl ⟨rfl, rfl⟩⟩⟩
theorem Out.drew (h : Out w0 wr p l v) : Out w0 wr.drew p l v := ⟨h.os, h.tape, h.output, h.size, h.lt, h.keep, h.box, h.fz, h.own⟩
theorem Out.cell (h : Out w0 wr p l v) {q : Addr} {u : Value} (hc : w0.cell? q = some u) (hne : q.block ≠ p) : wr.cell? q = some u := by
  rw [World.cell?_of_block (h.keep q.block (World.block_lt_of_cell? _ _ hc) hne)]
  exact hc
theorem Out.frozen (h : Out w0 wr p l v) {q : Addr} {u : Value} (hc : w0.cell? q = some u) (hf : w0.frozen? q = false) (hne : q.block ≠ p) : wr.frozen? q = false :=
  frozen_block (h.keep q.block (World.block_lt_of_cell? _ _ hc) hne) hf
theorem Out.below (h : Out w0 wr p l v) (hb : Below w.heap.size w w0) (hp : w.heap.size ≤ p) : Below w.heap.size w wr :=
  ⟨h.os.trans hb.os, h.tape.trans hb.tape, h.output.trans hb.output, Nat.le_trans hb.size h.size, fun j hj => (h.keep j (Nat.lt_of_lt_of_le hj hb.size) (by omega)).trans (hb.block j hj)⟩
/-- What an append of one number to the box's list leaves. -/
theorem Out.more (h : Out w0 wr p l v) {x : Int} (hown : w9.ownsRow w0.heap.size 2 1 v' (l.length + 1) (l.map (Value.int .i64) ++ [.int .i64 x])) (hgrow : (wr.alloc (.cells #[.int .i64 x] 2)).grownBy w9 v.ownBlock) :
    Out w0 (w9.setCell ⟨p, 0, none⟩ v') p (l ++ [x]) v' ∧ w9.cell? ⟨p, 0, none⟩ = some v ∧ w9.frozen? ⟨p, 0, none⟩ = false := by
  have hp : p < wr.heap.size := Nat.lt_of_lt_of_le h.lt h.size
  have hb := append_block hgrow h.own (i := p) hp h.lt
  have c9 := cell_block (p := ⟨p, 0, none⟩) hb h.box
  have f9 := frozen_block (p := ⟨p, 0, none⟩) hb h.fz
  refine ⟨⟨hgrow.os.trans h.os, hgrow.tape.trans h.tape, hgrow.output.trans h.output, ?_, h.lt, fun j hj hne => ?_, cell_put c9 _, ?_, ?_⟩, c9, f9⟩
  · have := append_size hgrow
    have := h.size
    simp only [World.setCell, Array.size_modify]
    omega
  · rw [Below.heap_setCell w9 _ _ j (by show j ≠ p; exact hne), append_block hgrow h.own (i := j) (Nat.lt_of_lt_of_le hj h.size) hj]
    exact h.keep j hj hne
  · exact (World.frozen?_setCell _ _ _ _).trans f9
  · have := own_far hown ⟨p, 0, none⟩ v' h.lt
    simpa using this
/-- what the box holds in the end -/
theorem Out.row (h : Out w0 wr p l v) (h0 : 0 < l.length) : ∃ g cap ex, v = .slice (some ⟨g, 0, none⟩) l.length cap ∧ w0.heap.size ≤ g ∧ Row wr g l ex := by
  obtain ⟨g, cap, ex, hv, hg, hr⟩ := owned_row h.own h0 rfl
  exact ⟨g, cap, ex, hv, hg, hr⟩
end

end Go.Proofs.YtkiphejkgpfjjaaDoor
