/- What a statement leaves that puts a function's card and code into two variables, whatever order its operations took: words and lemmas; no function of the program is spoken of. -/
import Derived.Test.YtpklmhffgbgakaaGives
namespace Go.Proofs.Ytpklmhffgbgakaa
open Go.ChangeShapes Go.WideShapes Go.ChangeAt Go.RowKit

/-- A box with a card of new memory, and OK. -/
def BoxedCard (W : World) (ys : List Int) (s t : Value) (wx : World) : Prop :=
  ∃ b g c ex, s = .pointer (some ⟨b, 0, none⟩) ∧ t = .int .i64 0 ∧ Below W.heap.size W wx ∧ W.heap.size ≤ b ∧ W.heap.size ≤ g ∧ b ≠ g ∧ wx.cell? ⟨b, 0, none⟩ = some (.slice (some ⟨g, 0, none⟩) ys.length c) ∧ Row wx g ys ex
/-- A box with no card, and a code. -/
def BoxedNil (W : World) (a : Int) (s t : Value) (wx : World) : Prop :=
  ∃ b, s = .pointer (some ⟨b, 0, none⟩) ∧ t = .int .i64 a ∧ Below W.heap.size W wx ∧ W.heap.size ≤ b ∧ wx.cell? ⟨b, 0, none⟩ = some (.slice none 0 0)

theorem below_drew {w W : World} (h : Below w.heap.size w W) : Below w.heap.size w W.drew := h.drew
theorem below_boxed {w W : World} (h : Below w.heap.size w W) (o : Obj) : Below w.heap.size w (W.alloc o) := h.alloc h.size o
theorem below_stored {w W : World} (h : Below w.heap.size w W) {p : Addr} (hp : w.heap.size ≤ p.block) {u : Value} : Below w.heap.size w (W.setCell p u) := h.setCell hp u
theorem new_cell (w : World) (v : Value) (t : TypeId) : (w.alloc (.cells #[v] t)).cell? ⟨w.heap.size, 0, none⟩ = some v := by simp
theorem new_frozen (w : World) (v : Value) (t : TypeId) : (w.alloc (.cells #[v] t)).frozen? ⟨w.heap.size, 0, none⟩ = false := by simp
theorem frozen_kept {w w' : World} {p : Addr} {v : Value} (h : w.cell? p = some v) (f : w.frozen? p = false) (hb : Below w.heap.size w w') : w'.frozen? p = false := by
  rw [hb.frozen (World.block_lt_of_cell? _ _ h)]
  exact f

section
variable {W W' w : World} {ys : List Int} {g c : Nat} {ex : List Value} {t : TypeId} {a : Int}
theorem boxed_last (h : Below W.heap.size W w) (hr : Row w g ys ex) (hg : W'.heap.size ≤ g) (hs : W.heap.size ≤ W'.heap.size) :
    BoxedCard W ys (.pointer (some ⟨w.heap.size, 0, none⟩)) (.int .i64 0) (w.alloc (.cells #[.slice (some ⟨g, 0, none⟩) ys.length c] t)) :=
  ⟨w.heap.size, g, c, ex, rfl, rfl, below_boxed h _, h.size, Nat.le_trans hs hg, Nat.ne_of_gt hr.lt, new_cell _ _ _, hr.alloc _⟩
theorem boxed_early {b : Nat} {v : Value} (h : Below W.heap.size W w) (hr : Row w g ys ex) (hb : W.heap.size ≤ b) (hc : w.cell? ⟨b, 0, none⟩ = some v) (hlt : b < g) (hg : W.heap.size ≤ g) :
    BoxedCard W ys (.pointer (some ⟨b, 0, none⟩)) (.int .i64 0) (w.setCell ⟨b, 0, none⟩ (.slice (some ⟨g, 0, none⟩) ys.length c)) :=
  ⟨b, g, c, ex, rfl, rfl, below_stored h hb, hb, hg, Nat.ne_of_lt hlt, World.cell?_setCell_same w _ _ hc, hr.far (Nat.ne_of_gt hlt) _⟩
theorem boxedNil_last (h : Below W.heap.size W w) : BoxedNil W a (.pointer (some ⟨w.heap.size, 0, none⟩)) (.int .i64 a) (w.alloc (.cells #[.slice none 0 0] t)) :=
  ⟨w.heap.size, rfl, rfl, below_boxed h _, h.size, new_cell _ _ _⟩
theorem boxedNil_early {b : Nat} {v : Value} (h : Below W.heap.size W w) (hb : W.heap.size ≤ b) (hc : w.cell? ⟨b, 0, none⟩ = some v) :
    BoxedNil W a (.pointer (some ⟨b, 0, none⟩)) (.int .i64 a) (w.setCell ⟨b, 0, none⟩ (.slice none 0 0)) :=
  ⟨b, rfl, rfl, below_stored h hb, hb, World.cell?_setCell_same w _ _ hc⟩
end
end Go.Proofs.Ytpklmhffgbgakaa
