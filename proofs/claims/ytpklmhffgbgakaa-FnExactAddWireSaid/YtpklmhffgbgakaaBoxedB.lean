/- What a statement leaves that puts a function's board and code into two variables, whatever order its operations took: words and lemmas; no function of the program is spoken of. -/
import Derived.Test.YtpklmhffgbgakaaRemoveS
namespace Go.Proofs.Ytpklmhffgbgakaa
open Go.ChangeShapes Go.WideShapes Go.ChangeAt Go.RowKit

/-- A box with a board of new memory, and a code. -/
def BoxedB (W : World) (e n j : Int) (X : List (Int × Int)) (nX : Nat) (v : Int) (s t : Value) (wx : World) : Prop :=
  ∃ b A c lo hi, s = .pointer (some ⟨b, 0, none⟩) ∧ t = .int .i64 v ∧ Below W.heap.size W wx ∧ Bbox wx b e n j (.slice A nX c) ∧ WAt wx lo hi A X ∧ W.heap.size ≤ b ∧ W.heap.size ≤ lo ∧ lo ≤ hi ∧ (b < lo ∨ hi ≤ b)
section
variable {W w w' : World} {e n j : Int} {X : List (Int × Int)} {nX c lo hi : Nat} {v : Int} {A : Option Addr}
theorem Bbox.set4 {b : Nat} {e0 n0 j0 : Int} {s0 : Value} (h : Bbox w b e0 n0 j0 s0) (e n j : Int) (s : Value) : Bbox ((((w.setCell ⟨b, 0, none⟩ (.int .i64 e)).setCell ⟨b, 1, none⟩ (.int .i64 n)).setCell ⟨b, 2, none⟩ (.int .i64 j)).setCell ⟨b, 3, none⟩ s) b e n j s := by
  unfold Bbox at h ⊢
  simp [World.setCell, Array.getElem?_modify, h]
theorem below_stored4 {b N : Nat} {x0 x1 x2 x3 : Value} (h : Below N W w) (hb : N ≤ b) : Below N W ((((w.setCell ⟨b, 0, none⟩ x0).setCell ⟨b, 1, none⟩ x1).setCell ⟨b, 2, none⟩ x2).setCell ⟨b, 3, none⟩ x3) :=
  (((h.setCell (p := ⟨b, 0, none⟩) hb _).setCell (p := ⟨b, 1, none⟩) hb _).setCell (p := ⟨b, 2, none⟩) hb _).setCell (p := ⟨b, 3, none⟩) hb _
theorem boxedB_last (h : Below W.heap.size W w) (ho : WAt w lo hi A X) (hlo : W.heap.size ≤ lo) (hlh : lo ≤ hi) : BoxedB W e n j X nX v (.pointer (some ⟨w.heap.size, 0, none⟩)) (.int .i64 v) (w.alloc (.cells #[.int .i64 e, .int .i64 n, .int .i64 j, .slice A nX c] 29)) :=
  ⟨w.heap.size, A, c, lo, hi, rfl, rfl, below_boxed h _, bbox_new _ _ _ _ _, ho.later (below_box _ _), h.size, hlo, hlh, Or.inr ho.room⟩
theorem boxedB_early {b : Nat} {e0 n0 j0 : Int} {s0 : Value} (h : Below W.heap.size W w) (hb : Bbox w b e0 n0 j0 s0) (ho : WAt w lo hi A X) (hW : W.heap.size ≤ b) (hlt : b < lo) (hlh : lo ≤ hi) :
    BoxedB W e n j X nX v (.pointer (some ⟨b, 0, none⟩)) (.int .i64 v) ((((w.setCell ⟨b, 0, none⟩ (.int .i64 e)).setCell ⟨b, 1, none⟩ (.int .i64 n)).setCell ⟨b, 2, none⟩ (.int .i64 j)).setCell ⟨b, 3, none⟩ (.slice A nX c)) :=
  ⟨b, A, c, lo, hi, rfl, rfl, (((h.setCell (p := ⟨b, 0, none⟩) hW _).setCell (p := ⟨b, 1, none⟩) hW _).setCell (p := ⟨b, 2, none⟩) hW _).setCell (p := ⟨b, 3, none⟩) hW _, hb.set4 e n j _, (((ho.far (p := ⟨b, 0, none⟩) hlt _).far (p := ⟨b, 1, none⟩) hlt _).far (p := ⟨b, 2, none⟩) hlt _).far (p := ⟨b, 3, none⟩) hlt _, hW, Nat.le_trans hW (Nat.le_of_lt hlt), hlh, Or.inl hlt⟩
end
end Go.Proofs.Ytpklmhffgbgakaa
