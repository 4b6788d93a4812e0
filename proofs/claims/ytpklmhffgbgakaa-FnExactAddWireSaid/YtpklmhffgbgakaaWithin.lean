/- What may have turned between two worlds: nothing but blocks of an interval. No function of the program is spoken of. -/
import Derived.Test.YtpklmhffgbgakaaMem
namespace Go.Proofs.Ytpklmhffgbgakaa
open Go.ChangeShapes Go.WideShapes Go.ChangeAt Go.RowKit

/-- From w to w' nothing turns but blocks from lo up to hi. -/
structure Within (lo hi : Nat) (w w' : World) : Prop where
  os : w'.os = w.os
  tape : w'.tape = w.tape
  output : w'.output = w.output
  size : w.heap.size ≤ w'.heap.size
  block : ∀ b, b < w.heap.size → (b < lo ∨ hi ≤ b) → w'.heap[b]? = w.heap[b]?
theorem Within.refl (lo hi : Nat) (w : World) : Within lo hi w w := ⟨rfl, rfl, rfl, Nat.le_refl _, fun _ _ _ => rfl⟩
theorem Within.trans {lo hi : Nat} {a b c : World} (h : Within lo hi a b) (k : Within lo hi b c) : Within lo hi a c :=
  ⟨k.os.trans h.os, k.tape.trans h.tape, k.output.trans h.output, Nat.le_trans h.size k.size, fun x hx hy => (k.block x (Nat.lt_of_lt_of_le hx h.size) hy).trans (h.block x hx hy)⟩
theorem Within.cell {lo hi : Nat} {w w' : World} (h : Within lo hi w w') {p : Addr} {v : Value} (hc : w.cell? p = some v) (hp : p.block < lo ∨ hi ≤ p.block) : w'.cell? p = some v := by
  have hb := World.block_lt_of_cell? _ _ hc
  unfold World.cell? at hc ⊢
  rw [h.block _ hb hp]
  exact hc
theorem Within.row {lo hi : Nat} {w w' : World} (h : Within lo hi w w') {g : Nat} {xs : List Int} {ex : List Value} (hr : Row w g xs ex) (hg : g < lo ∨ hi ≤ g) : Row w' g xs ex := (h.block g hr.lt hg).trans hr
theorem below_within {w W w' : World} {lo hi : Nat} (h : Below w.heap.size w W) (k : Within lo hi W w') (hlo : w.heap.size ≤ lo) : Below w.heap.size w w' :=
  ⟨k.os.trans h.os, k.tape.trans h.tape, k.output.trans h.output, Nat.le_trans h.size k.size, fun b hb => (k.block b (Nat.lt_of_lt_of_le hb h.size) (Or.inl (by omega))).trans (h.block b hb)⟩
theorem Within.set {lo hi : Nat} {w w' : World} (h : Within lo hi w w') {p : Addr} (hl : lo ≤ p.block) (hh : p.block < hi) (u : Value) : Within lo hi w (w'.setCell p u) :=
  ⟨h.os, h.tape, h.output, by simpa [World.setCell] using h.size, fun b hb hx => (Below.heap_setCell w' p u b (by omega)).trans (h.block b hb hx)⟩
theorem Within.cells {lo hi : Nat} {w w' : World} (h : Within lo hi w w') {g : Nat} {o : Obj} (hr : w.heap[g]? = some o) (hg : g < lo ∨ hi ≤ g) : w'.heap[g]? = some o := by
  rw [h.block g ?_ hg]
  · exact hr
  · rcases Nat.lt_or_ge g w.heap.size with hlt | hge
    · exact hlt
    · rw [Array.getElem?_eq_none hge] at hr
      cases hr
end Go.Proofs.Ytpklmhffgbgakaa
