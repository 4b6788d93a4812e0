/- Words on memory that the proofs of this seat use: a slice of int64 that reads as a list; a block that holds a list. No function of the program is spoken of. -/
import Derived.Test.YtpklmhffgbgakaaRows
import Derived.WalkKit
import Derived.ProofKit
import Derived.OpenShut
import Derived.WalkSpells
import Derived.Carry
import Derived.Lib.Hide
import Derived.Deep.Draws
import Derived.Deep.OwnRows
import Derived.Laws.Rows
import Derived.Laws.MakeOwn
namespace Go.Proofs.Ytpklmhffgbgakaa
open Go.ChangeShapes Go.WideShapes Go.ChangeAt Go.RowKit

/-- The int64s at address A, in a block below B, are xs. -/
def Ints (w : World) (B : Nat) (A : Option Addr) (xs : List Int) : Prop :=
  0 < xs.length → ∃ b off, A = some ⟨b, off, none⟩ ∧ b < B ∧ ∀ i, i < xs.length → w.cell? ⟨b, off + i, none⟩ = some (.int .i64 (xs[i]?.getD 0))

/-- Block g holds xs, then ex. -/
def Row (w : World) (g : Nat) (xs : List Int) (ex : List Value) : Prop :=
  w.heap[g]? = some (.cells ((xs.map (Value.int .i64)) ++ ex).toArray 2 (0, 0))

section
variable {w w' : World} {B B' : Nat} {A : Option Addr} {xs : List Int} {g : Nat} {ex : List Value}

theorem Ints.nil : Ints w B A [] := fun h => absurd h (by simp)

theorem Ints.moved (h : Ints w B A xs) (hk : ∀ p : Addr, p.block < B → w'.cell? p = w.cell? p) : Ints w' B A xs := fun hn => by
  obtain ⟨b, off, rfl, hb, hc⟩ := h hn
  exact ⟨b, off, rfl, hb, fun i hi => (hk ⟨b, off + i, none⟩ hb).trans (hc i hi)⟩
theorem Ints.more (h : Ints w B A xs) (hB : B ≤ B') : Ints w B' A xs := fun hn => by
  obtain ⟨b, off, rfl, hb, hc⟩ := h hn
  exact ⟨b, off, rfl, by omega, hc⟩
theorem Ints.below (h : Ints w B A xs) (hb : Below B w w') : Ints w' B A xs := h.moved fun _ hp => hb.cell hp
theorem Ints.drew (h : Ints w B A xs) : Ints w.drew B A xs := h
theorem Ints.drewN (h : Ints w B A xs) (n : Nat) : Ints (w.drewN n) B A xs := h
theorem Ints.alloc (h : Ints w B A xs) (hB : B ≤ w.heap.size) (o : Obj) : Ints (w.alloc o) B A xs := h.moved fun p hp => World.cell?_alloc_lt w o p (by omega)

theorem Row.lt (h : Row w g xs ex) : g < w.heap.size := by
  rcases Nat.lt_or_ge g w.heap.size with hlt | hge
  · exact hlt
  · unfold Row at h
    rw [Array.getElem?_eq_none hge] at h
    cases h
theorem Row.cell (h : Row w g xs ex) {i : Nat} (hi : i < xs.length) : w.cell? ⟨g, i, none⟩ = some (.int .i64 (xs[i]?.getD 0)) := by
  rw [cell_of_row w g i _ _ _ h]
  simp [List.getElem?_append_left, hi]
theorem Row.frozen (h : Row w g xs ex) (i : Nat) : w.frozen? ⟨g, i, none⟩ = false := by
  unfold Row at h
  simp [World.frozen?, h]
theorem Row.ints (h : Row w g xs ex) : Ints w (g + 1) (some ⟨g, 0, none⟩) xs := fun _ => ⟨g, 0, rfl, by omega, fun i hi => by rw [Nat.zero_add]; exact h.cell hi⟩
theorem Row.drew (h : Row w g xs ex) : Row w.drew g xs ex := h
theorem Row.drewN (h : Row w g xs ex) (n : Nat) : Row (w.drewN n) g xs ex := h
theorem Row.alloc (h : Row w g xs ex) (o : Obj) : Row (w.alloc o) g xs ex := (Below.heap_alloc w o g h.lt).trans h
theorem Row.far (h : Row w g xs ex) {p : Addr} (hp : g ≠ p.block) (u : Value) : Row (w.setCell p u) g xs ex := (Below.heap_setCell w p u g hp).trans h
theorem Row.below (h : Row w g xs ex) (hb : Below B w w') (hg : g < B) : Row w' g xs ex := (hb.block g hg).trans h
theorem Row.set {i : Nat} (h : Row w g xs ex) (hi : i < xs.length) (u : Int) : Row (w.setCell ⟨g, i, none⟩ (.int .i64 u)) g (xs.set i u) ex := by
  unfold Row at h ⊢
  simp only [World.setCell, Array.getElem?_modify, if_true, h, Option.map_some]
  congr 2
  apply Array.ext'
  simp [List.map_set, List.set_append_left, hi]
end

/-- What a call may have done: below B nothing has turned. -/
theorem below_drewN {B : Nat} {a w : World} (h : Below B a w) (n : Nat) : Below B a (w.drewN n) := ⟨h.os, h.tape, h.output, h.size, h.block⟩

theorem Row.later {w w' : World} {g : Nat} {xs : List Int} {ex : List Value} (h : Row w g xs ex) (hb : Below w.heap.size w w') : Row w' g xs ex := h.below hb h.lt
theorem cell_kept {w w' : World} {p : Addr} {v : Value} (h : w.cell? p = some v) (hb : Below w.heap.size w w') : w'.cell? p = some v := by
  rw [hb.cell (World.block_lt_of_cell? _ _ h)]
  exact h
theorem below_step {w W w' : World} (h : Below w.heap.size w W) (hb : Below W.heap.size W w') : Below w.heap.size w w' := h.trans (hb.mono h.size)
theorem below_box (w : World) (o : Obj) : Below w.heap.size w (w.alloc o) := (Below.refl _ _).alloc (Nat.le_refl _) _

/-- Cells and marks below B read as before: in the form that a walk takes for rules. -/
theorem below_reads {B : Nat} {w w' : World} (h : Below B w w') : (∀ b o, b < B → w'.cell? ⟨b, o, none⟩ = w.cell? ⟨b, o, none⟩) ∧ (∀ b o, b < B → w'.frozen? ⟨b, o, none⟩ = w.frozen? ⟨b, o, none⟩) :=
  ⟨fun b o hb => h.cell (p := ⟨b, o, none⟩) hb, fun b o hb => h.frozen (p := ⟨b, o, none⟩) hb⟩

section
variable {a b c w w' : World} {g : Nat}
/-- Only block g, and what is new, may have turned. -/
theorem only_step (h : a.grownBy b (some g)) (k : b.grownBy c (some g)) : a.grownBy c (some g) :=
  ⟨k.os.trans h.os, k.tape.trans h.tape, k.output.trans h.output, Nat.le_trans h.size k.size, fun i hi hne => (k.block i (Nat.lt_of_lt_of_le hi h.size) hne).trans (h.block i hi hne)⟩
theorem only_box (w : World) (o : Obj) (g : Nat) : w.grownBy (w.alloc o) (some g) := ⟨rfl, rfl, rfl, by simp, fun i hi _ => Below.heap_alloc w o i hi⟩
theorem only_set (w : World) (g i : Nat) (u : Value) : w.grownBy (w.setCell ⟨g, i, none⟩ u) (some g) :=
  ⟨rfl, rfl, rfl, by simp [World.setCell], fun j _ hne => Below.heap_setCell w _ u j (by rintro rfl; exact hne rfl)⟩
theorem cell_only (h : w.grownBy w' (some g)) {p : Addr} {v : Value} (hc : w.cell? p = some v) (hne : p.block ≠ g) : w'.cell? p = some v := by
  rw [World.cell?_of_block (h.block p.block (World.block_lt_of_cell? _ _ hc) (fun e => hne (by injection e)))]
  exact hc
theorem Row.only {xs : List Int} {ex : List Value} {j : Nat} (h : w.grownBy w' (some g)) (hr : Row w j xs ex) (hne : j ≠ g) : Row w' j xs ex :=
  (h.block j hr.lt (fun e => hne (by injection e))).trans hr
theorem below_only {w0 : World} (hb : Below w0.heap.size w0 w) (h : w.grownBy w' (some g)) (hg : w0.heap.size ≤ g) : Below w0.heap.size w0 w' :=
  hb.grown h hb.size (fun k hk => by injection hk with hk; omega)
end

end Go.Proofs.Ytpklmhffgbgakaa
