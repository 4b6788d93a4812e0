/- spec.PunchText and impl.PunchText give the card with a text, or the code, for every text of at most 1048576 bytes and every width: contracts, of (columns).write too. -/
import Derived.Test.YtamookdlbmbncabDoorCodes
import Derived.Test.YtamookdlbmbncabDoorGives
import Derived.Test.YtamookdlbmbncabDoorSent2
import Derived.Lib.OthersKept
import Derived.Laws.RangeAny
import Derived.Laws.NewDeep
namespace Go.Proofs.YtamookdlbmbncabDoor
open Go.ChangeShapes Go.WideShapes Go.ChangeAt Go.RowKit

/-- the numbers of the holes of a text's bytes -/
def textCodes (s : ByteArray) : List Int := s.data.toList.map fun b => codeS (b.toNat : Int)
def legalT (s : ByteArray) : Bool := (textCodes s).all fun c => decide (0 ≤ c)
/-- what the columns hold after k bytes -/
def punchTo (s : ByteArray) (n k : Nat) : List Int := (textCodes s).take k ++ List.replicate (n - k) 0
theorem textCodes_length (s : ByteArray) : (textCodes s).length = s.size := by simp [textCodes]
theorem textCodes_get (s : ByteArray) (k : Nat) (h : k < s.size) : (textCodes s)[k]? = some (codeS ((s[k]'h).toNat : Int)) := by
  have h' : k < s.data.toList.length := by simpa using h
  rw [textCodes, List.getElem?_map, List.getElem?_eq_getElem h']
  rfl
theorem punchTo_length (s : ByteArray) (n k : Nat) (h1 : k ≤ s.size) (h2 : s.size ≤ n) : (punchTo s n k).length = n := by
  simp [punchTo, textCodes_length]
  omega
theorem punchTo_zero (s : ByteArray) (n : Nat) : punchTo s n 0 = List.replicate n 0 := by simp [punchTo]
theorem punchTo_set (s : ByteArray) (n k : Nat) (h : k < s.size) (h2 : s.size ≤ n) (x : Int) (hx : codeS ((s[k]'h).toNat : Int) = x) : (punchTo s n k).set k x = punchTo s n (k + 1) := by
  have hl := textCodes_length s
  have hg := textCodes_get s k h
  have h1 : ((textCodes s).take k).length = k := by simp [hl]; omega
  have e : n - k = (n - (k + 1)) + 1 := by omega
  rw [punchTo, List.set_append_right _ _ (by omega), h1, Nat.sub_self, e, List.replicate_succ, List.set_cons_zero, punchTo,
    List.take_succ_eq_append_getElem (by omega), List.append_assoc]
  rw [List.getElem?_eq_getElem (by omega)] at hg
  injection hg with hg
  rw [hg, hx]
  rfl
theorem legalT_bad (s : ByteArray) (k : Nat) (h : k < s.size) (hx : codeS ((s[k]'h).toNat : Int) < 0) : legalT s = false := by
  have hg := textCodes_get s k h
  rw [legalT, List.all_eq_false]
  exact ⟨_, List.mem_of_getElem? hg, by simpa using hx⟩
def legalTo (s : ByteArray) (k : Nat) : Prop := ∀ j (h : j < s.size), j < k → 0 ≤ codeS ((s[j]'h).toNat : Int)
theorem legalTo_zero (s : ByteArray) : legalTo s 0 := fun _ _ h => absurd h (by omega)
theorem legalTo_step {s : ByteArray} {k : Nat} (h : legalTo s k) (hk : k < s.size) (hx : 0 ≤ codeS ((s[k]'hk).toNat : Int)) : legalTo s (k + 1) := fun j hj hjk => by
  by_cases e : j = k
  · subst e
    exact hx
  · exact h j hj (by omega)
theorem legalT_all {s : ByteArray} (h : legalTo s s.size) : legalT s = true := by
  rw [legalT, List.all_eq_true]
  intro x hx
  obtain ⟨j, hj, e⟩ := List.getElem_of_mem hx
  rw [textCodes_length] at hj
  have hg := textCodes_get s j hj
  rw [List.getElem?_eq_getElem (by rw [textCodes_length]; exact hj), e] at hg
  injection hg with hg
  rw [hg]
  simpa using h j hj hj
theorem codeS_high (c : Int) (h : 91 ≤ c) : codeS c = -1 := by
  unfold codeS
  rw [if_neg (by omega), if_neg (by omega), if_neg (by omega), if_neg (by omega), if_neg (by omega), if_neg (by omega), if_neg (by omega), if_neg (by omega)]

def punchCode (s : ByteArray) (width : Int) : Int := if inB width 1 20 = false then 2 else if width < s.size then 5 else if legalT s = false then 7 else 0

theorem frozen_only' {w w' : World} {g : Nat} (h : w.grownBy w' (some g)) {p : Addr} {v : Value} (hc : w.cell? p = some v) (f : w.frozen? p = false) (hne : p.block ≠ g) : w'.frozen? p = false := by
  rw [World.frozen?_of_block (h.block p.block (World.block_lt_of_cell? _ _ hc) (fun e => hne (by injection e)))]
  exact f

/-- the card of a text, or the code of a byte that is no character -/
def GivesText (s : ByteArray) (n : Nat) (w : World) (e : Ending) (w' : World) : Prop :=
  (legalT s = true ∧ GivesCard (punchTo s n s.size) w e w') ∨ (legalT s = false ∧ GivesCode 7 w e w')

theorem only_iterAt {w wr : World} {g b : Nat} (h : w.grownBy wr (some g)) (hb : w.heap.size ≤ b) (s : ByteArray) (p : Nat) : w.grownBy (wr.iterAt b s p) (some g) :=
  ⟨h.os, h.tape, h.output, by rw [Lib.iterAt_size]; exact h.size, fun i hi hne => by rw [Lib.iterAt_other _ _ _ _ _ (by omega)]; exact h.block i hi hne⟩
theorem Row.iterAt {w : World} {g b : Nat} {xs : List Int} {ex : List Value} (h : Row w g xs ex) (hb : g ≠ b) (s : ByteArray) (p : Nat) : Row (w.iterAt b s p) g xs ex :=
  (Lib.iterAt_other w b g s p hb).trans h

theorem cell_put {w : World} {p : Addr} {v : Value} (h : w.cell? p = some v) (u : Value) : (w.setCell p u).cell? p = some u :=
  World.cell?_setCell_same w p u h
/-- a cell of an old block, written, behind a new block -/
theorem cell_put_alloc {w : World} {p : Addr} {v : Value} (h : w.cell? p = some v) (u : Value) (o : Obj) : ((w.setCell p u).alloc o).cell? p = some u := by
  rw [World.cell?_alloc_lt _ _ _ (by simp [World.setCell]; exact World.block_lt_of_cell? _ _ h)]
  exact cell_put h u

end Go.Proofs.YtamookdlbmbncabDoor