/- The laws' helpers that write marks into a slice of strings and look for them again do so: contracts of laws.markStringS, heldStringS, for slices of at most 1048576 elements. -/
import Derived.Test.YtjfogadcedgndaaMarkText
import Derived.Deep.RegionHeld3
namespace Go.Proofs.Ytjfogadcedgndaa
open Go.ChangeShapes Go.WideShapes Go.ChangeAt Go.RowKit

/-- Block g holds ss, then ex. -/
def TRow (w : World) (g : Nat) (ss : List ByteArray) (ex : List Value) : Prop :=
  w.heap[g]? = some (.cells ((ss.map Value.string) ++ ex).toArray 9 (0, 0))

section
variable {w w' : World} {g : Nat} {ss : List ByteArray} {ex : List Value}
theorem TRow.lt (h : TRow w g ss ex) : g < w.heap.size := by
  rcases Nat.lt_or_ge g w.heap.size with hlt | hge
  · exact hlt
  · unfold TRow at h
    rw [Array.getElem?_eq_none hge] at h
    cases h
theorem TRow.cell (h : TRow w g ss ex) {i : Nat} {s : ByteArray} (hi : ss[i]? = some s) : w.cell? ⟨g, i, none⟩ = some (.string s) := by
  obtain ⟨h1, rfl⟩ := List.getElem?_eq_some_iff.1 hi
  rw [cell_of_row w g i _ _ _ h]
  simp [List.getElem?_append_left, h1]
theorem TRow.frozen (h : TRow w g ss ex) (i : Nat) : w.frozen? ⟨g, i, none⟩ = false := by
  unfold TRow at h
  simp [World.frozen?, h]
theorem TRow.texts (h : TRow w g ss ex) : Texts w (g + 1) (some ⟨g, 0, none⟩) ss := fun _ => ⟨g, 0, rfl, by omega, fun i s hi => by rw [Nat.zero_add]; exact h.cell hi⟩
theorem TRow.drew (h : TRow w g ss ex) : TRow w.drew g ss ex := h
theorem TRow.drewN (h : TRow w g ss ex) (n : Nat) : TRow (w.drewN n) g ss ex := h
theorem TRow.later (h : TRow w g ss ex) (hb : Below w.heap.size w w') : TRow w' g ss ex := (hb.block g h.lt).trans h
theorem TRow.set {i : Nat} (h : TRow w g ss ex) (hi : i < ss.length) (s : ByteArray) : TRow (w.setCell ⟨g, i, none⟩ (.string s)) g (ss.set i s) ex := by
  unfold TRow at h ⊢
  simp only [World.setCell, Array.getElem?_modify, if_true, h, Option.map_some]
  congr 2
  apply Array.ext'
  simp [List.set_append_left, hi, List.map_set]
theorem TRow.only {g' : Nat} (hr : TRow w g ss ex) (h : w.grownBy w' (some g')) (hne : g ≠ g') : TRow w' g ss ex :=
  (h.block g hr.lt (fun e => hne (by injection e))).trans hr
theorem only_below (hb : Below w.heap.size w w') : w.grownBy w' (some g) := ⟨hb.os, hb.tape, hb.output, hb.size, fun i hi _ => hb.block i hi⟩
end

/-- the n marks from k on, as texts -/
def mtexts (k n : Nat) : List ByteArray := (List.range n).map fun i => mtext (k + i)
theorem mtexts_length (k n : Nat) : (mtexts k n).length = n := by simp [mtexts]
theorem mtexts_get (k n i : Nat) (h : i < n) : (mtexts k n)[i]? = some (mtext (k + i)) := by simp [mtexts, h]
def tmarked (ss : List ByteArray) (k j : Nat) : List ByteArray := mtexts k j ++ ss.drop j
theorem tmarked_length (ss : List ByteArray) (k j : Nat) (h : j ≤ ss.length) : (tmarked ss k j).length = ss.length := by simp [tmarked, mtexts]; omega
theorem tmarked_all (ss : List ByteArray) (k : Nat) : tmarked ss k ss.length = mtexts k ss.length := by simp [tmarked]
theorem tmarked_set (ss : List ByteArray) (k j : Nat) (h : j < ss.length) : (tmarked ss k j).set j (mtext (k + j)) = tmarked ss k (j + 1) := by
  apply List.ext_getElem?
  intro i
  have h1 : (mtexts k j).length = j := mtexts_length k j
  have h2 : (mtexts k (j + 1)).length = j + 1 := mtexts_length k (j + 1)
  have h3 : j < (tmarked ss k j).length := by rw [tmarked_length ss k j (by omega)]; exact h
  rw [List.getElem?_set]
  unfold tmarked at h3 ⊢
  by_cases hi : j = i
  · subst hi
    rw [if_pos rfl, if_pos h3, List.getElem?_append_left (by omega)]
    simp [mtexts]
  · rw [if_neg hi]
    by_cases hlt : i < j
    · rw [List.getElem?_append_left (by omega), List.getElem?_append_left (by omega)]
      simp [mtexts, hlt, show i < j + 1 by omega]
    · rw [List.getElem?_append_right (by omega), List.getElem?_append_right (by omega), h1, h2, List.getElem?_drop, List.getElem?_drop]
      congr 1
      omega

end Go.Proofs.Ytjfogadcedgndaa