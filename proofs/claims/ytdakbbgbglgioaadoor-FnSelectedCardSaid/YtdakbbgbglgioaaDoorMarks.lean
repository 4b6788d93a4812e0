/- The laws' helpers that write marks into a slice of int64 (or a card) and look for them again do so: contracts of laws.markInt64S, markCard, heldInt64S, heldCard, for slices of at most 1048576 elements. -/
import Derived.Test.YtdakbbgbglgioaaDoorInts
namespace Go.Proofs.YtdakbbgbglgioaaDoor
open Go.ChangeShapes Go.WideShapes Go.ChangeAt Go.RowKit

/-- the n marks from k on -/
def marks (k : Int) (n : Nat) : List Int := (List.range n).map fun i : Nat => k + (i : Int)
theorem marks_length (k : Int) (n : Nat) : (marks k n).length = n := by simp [marks]
theorem marks_get (k : Int) (n i : Nat) (h : i < n) : (marks k n)[i]?.getD 0 = k + (i : Int) := by simp [marks, h]

/-- what a slice holds after j marks -/
def marked (xs : List Int) (k : Int) (j : Nat) : List Int := marks k j ++ xs.drop j
theorem marked_length (xs : List Int) (k : Int) (j : Nat) (h : j ≤ xs.length) : (marked xs k j).length = xs.length := by simp [marked, marks]; omega
theorem marked_all (xs : List Int) (k : Int) : marked xs k xs.length = marks k xs.length := by simp [marked]
theorem marked_set (xs : List Int) (k : Int) (j : Nat) (h : j < xs.length) : (marked xs k j).set j (k + (j : Int)) = marked xs k (j + 1) := by
  apply List.ext_getElem?
  intro i
  have h1 : (marks k j).length = j := marks_length k j
  have h2 : (marks k (j + 1)).length = j + 1 := marks_length k (j + 1)
  have h3 : j < (marked xs k j).length := by rw [marked_length xs k j (by omega)]; exact h
  rw [List.getElem?_set]
  unfold marked at h3 ⊢
  by_cases hi : j = i
  · subst hi
    rw [if_pos rfl, if_pos h3, List.getElem?_append_left (by omega)]
    simp [marks]
  · rw [if_neg hi]
    by_cases hlt : i < j
    · rw [List.getElem?_append_left (by omega), List.getElem?_append_left (by omega)]
      simp [marks, hlt, show i < j + 1 by omega]
    · rw [List.getElem?_append_right (by omega), List.getElem?_append_right (by omega), h1, h2, List.getElem?_drop, List.getElem?_drop]
      congr 1
      omega

end Go.Proofs.YtdakbbgbglgioaaDoor