/- Plain facts of columns that are moved to greater columns, or to lesser ones. -/
import Derived.Test.YthkfdfocghmmeaaValid
namespace Go.Proofs.Ythkfdfocghmmeaa
open Go.ChangeShapes Go.WideShapes Go.ChangeAt Go.RowKit

/-- the first j columns, moved by b, in as many columns as there are -/
def moveTo (xs : List Int) (b : Int) (j : Nat) : List Int := (List.range xs.length).map fun t : Nat => if 0 ≤ (t : Int) - b ∧ (t : Int) - b < (j : Int) then xs[((t : Int) - b).toNat]?.getD 0 else 0
/-- a card as it is read if it is shifted -/
def shiftL (xs : List Int) (b : Int) : List Int := moveTo xs b xs.length

theorem moveTo_length (xs : List Int) (b : Int) (j : Nat) : (moveTo xs b j).length = xs.length := by simp [moveTo]
theorem shiftL_length (xs : List Int) (b : Int) : (shiftL xs b).length = xs.length := moveTo_length _ _ _
theorem moveTo_get (xs : List Int) (b : Int) (j t : Nat) (h : t < xs.length) : (moveTo xs b j)[t]?.getD 0 = if 0 ≤ (t : Int) - b ∧ (t : Int) - b < (j : Int) then xs[((t : Int) - b).toNat]?.getD 0 else 0 := by
  simp [moveTo, h]
theorem moveTo_zero (xs : List Int) (b : Int) : moveTo xs b 0 = List.replicate xs.length 0 := by
  apply List.ext_getElem
  · simp [moveTo]
  · intro t h1 h2
    simp only [moveTo, List.getElem_map, List.getElem_range, List.getElem_replicate]
    rw [if_neg (by omega)]
theorem moveTo_out (xs : List Int) (b : Int) (j : Nat) (h : ¬ (0 ≤ (j : Int) + b ∧ (j : Int) + b < (xs.length : Int))) : moveTo xs b (j + 1) = moveTo xs b j := by
  apply List.ext_getElem
  · simp [moveTo]
  · intro t h1 h2
    have ht : t < xs.length := by simpa [moveTo] using h1
    simp only [moveTo, List.getElem_map, List.getElem_range]
    by_cases hc : 0 ≤ (t : Int) - b ∧ (t : Int) - b < (j : Int)
    · rw [if_pos hc, if_pos (by omega)]
    · rw [if_neg hc, if_neg (by omega)]
theorem moveTo_in (xs : List Int) (b : Int) (j t : Nat) (e : (j : Int) + b = t) (ht : t < xs.length) : (moveTo xs b j).set t (xs[j]?.getD 0) = moveTo xs b (j + 1) := by
  apply List.ext_getElem
  · simp [moveTo]
  · intro u h1 h2
    have hu : u < xs.length := by simpa [moveTo] using h2
    rw [List.getElem_set]
    simp only [moveTo, List.getElem_map, List.getElem_range]
    by_cases hut : t = u
    · subst hut
      rw [if_pos rfl, if_pos (by omega)]
      rw [show ((t : Int) - b).toNat = j by omega]
    · rw [if_neg hut]
      by_cases hc : 0 ≤ (u : Int) - b ∧ (u : Int) - b < (j : Int)
      · rw [if_pos hc, if_pos (by omega)]
      · rw [if_neg hc, if_neg (by omega)]
theorem shiftL_yes (xs : List Int) (b : Int) (k q : Nat) (hk : k < xs.length) (e : (k : Int) - b = q) (hq : q < xs.length) : (shiftL xs b)[k]?.getD 0 = xs[q]?.getD 0 := by
  rw [shiftL, moveTo_get xs b _ k hk, if_pos (by omega), e, Int.toNat_natCast]
theorem shiftL_no (xs : List Int) (b : Int) (k : Nat) (hk : k < xs.length) (h : ¬ (0 ≤ (k : Int) - b ∧ (k : Int) - b < (xs.length : Int))) : (shiftL xs b)[k]?.getD 0 = 0 := by
  rw [shiftL, moveTo_get xs b _ k hk, if_neg h]
theorem part_stay (xs : List Int) (k : Nat) (hk : k < xs.length) (h : xs[k]?.getD 0 = 0) : part xs (k + 1) = part xs k := by
  rw [← part_set xs k hk, h]
  apply List.ext_getElem
  · simp
  · intro t h1 h2
    rw [List.getElem_set]
    by_cases ht : k = t
    · subst ht
      rw [if_pos rfl]
      simp [part, Nat.min_eq_left (Nat.le_of_lt hk)]
    · rw [if_neg ht]
theorem shiftL_mask (xs : List Int) (b : Int) (h : legalB xs = true) : legalB (shiftL xs b) = true := by
  rw [legalB, List.all_eq_true]
  intro x hx
  simp only [shiftL, moveTo, List.mem_map, List.mem_range] at hx
  obtain ⟨t, ht, rfl⟩ := hx
  by_cases hc : 0 ≤ (t : Int) - b ∧ (t : Int) - b < (xs.length : Int)
  · rw [if_pos hc]
    have := legal_at h (j := ((t : Int) - b).toNat) (by omega)
    simp [maskB, inB]
    exact this
  · rw [if_neg hc]
    rfl
theorem okB_shift {xs : List Int} (h : okB xs = true) (b : Int) : okB (shiftL xs b) = true := by
  have h1 := (okB_parts h).1
  rw [okB, h1, Bool.true_and] at h
  rw [okB, shiftL_mask xs b h1, shiftL_length, h]
  rfl
end Go.Proofs.Ythkfdfocghmmeaa
