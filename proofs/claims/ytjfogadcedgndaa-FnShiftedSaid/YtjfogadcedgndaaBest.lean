/- The least of numbers, and the place of the first one that is least: plain functions. -/
import Derived.Test.YtjfogadcedgndaaRows
namespace Go.Proofs.Ytjfogadcedgndaa

/-- the least of the first k + 1 numbers -/
def minTo (ds : List Int) : Nat → Int
  | 0 => ds[0]?.getD 0
  | k + 1 => min (minTo ds k) (ds[k + 1]?.getD 0)
/-- the place of the first one of these that is least -/
def bestTo (ds : List Int) : Nat → Nat
  | 0 => 0
  | k + 1 => if ds[k + 1]?.getD 0 < ds[bestTo ds k]?.getD 0 then k + 1 else bestTo ds k
theorem best_le (ds : List Int) : ∀ k, bestTo ds k ≤ k
  | 0 => Nat.le_refl _
  | k + 1 => by
    have := best_le ds k
    rw [bestTo]
    by_cases h : ds[k + 1]?.getD 0 < ds[bestTo ds k]?.getD 0
    · rw [if_pos h]; omega
    · rw [if_neg h]; omega
theorem best_min (ds : List Int) : ∀ k, ds[bestTo ds k]?.getD 0 = minTo ds k
  | 0 => rfl
  | k + 1 => by
    have := best_min ds k
    rw [bestTo, minTo]
    by_cases h : ds[k + 1]?.getD 0 < ds[bestTo ds k]?.getD 0
    · rw [if_pos h]; omega
    · rw [if_neg h]; omega
theorem min_le (ds : List Int) : ∀ k t, t ≤ k → minTo ds k ≤ ds[t]?.getD 0
  | 0, t, h => by
    obtain rfl : t = 0 := by omega
    exact Int.le_refl _
  | k + 1, t, h => by
    rw [minTo]
    by_cases e : t = k + 1
    · subst e; omega
    · have := min_le ds k t (by omega); omega
theorem best_first (ds : List Int) : ∀ k t, t < bestTo ds k → minTo ds k < ds[t]?.getD 0
  | 0, t, h => by simp [bestTo] at h
  | k + 1, t, h => by
    have hm := best_min ds k
    rw [bestTo] at h
    rw [minTo]
    by_cases hc : ds[k + 1]?.getD 0 < ds[bestTo ds k]?.getD 0
    · rw [if_pos hc] at h
      have := min_le ds k t (by omega)
      omega
    · rw [if_neg hc] at h
      have := best_first ds k t h
      omega
end Go.Proofs.Ytjfogadcedgndaa
