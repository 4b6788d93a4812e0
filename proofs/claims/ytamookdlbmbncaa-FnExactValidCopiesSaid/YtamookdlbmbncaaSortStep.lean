/- spec.l07Step finds the first text that is less than the one before it; spec.FirstStep and spec.IsSorted answer so for a deck and a field: contracts. -/
import Derived.Test.YtamookdlbmbncaaSortKeys
namespace Go.Proofs.Ytamookdlbmbncaa
open Go.ChangeShapes Go.WideShapes Go.ChangeAt Go.RowKit

theorem holes_at {D : List CardV} {k : Nat} {d : CardV} (h : D[k]? = some d) : (holes D)[k]? = some d.xs := by simp [holes, h]
theorem cmpK_at {D : List CardV} {i j p q : Nat} {d e : CardV} (h : D[p]? = some d) (h' : D[q]? = some e) : cmpK (holes D) i j p q = cmpTo (partOf d.xs i j) (partOf e.xs i j) (j - i) := by
  rw [cmpK, holes_at h, holes_at h']
  rfl
/-- one round of the search -/
theorem step_yes {H : List (List Int)} {i j t n : Nat} {r : Int} (hs : stepFrom (lessB H i j) (n - (t + 1)) (t + 1) = r) (ht : t + 1 < n) (hl : cmpK H i j (t + 1) t < 0) : r = ((t + 1 : Nat) : Int) := by
  rw [show n - (t + 1) = (n - (t + 1) - 1) + 1 by omega, stepFrom_succ, if_pos (by simpa [lessB] using hl)] at hs
  exact hs.symm
theorem step_no {H : List (List Int)} {i j t n : Nat} {r : Int} (hs : stepFrom (lessB H i j) (n - (t + 1)) (t + 1) = r) (ht : t + 1 < n) (hl : ¬ cmpK H i j (t + 1) t < 0) : stepFrom (lessB H i j) (n - (t + 1 + 1)) (t + 1 + 1) = r := by
  rw [show n - (t + 1) = (n - (t + 1 + 1)) + 1 by omega, stepFrom_succ, if_neg (by simpa [lessB] using hl)] at hs
  exact hs
theorem step_end {q : Nat → Bool} {t n : Nat} {r : Int} (hs : stepFrom q (n - (t + 1)) (t + 1) = r) (ht : ¬ t + 1 < n) : r = -1 := by
  rw [show n - (t + 1) = 0 by omega] at hs
  exact hs.symm

/-- what FirstStep answers -/
def stepA (H : List (List Int)) (a b : Int) : Int := if keysC H a b = 0 then stepV H a.toNat b.toNat else 0
def sortedA (H : List (List Int)) (a b : Int) : Bool := if keysC H a b = 0 then decide (stepV H a.toNat b.toNat < 0) else false
theorem keysC_zero {H : List (List Int)} {a b : Int} (h : keysC H a b = 0) : ∃ i j : Nat, a = i ∧ b = j ∧ i < j ∧ j ≤ widthH H ∧ deckB H = true ∧ keysB H i j = true := by
  rcases keysC_cases H a b with ⟨e, _⟩ | ⟨e, _⟩ | ⟨i, j, ha, hb, hij, hj, hv, hf, e⟩
  · rw [e] at h; exact absurd h (by decide)
  · rw [e] at h; exact absurd h (by decide)
  · refine ⟨i, j, ha, hb, hij, hj, hv, ?_⟩
    rw [e] at h
    cases hk : keysB H i j
    · rw [hk] at h; exact absurd h (by decide)
    · rfl

section
variable (A : Option Addr) (c : Nat) (D : List CardV) (B : Nat) (a b : Int) (w : World) (h : Deck w B A D) (hB : B ≤ w.heap.size) (hn : D.length ≤ 1048576) (hl : ∀ d ∈ D, d.xs.length ≤ 1048576)
include h hB hn hl

end
end Go.Proofs.Ytamookdlbmbncaa
