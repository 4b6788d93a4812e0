/- The order of columns is one: a comparison turned round has the other sign, and two steps down are a step down. -/
import Derived.Test.YtamookdlbmbncaaCompare
namespace Go.Proofs.Ytamookdlbmbncaa
open Go.ChangeShapes Go.WideShapes Go.ChangeAt Go.RowKit

theorem cmpTo_neg (xs ys : List Int) : ∀ k, cmpTo xs ys k = - cmpTo ys xs k
  | 0 => rfl
  | k + 1 => by
    have ih := cmpTo_neg xs ys k
    rw [cmpTo_step, cmpTo_step]
    generalize cmpTo xs ys k = p at *
    generalize cmpTo ys xs k = q at *
    generalize rkI (xs[k]?.getD 0) = a
    generalize rkI (ys[k]?.getD 0) = b
    unfold cmpI
    split <;> split <;> (repeat' split) <;> omega
def Down (x z u : Int) : Prop := (x = 0 ∧ z = 0 → u = 0) ∧ (x ≤ 0 ∧ z ≤ 0 ∧ (x < 0 ∨ z < 0) → u < 0)
theorem cmpI_down (a b c : Int) : Down (cmpI a b) (cmpI b c) (cmpI a c) := by
  unfold Down cmpI
  refine ⟨?_, ?_⟩ <;> (repeat' split) <;> omega
theorem down_step {x z u a b c : Int} (h : Down x z u) (g : Down a b c) : Down (if x ≠ 0 then x else a) (if z ≠ 0 then z else b) (if u ≠ 0 then u else c) := by
  obtain ⟨h1, h2⟩ := h
  obtain ⟨g1, g2⟩ := g
  by_cases hx : x = 0 <;> by_cases hz : z = 0 <;> by_cases hu : u = 0 <;> simp only [hx, hz, hu, ne_eq, not_true, not_false_eq_true, if_true, if_false] <;> refine ⟨?_, ?_⟩ <;> omega
theorem cmpTo_down (xs ys zs : List Int) : ∀ k, Down (cmpTo xs ys k) (cmpTo ys zs k) (cmpTo xs zs k)
  | 0 => ⟨fun _ => rfl, fun h => by simp [cmpTo] at h⟩
  | k + 1 => by
    rw [cmpTo_step, cmpTo_step, cmpTo_step]
    exact down_step (cmpTo_down xs ys zs k) (cmpI_down _ _ _)
theorem down_or {x z u : Int} (h : Down x z u) : (decide (0 < x) || decide (0 < z) || decide (u ≤ 0)) = true := by
  obtain ⟨h1, h2⟩ := h
  simp only [Bool.or_eq_true, decide_eq_true_eq]
  omega
theorem textOk_part {xs : List Int} (h : textOk xs = true) (i j : Nat) : textOk (partOf xs i j) = true := by
  rw [textOk, List.all_eq_true] at *
  intro x hx
  exact h x (List.mem_of_mem_drop (List.mem_of_mem_take hx))
end Go.Proofs.Ytamookdlbmbncaa
