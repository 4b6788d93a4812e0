/- spec.Overlay and impl.Overlay give the card with the holes of two cards, or the code, for cards of at most 1048576 columns: contracts. -/
import Derived.Test.YthkfdfocghmmeaaPunch
import Derived.Laws.NewDeep
import Derived.RegionTactic
import Derived.ChangeAlike
namespace Go.Proofs.Ythkfdfocghmmeaa
open Go.ChangeShapes Go.WideShapes Go.ChangeAt Go.RowKit

/-- the numbers of both -/
def orOf : List Int → List Int → List Int
  | x :: xs, y :: ys => bits .or .i64 x y :: orOf xs ys
  | _, _ => []
theorem orOf_length : ∀ (xs ys : List Int), xs.length = ys.length → (orOf xs ys).length = xs.length
  | [], [], _ => rfl
  | [], _ :: _, h => by simp at h
  | _ :: _, [], h => by simp at h
  | x :: xs, y :: ys, h => by
    simp only [orOf, List.length_cons, Nat.add_right_cancel_iff]
    exact orOf_length xs ys (by simpa using h)
theorem orOf_get : ∀ (xs ys : List Int) (k : Nat), xs.length = ys.length → k < xs.length → (orOf xs ys)[k]? = some (bits .or .i64 (xs[k]?.getD 0) (ys[k]?.getD 0))
  | [], _, _, _, h => by simp at h
  | _ :: _, [], _, h, _ => by simp at h
  | x :: xs, y :: ys, 0, _, _ => rfl
  | x :: xs, y :: ys, k + 1, h, hk => by
    simp only [orOf, List.getElem?_cons_succ]
    exact orOf_get xs ys k (by simpa using h) (by simpa using hk)

/-- what the answer holds after k rounds -/
def overAt (xs ys : List Int) (k : Nat) : List Int := (orOf xs ys).take k ++ xs.drop k
theorem overAt_zero (xs ys : List Int) : overAt xs ys 0 = xs := by simp [overAt]
theorem overAt_length (xs ys : List Int) (h : xs.length = ys.length) (k : Nat) (hk : k ≤ xs.length) : (overAt xs ys k).length = xs.length := by
  simp [overAt, orOf_length xs ys h]; omega
theorem overAt_all (xs ys : List Int) (h : xs.length = ys.length) : overAt xs ys xs.length = orOf xs ys := by
  rw [overAt, List.take_of_length_le (by rw [orOf_length xs ys h]; omega)]; simp
theorem overAt_get (xs ys : List Int) (h : xs.length = ys.length) (k : Nat) (hk : k < xs.length) : (overAt xs ys k)[k]?.getD 0 = xs[k]?.getD 0 := by
  have h1 : ((orOf xs ys).take k).length = k := by simp [orOf_length xs ys h]; omega
  rw [overAt, List.getElem?_append_right (by omega), h1, List.getElem?_drop]
  simp
theorem overAt_set (xs ys : List Int) (h : xs.length = ys.length) (k : Nat) (hk : k < xs.length) : (overAt xs ys k).set k (bits .or .i64 (xs[k]?.getD 0) (ys[k]?.getD 0)) = overAt xs ys (k + 1) := by
  apply List.ext_getElem?
  intro i
  have h1 : ((orOf xs ys).take k).length = k := by simp [orOf_length xs ys h]; omega
  have h2 : ((orOf xs ys).take (k + 1)).length = k + 1 := by simp [orOf_length xs ys h]; omega
  have h3 : k < (overAt xs ys k).length := by rw [overAt_length xs ys h k (by omega)]; exact hk
  rw [List.getElem?_set]
  unfold overAt at h3 ⊢
  by_cases hi : k = i
  · subst hi
    rw [if_pos rfl, if_pos h3, List.getElem?_append_left (by omega), List.getElem?_take_of_lt (by omega), orOf_get xs ys k h hk]
  · rw [if_neg hi]
    by_cases hlt : i < k
    · rw [List.getElem?_append_left (by omega), List.getElem?_append_left (by omega), List.getElem?_take_of_lt hlt, List.getElem?_take_of_lt (by omega)]
    · rw [List.getElem?_append_right (by omega), List.getElem?_append_right (by omega), h1, h2, List.getElem?_drop, List.getElem?_drop]
      congr 1
      omega

/-- the code of two cards -/
def overCode (xs ys : List Int) : Int := if okB xs = false then 1 else if okB ys = false then 1 else if xs.length = ys.length then 0 else 6
theorem overCode_cases (xs ys : List Int) : (overCode xs ys = 1 ∧ okB xs = false) ∨ (overCode xs ys = 1 ∧ okB xs = true ∧ okB ys = false) ∨ (overCode xs ys = 6 ∧ okB xs = true ∧ okB ys = true ∧ xs.length ≠ ys.length) ∨
    (overCode xs ys = 0 ∧ okB xs = true ∧ okB ys = true ∧ xs.length = ys.length) := by
  unfold overCode
  cases okB xs <;> cases okB ys <;> by_cases h : xs.length = ys.length <;> simp [h]

theorem only_drew {a w : World} {g : Nat} (h : a.grownBy w (some g)) : a.grownBy w.drew (some g) := ⟨h.os, h.tape, h.output, h.size, h.block⟩

theorem frozen_onlyO {w w' : World} {g : Nat} (h : w.grownBy w' (some g)) {p : Addr} {v : Value} (hc : w.cell? p = some v) (f : w.frozen? p = false) (hne : p.block ≠ g) : w'.frozen? p = false := by
  rw [World.frozen?_of_block (h.block p.block (World.block_lt_of_cell? _ _ hc) (fun e => hne (by injection e)))]
  exact f

theorem frozen_kept' {w w' : World} {p : Addr} {v : Value} (h : w.cell? p = some v) (f : w.frozen? p = false) (hb : Below w.heap.size w w') : w'.frozen? p = false := by
  rw [hb.frozen (World.block_lt_of_cell? _ _ h)]
  exact f

end Go.Proofs.Ythkfdfocghmmeaa