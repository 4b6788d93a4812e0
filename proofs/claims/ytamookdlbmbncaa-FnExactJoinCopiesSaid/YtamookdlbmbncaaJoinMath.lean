/- Joined copies as plain lists: what is joined so far. No function of the program is spoken of. -/
import Derived.Test.YtamookdlbmbncaaCopyMath
namespace Go.Proofs.Ytamookdlbmbncaa

theorem joinOne_yes {P : List (Int × Int)} {s : Nat} {x y : Int × Int} (hx : P[s]? = some x) (h : x.2 = y.1) : joinOne (P.take (s + 1)) y = joinOne (P.take s) y ++ [(x.1, y.2)] := by
  rw [List.take_add_one, hx]
  simp [joinOne, List.filter_append, h]
theorem joinOne_no {P : List (Int × Int)} {s : Nat} {x y : Int × Int} (hx : P[s]? = some x) (h : x.2 ≠ y.1) : joinOne (P.take (s + 1)) y = joinOne (P.take s) y := by
  rw [List.take_add_one, hx]
  simp [joinOne, List.filter_append, h]
theorem joinOne_len (P : List (Int × Int)) (y : Int × Int) : (joinOne P y).length ≤ P.length := by
  unfold joinOne
  rw [List.length_map]
  exact List.length_filter_le _ _
theorem joinTo_more {P Q : List (Int × Int)} {t : Nat} {y : Int × Int} (hy : Q[t]? = some y) : joinTo P (Q.take (t + 1)) = joinTo P (Q.take t) ++ joinOne P y := by
  rw [List.take_add_one, hy]
  simp [joinTo]
theorem joinTo_len (P : List (Int × Int)) (hP : P.length ≤ 20) : ∀ Q : List (Int × Int), (joinTo P Q).length ≤ 20 * Q.length
  | [] => by simp [joinTo]
  | y :: Q => by
    have h1 := joinTo_len P hP Q
    have h2 := joinOne_len P y
    have e : joinTo P (y :: Q) = joinOne P y ++ joinTo P Q := by simp [joinTo]
    rw [e, List.length_append, List.length_cons]
    omega
theorem joinC_cases (P Q : List (Int × Int)) : (validTo 20 20 P (-1) = false ∧ joinC P Q = 2 ∧ joinA P Q = []) ∨ (validTo 20 20 P (-1) = true ∧ validTo 20 20 Q (-1) = false ∧ joinC P Q = 2 ∧ joinA P Q = []) ∨ (validTo 20 20 P (-1) = true ∧ validTo 20 20 Q (-1) = true ∧ joinC P Q = 0 ∧ joinA P Q = joinTo P Q) := by
  unfold joinA joinC
  cases validTo 20 20 P (-1) <;> cases validTo 20 20 Q (-1) <;> simp
theorem plain_len {P : List (Int × Int)} (h : validTo 20 20 P (-1) = true) : P.length ≤ 20 := by
  have := validTo_len (by omega) (by omega) h
  omega
theorem joinA_length (P Q : List (Int × Int)) : (joinA P Q).length ≤ 1048576 := by
  rcases joinC_cases P Q with ⟨_, _, e⟩ | ⟨_, _, _, e⟩ | ⟨h1, h2, _, e⟩ <;> rw [e]
  · simp
  · simp
  · have h3 := plain_len h1
    have h4 := plain_len h2
    have := joinTo_len P h3 Q
    omega
end Go.Proofs.Ytamookdlbmbncaa
