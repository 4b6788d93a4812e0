/- The places for which something holds. No function of the program is spoken of. -/
import Derived.Test.YtamookdlbmbncaaDoorRows
namespace Go.Proofs.YtamookdlbmbncaaDoor

/-- the places below n for which q holds -/
def wherePl (q : Nat → Bool) : Nat → List Int
  | 0 => []
  | n + 1 => if q n = true then wherePl q n ++ [(n : Int)] else wherePl q n
theorem wherePl_yes {q : Nat → Bool} {n : Nat} (h : q n = true) : wherePl q (n + 1) = wherePl q n ++ [(n : Int)] := if_pos h
theorem wherePl_no {q : Nat → Bool} {n : Nat} (h : q n = false) : wherePl q (n + 1) = wherePl q n := if_neg (by simp [h])
theorem wherePl_len (q : Nat → Bool) : ∀ n, (wherePl q n).length ≤ n
  | 0 => Nat.le_refl _
  | n + 1 => by
    have := wherePl_len q n
    unfold wherePl
    split
    · simp; omega
    · omega
theorem wherePl_mem {q : Nat → Bool} : ∀ {n : Nat} {x : Int}, x ∈ wherePl q n → ∃ k : Nat, x = k ∧ k < n ∧ q k = true
  | 0, _, h => by cases h
  | n + 1, x, h => by
    unfold wherePl at h
    split at h
    · rename_i hq
      rcases List.mem_append.1 h with h | h
      · obtain ⟨k, a, b, c⟩ := wherePl_mem h
        exact ⟨k, a, by omega, c⟩
      · exact ⟨n, by simpa using h, by omega, hq⟩
    · obtain ⟨k, a, b, c⟩ := wherePl_mem h
      exact ⟨k, a, by omega, c⟩
end Go.Proofs.YtamookdlbmbncaaDoor
