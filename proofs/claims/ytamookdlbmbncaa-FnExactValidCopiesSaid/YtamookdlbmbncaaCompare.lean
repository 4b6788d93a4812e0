/- The order of fields: spec.l03Compare, cmp.Compare, cmp.Or, impl.rankIn, spec.CompareFields and impl.CompareFields, for cards of at most 1048576 columns and every field: contracts. -/
import Derived.Test.YtamookdlbmbncaaRead
import Derived.Test.YtamookdlbmbncaaCmpC
import Derived.Test.YtamookdlbmbncaaPart
import Derived.Test.YtamookdlbmbncaaRank
namespace Go.Proofs.Ytamookdlbmbncaa
open Go.ChangeShapes Go.WideShapes Go.ChangeAt Go.RowKit

def rkI (m : Int) : Int := match rankM m with | some j => (j : Int) | none => 0
/-- the first difference among the first k columns -/
def cmpTo (xs ys : List Int) : Nat → Int
  | 0 => 0
  | k + 1 => if cmpTo xs ys k ≠ 0 then cmpTo xs ys k else cmpI (rkI (xs[k]?.getD 0)) (rkI (ys[k]?.getD 0))
theorem cmpTo_step (xs ys : List Int) (k : Nat) : cmpTo xs ys (k + 1) = if cmpTo xs ys k ≠ 0 then cmpTo xs ys k else cmpI (rkI (xs[k]?.getD 0)) (rkI (ys[k]?.getD 0)) := rfl
theorem cmpTo_stays (xs ys : List Int) (k : Nat) (h : cmpTo xs ys k ≠ 0) : ∀ j, cmpTo xs ys (k + j) = cmpTo xs ys k
  | 0 => rfl
  | j + 1 => by rw [← Nat.add_assoc, cmpTo_step, cmpTo_stays xs ys k h j, if_pos h]
theorem cmpTo_le (xs ys : List Int) : ∀ k, -1 ≤ cmpTo xs ys k ∧ cmpTo xs ys k ≤ 1
  | 0 => by simp [cmpTo]
  | k + 1 => by
    have := cmpTo_le xs ys k
    rw [cmpTo_step]
    split
    · exact this
    · unfold cmpI
      split
      · omega
      · split <;> omega

theorem char_one : ∀ i j : Fin 40, charR i.val = charR j.val → i = j := by decide +kernel
theorem rank_of {m : Int} (h : charOk m = true) : ∃ n j : Nat, charV m = n ∧ n ≤ 255 ∧ j < 40 ∧ rankS n = j ∧ rkI m = j ∧ n < 91 ∧ placesL.getD n 0 = (j : Int) + 1 := by
  unfold charOk at h
  cases e : rankM m with
  | none => rw [e] at h; cases h
  | some j =>
    obtain ⟨hj, _, _⟩ := rankM_some e
    have hc := charR_le j
    have hn : ((charR j).toNat : Int) = charR j := by omega
    rcases rank_cases (charR j).toNat (by omega) with ⟨_, h2, _⟩ | ⟨i, hi, h1, h2, _, h4, h5⟩
    · exact absurd hn.symm (h2 j hj)
    · rw [hn] at h2
      have hij : (⟨i, hi⟩ : Fin 40) = ⟨j, hj⟩ := char_one ⟨i, hi⟩ ⟨j, hj⟩ h2
      have hij' : i = j := congrArg Fin.val hij
      subst hij'
      exact ⟨(charR i).toNat, i, by simp [charV, e, hn], by omega, hi, h1, by simp [rkI, e], h4, h5⟩

theorem textOk_at {xs : List Int} (h : textOk xs = true) {k : Nat} (hk : k < xs.length) : charOk (xs[k]?.getD 0) = true := by
  rw [List.getElem?_eq_getElem hk]
  exact List.all_eq_true.1 h xs[k] (List.getElem_mem hk)
theorem textS_get (xs : List Int) (k : Nat) (h : k < (textS xs).size) : (((textS xs)[k]'h).toNat : Int) = charV (xs[k]?.getD 0) := by
  have h1 : k < (textL xs).length := h
  have h2 : k < xs.length := by rw [textL_length] at h1; exact h1
  have e : (textS xs)[k]'h = (textL xs)[k]'h1 := rfl
  rw [e, List.getElem?_eq_getElem h2]
  simp [textL, byteV_int]

def cfCode (xs ys : List Int) (a b : Int) : Int := if okB xs = false then 1 else if okB ys = false then 1 else if fieldB a b xs.length = false then 2 else if fieldB a b ys.length = false then 2 else 0

theorem fieldB_yes {i j n : Nat} (hij : i < j) (hj : j ≤ n) : fieldB i j n = true := by
  simp [fieldB]
  omega

theorem fieldB_min (a b : Int) (n m : Nat) : fieldB a b (min (n : Int) (m : Int)) = (fieldB a b n && fieldB a b m) := by
  simp only [fieldB]
  by_cases h0 : 0 ≤ a <;> by_cases h1 : a < b <;> by_cases h2 : b ≤ (n : Int) <;> by_cases h3 : b ≤ (m : Int) <;> simp [h0, h1, h2, h3] <;> omega

theorem part_get (xs : List Int) (i j k : Nat) (h : k < j - i) : (partOf xs i j)[k]?.getD 0 = xs[i + k]?.getD 0 := by
  rw [partOf, List.getElem?_take_of_lt h, List.getElem?_drop]

theorem textOk_bad2 {ps qs : List Int} {k n : Nat} (hp : ps.length = n) (hq : qs.length = n) (hk : k < n) (h : (charOk (ps[k]?.getD 0) && charOk (qs[k]?.getD 0)) = false) : (textOk ps && textOk qs) = false := by
  rw [Bool.and_eq_false_iff] at h ⊢
  rcases h with h | h
  · exact Or.inl (textOk_bad ps k (by omega) h)
  · exact Or.inr (textOk_bad qs k (by omega) h)

end Go.Proofs.Ytamookdlbmbncaa