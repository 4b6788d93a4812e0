/- A number's decimal text as dial reads it: plain facts. -/
import Derived.Test.YtkiphejkgpfjjaaDoorCntDial
import Derived.Test.YtkiphejkgpfjjaaDoorCntPow
import Derived.Lib.ItoaMem
namespace Go.Proofs.YtkiphejkgpfjjaaDoor
open Go.ChangeShapes Go.WideShapes Go.ChangeAt Go.RowKit

/-- the text of a number -/
def itoaS (x : Int) : ByteArray := ⟨(Lib.itoa x).toArray⟩
theorem itoaS_size (x : Int) : (itoaS x).size = (Lib.itoa x).length := by simp [itoaS, ByteArray.size]
theorem bytes_get (l : List UInt8) (i : Nat) (h : i < l.length) : (⟨l.toArray⟩ : ByteArray).get! i = l[i] := by
  show (l.toArray)[i]! = _
  simp [getElem!_pos, h]
theorem itoaS_nat_size (u : Nat) : (itoaS u).size = Lib.nDigits u := by rw [itoaS_size, Lib.itoa_nonneg, Lib.decDigits_length]
theorem itoaS_get (u i : Nat) (h : i < Lib.nDigits u) : (itoaS u).get! i = Lib.dg u (Lib.nDigits u - 1 - i) := by
  unfold itoaS
  rw [Lib.itoa_nonneg, bytes_get _ i (by rw [Lib.decDigits_length]; exact h)]
  simp only [Lib.decDigits_eq, List.getElem_map, List.getElem_range]
theorem dg_val (u j : Nat) : (Lib.dg u j).toNat = 48 + u / 10 ^ j % 10 := by
  unfold Lib.dg
  rw [UInt8.toNat_ofNat']
  have := Nat.mod_lt (u / 10 ^ j) (show 10 > 0 by decide)
  omega
theorem digs_range : ∀ (k : Nat) (n : Int), digs k n = (List.range k).map fun i => n / p10 i % 10
  | 0, _ => rfl
  | k + 1, n => by rw [digs_snoc, digs_range k n, List.range_succ, List.map_append]; rfl
theorem digs_split : ∀ (a b : Nat) (n : Int), digs (a + b) n = digs a n ++ digs b (n / p10 a)
  | 0, b, n => by simp [digs, p10_zero]
  | a + 1, b, n => by
    rw [show a + 1 + b = (a + b) + 1 by omega, digs, digs, digs_split a b (n / 10), div_p10]
    rfl
theorem nat_p10 (u j : Nat) : ((u / 10 ^ j % 10 : Nat) : Int) = (u : Int) / p10 j % 10 := by
  unfold p10
  push_cast
  rfl
theorem itoaS_textD (u : Nat) : textD (itoaS u) = digs (Lib.nDigits u) u := by
  rw [textD, digs_range, itoaS_nat_size]
  refine List.map_congr_left fun i hi => ?_
  have hi' : i < Lib.nDigits u := List.mem_range.1 hi
  rw [itoaS_get u _ (by omega), dg_val, show Lib.nDigits u - 1 - (Lib.nDigits u - 1 - i) = i by omega, ← nat_p10]
  omega
theorem itoaS_digs (u : Nat) : digsTo (itoaS u) (itoaS u).size = true := by
  rw [digsTo, List.all_eq_true]
  intro i hi
  have hi' : i < Lib.nDigits u := by rw [← itoaS_nat_size]; exact List.mem_range.1 hi
  rw [itoaS_get u i hi', dg_val]
  have := Nat.mod_lt (u / 10 ^ (Lib.nDigits u - 1 - i)) (show 10 > 0 by decide)
  simp [digC]
  omega
theorem itoaS_neg {x : Int} (h : x < 0) : digsTo (itoaS x) (itoaS x).size = false := by
  obtain ⟨u, rfl⟩ : ∃ u : Nat, x = -(u : Int) := ⟨x.natAbs, by omega⟩
  have hs : (itoaS (-(u : Int))) = ⟨(45 :: Lib.decDigits u).toArray⟩ := by unfold itoaS; rw [Lib.itoa_neg u (by omega)]
  refine digsTo_bad _ 0 _ (by rw [hs]; simp [ByteArray.size]) ?_
  rw [hs, bytes_get _ 0 (by simp)]
  rfl
theorem nDig_le : ∀ (k u : Nat), u < 10 ^ (k + 1) → Lib.nDigits u ≤ k + 1
  | 0, u, h => by rw [Lib.nDigits_small (by simpa using h)]; omega
  | k + 1, u, h => by
    by_cases h9 : u < 10
    · rw [Lib.nDigits_small h9]
      omega
    · rw [Lib.nDigits_big h9]
      have := nDig_le k (u / 10) (by rw [Nat.pow_succ] at h; exact Nat.div_lt_of_lt_mul (by rw [Nat.mul_comm]; exact h))
      omega
theorem p10_nat (k : Nat) : p10 k = ((10 ^ k : Nat) : Int) := by unfold p10; push_cast; rfl
/-- a number that a counter of k wheels can show has at most k digits -/
theorem itoaS_fits (u k : Nat) (hk : 1 ≤ k) : (itoaS u).size ≤ k ↔ (u : Int) < p10 k := by
  rw [itoaS_nat_size, p10_nat]
  constructor
  · intro h
    have h1 := Lib.lt_pow_nDigits u
    have h2 := Nat.pow_le_pow_right (show 10 > 0 by decide) h
    omega
  · intro h
    obtain ⟨j, rfl⟩ : ∃ j, k = j + 1 := ⟨k - 1, by omega⟩
    exact nDig_le j u (by omega)
theorem itoaS_dialL (u k : Nat) (h : (itoaS u).size ≤ k) : dialL (itoaS u) k = digs k u := by
  have h1 := Lib.lt_pow_nDigits u
  have h2 := p10_nat (Lib.nDigits u)
  rw [itoaS_nat_size] at h
  obtain ⟨b, rfl⟩ : ∃ b, k = Lib.nDigits u + b := ⟨k - Lib.nDigits u, by omega⟩
  rw [dialL, itoaS_textD, digs_split, itoaS_nat_size, show Lib.nDigits u + b - Lib.nDigits u = b by omega, Int.ediv_eq_zero_of_lt (by omega) (by omega), digs_zero]
/-- what dial answers to a number's text: as the counter's number of wheels and the number fit -/
theorem dial_itoa (x : Int) (k : Nat) (h1 : 1 ≤ k) (h12 : k ≤ 12) :
    (dialK k (itoaS x) = 1 ∧ x < 0) ∨ (dialK k (itoaS x) = 2 ∧ p10 k ≤ x) ∨ (dialK k (itoaS x) = 0 ∧ 0 ≤ x ∧ x < p10 k ∧ dialL (itoaS x) k = digs k x) := by
  have hin : inB (k : Int) 1 12 = true := by simp [inB]; omega
  by_cases hx : x < 0
  · left
    exact ⟨by simp [dialK, hin, itoaS_neg hx], hx⟩
  · right
    obtain ⟨u, rfl⟩ : ∃ u : Nat, x = u := ⟨x.toNat, by omega⟩
    by_cases hf : (itoaS u).size ≤ k
    · right
      have := (itoaS_fits u k h1).1 hf
      refine ⟨?_, by omega, this, itoaS_dialL u k hf⟩
      have hn : ¬ (k : Int) < ((itoaS u).size : Int) := by omega
      simp [dialK, hin, itoaS_digs, hn]
    · left
      have hn : (k : Int) < ((itoaS u).size : Int) := by omega
      refine ⟨by simp [dialK, hin, itoaS_digs, hn], ?_⟩
      have := mt (itoaS_fits u k h1).2 hf
      omega
theorem itoaS_short (x : Int) (h0 : -9223372036854775808 ≤ x) (h1 : x ≤ 9223372036854775807) : (itoaS x).size ≤ 1048576 := by
  by_cases hx : x < 0
  · obtain ⟨u, rfl⟩ : ∃ u : Nat, x = -(u : Int) := ⟨x.natAbs, by omega⟩
    rw [itoaS_size, Lib.itoa_neg u (by omega)]
    have := nDig_le 19 u (by have : (10 : Nat) ^ (19 + 1) = 100000000000000000000 := by decide
                             omega)
    have := Lib.decDigits_length u
    simp; omega
  · obtain ⟨u, rfl⟩ : ∃ u : Nat, x = u := ⟨x.toNat, by omega⟩
    rw [itoaS_nat_size]
    have := nDig_le 19 u (by have : (10 : Nat) ^ (19 + 1) = 100000000000000000000 := by decide
                             omega)
    omega

end Go.Proofs.YtkiphejkgpfjjaaDoor
