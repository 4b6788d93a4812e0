/- Decimal numerals: what a text of digits spells, and that the library's reading of a numeral gives its number. No function of the program is spoken of. -/
import Derived.Test.YtfjokjdfekkbiacDoorDec
import Derived.Lib.ParseIntB
import Derived.Lib.ParseIntBCases
namespace Go.Proofs.YtfjokjdfekkbiacDoor
open Go.ChangeShapes Go.WideShapes Go.ChangeAt Go.RowKit

def isDig (c : UInt8) : Prop := 48 ≤ c.toNat ∧ c.toNat ≤ 57
def valD (l : List UInt8) : Nat := l.foldl (fun a c => 10 * a + (c.toNat - 48)) 0
theorem valD_snoc (l : List UInt8) (c : UInt8) : valD (l ++ [c]) = 10 * valD l + (c.toNat - 48) := by simp [valD, List.foldl_append]
theorem valD_take (l : List UInt8) (k : Nat) (hk : k < l.length) : valD (l.take (k + 1)) = 10 * valD (l.take k) + ((l[k]'hk).toNat - 48) := by
  rw [List.take_succ_eq_append_getElem hk, valD_snoc]
theorem valD_lt (l : List UInt8) (h : ∀ c ∈ l, isDig c) : ∀ k, k ≤ l.length → valD (l.take k) < 10 ^ k
  | 0, _ => by simp [valD]
  | k + 1, hk => by
    have ih := valD_lt l h k (by omega)
    have hd := h (l[k]'(by omega)) (List.getElem_mem _)
    rw [valD_take l k (by omega), Nat.pow_succ]
    unfold isDig at hd
    omega
theorem ofNat_toNat (d : Nat) (h : d < 10) : (UInt8.ofNat (48 + d)).toNat = 48 + d := by rw [UInt8.toNat_ofNat']; omega
theorem dec_digits (u : Nat) : ∀ c ∈ Lib.decDigits u, isDig c := by
  induction u using Nat.strongRecOn with
  | _ u ih =>
    intro c hc
    by_cases h9 : u < 10
    · rw [Lib.decDigits_one h9] at hc
      obtain rfl : c = UInt8.ofNat (48 + u) := by simpa using hc
      unfold isDig
      rw [ofNat_toNat u h9]
      omega
    · rw [Lib.decDigits, dif_neg h9, List.mem_append] at hc
      rcases hc with hc | hc
      · exact ih (u / 10) (by omega) c hc
      · obtain rfl : c = UInt8.ofNat (48 + u % 10) := by simpa using hc
        unfold isDig
        rw [ofNat_toNat (u % 10) (by omega)]
        omega
theorem valD_dec (u : Nat) : valD (Lib.decDigits u) = u := by
  induction u using Nat.strongRecOn with
  | _ u ih =>
    by_cases h9 : u < 10
    · rw [Lib.decDigits_one h9]
      simp only [valD, List.foldl]
      rw [ofNat_toNat u h9]
      omega
    · rw [Lib.decDigits, dif_neg h9, valD_snoc, ih (u / 10) (by omega), ofNat_toNat (u % 10) (by omega)]
      omega
theorem pum_digit (M acc : Nat) (c : UInt8) (h : isDig c) (h1 : acc < 1844674407370955161) (hM : M = 2 ^ 64 - 1) (r : List UInt8) : Lib.parseUintM M acc (c :: r) = Lib.parseUintM M (acc * 10 + (c.toNat - 48)) r := by
  unfold isDig at h
  rw [Lib.parseUintM, if_pos h, if_neg (by omega), if_neg (by subst hM; omega)]
theorem pum_all (l : List UInt8) (h : ∀ c ∈ l, isDig c) (hv : valD l < 1000000000000000000) : ∀ k, k ≤ l.length → Lib.parseUintM (2 ^ 64 - 1) 0 l = Lib.parseUintM (2 ^ 64 - 1) (valD (l.take k)) (l.drop k)
  | 0, _ => by simp [valD]
  | k + 1, hk => by
    rw [pum_all l h hv k (by omega), List.drop_eq_getElem_cons (by omega)]
    have hlt : ∀ j, valD (l.take k) ≤ valD (l.take (k + j)) := by
      intro j
      induction j with
      | zero => exact Nat.le_refl _
      | succ j ih =>
        by_cases hj : k + j < l.length
        · rw [← Nat.add_assoc, valD_take l (k + j) hj]
          omega
        · have e1 : l.take (k + j + 1) = l := List.take_of_length_le (by omega)
          have e2 : l.take (k + j) = l := List.take_of_length_le (by omega)
          rw [← Nat.add_assoc, e1]
          rw [e2] at ih
          exact ih
    have := hlt (l.length - k)
    rw [show k + (l.length - k) = l.length by omega, List.take_length] at this
    rw [pum_digit _ _ _ (h _ (List.getElem_mem _)) (by omega) rfl, valD_take l k (by omega), Nat.mul_comm]
theorem parseUint_dec (u : Nat) (h : u < 1000000000000000000) : Lib.parseUintB 64 (Lib.decDigits u) = .ok u := by
  have hne : Lib.decDigits u ≠ [] := by
    intro e
    have := congrArg List.length e
    rw [Lib.decDigits_length, Lib.nDigits] at this
    split at this <;> simp at this
  rw [Lib.parseUintB, if_neg hne, pum_all _ (dec_digits u) (by rw [valD_dec]; exact h) (Lib.decDigits u).length (Nat.le_refl _), List.take_length, valD_dec, List.drop_length]
  rfl
theorem dec_cons (u : Nat) : ∃ c r, Lib.decDigits u = c :: r ∧ isDig c := by
  cases e : Lib.decDigits u with
  | nil =>
    have := congrArg List.length e
    rw [Lib.decDigits_length, Lib.nDigits] at this
    split at this <;> simp at this
  | cons c r => exact ⟨c, r, rfl, dec_digits u c (by rw [e]; simp)⟩
/-- reading a numeral of at most 18 digits gives its number -/
theorem parse_itoa (n : Int) (h0 : -999999999999999999 ≤ n) (h1 : n ≤ 999999999999999999) : Lib.parseIntB 64 (Lib.itoa n) = .ok n := by
  by_cases hn : n < 0
  · obtain ⟨u, rfl⟩ : ∃ u : Nat, n = -(u : Int) := ⟨n.natAbs, by omega⟩
    rw [Lib.itoa_neg u (by omega), Lib.parseIntB]
    have e45 : (45 : UInt8).toNat = 45 := rfl
    simp only [e45, or_true, if_true, parseUint_dec u (by omega), not_true, false_and, if_false, true_and]
    rw [if_neg (by omega)]
  · obtain ⟨u, rfl⟩ : ∃ u : Nat, n = u := ⟨n.natAbs, by omega⟩
    obtain ⟨c, r, e, hc⟩ := dec_cons u
    have hp := parseUint_dec u (by omega)
    rw [Lib.itoa_nonneg]
    rw [e] at hp ⊢
    unfold isDig at hc
    have h43 : ¬ (c.toNat = 43 ∨ c.toNat = 45) := by omega
    have h45 : ¬ c.toNat = 45 := by omega
    have hb : ¬ 2 ^ (64 - 1) ≤ u := by omega
    simp only [Lib.parseIntB, if_neg h43, hp]
    rw [if_neg (by rintro ⟨_, h⟩; exact hb h), if_neg (by rintro ⟨h, _⟩; exact h45 h), if_neg h45]

theorem dig_le : ∀ (k u : Nat), u < 10 ^ (k + 1) → Lib.nDigits u ≤ k + 1
  | 0, u, h => by rw [Lib.nDigits_small (by simpa using h)]; omega
  | k + 1, u, h => by
    by_cases h9 : u < 10
    · rw [Lib.nDigits_small h9]
      omega
    · rw [Lib.nDigits_big h9]
      have := dig_le k (u / 10) (by rw [Nat.pow_succ] at h; exact Nat.div_lt_of_lt_mul (by rw [Nat.mul_comm]; exact h))
      omega
theorem dec_len (u : Nat) (h : u < 1000000000000000000) : 1 ≤ (Lib.decDigits u).length ∧ (Lib.decDigits u).length ≤ 18 := by
  rw [Lib.decDigits_length]
  have e : (10 : Nat) ^ (17 + 1) = 1000000000000000000 := by decide
  exact ⟨Lib.nDigits_pos u, dig_le 17 u (by omega)⟩
end Go.Proofs.YtfjokjdfekkbiacDoor
