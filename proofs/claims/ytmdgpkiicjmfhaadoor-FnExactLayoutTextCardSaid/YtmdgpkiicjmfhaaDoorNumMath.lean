/- The number in columns: a plain function on lists, and its steps. No function of the program is spoken of but the digits of holes. -/
import Derived.Test.YtmdgpkiicjmfhaaDoorDigits
namespace Go.Proofs.YtmdgpkiicjmfhaaDoor
open Go.ChangeShapes Go.WideShapes Go.ChangeAt Go.RowKit

theorem minus_all : ∀ a b : Fin 64, (bits .and .i64 ((64 * a.val + b.val : Nat) : Int) 2 = 0 ∧ bits .andNot .i64 ((64 * a.val + b.val : Nat) : Int) 2 = ((64 * a.val + b.val : Nat) : Int)) ∨
    (bits .and .i64 ((64 * a.val + b.val : Nat) : Int) 2 = 2 ∧ bits .andNot .i64 ((64 * a.val + b.val : Nat) : Int) 2 = ((64 * a.val + b.val : Nat) : Int) - 2) := by decide +kernel
/-- the sign's hole is there or not -/
theorem minus_cases (m : Int) (h0 : 0 ≤ m) (h1 : m ≤ 4095) : (bits .and .i64 m 2 = 0 ∧ bits .andNot .i64 m 2 = m) ∨ (bits .and .i64 m 2 = 2 ∧ bits .andNot .i64 m 2 = m - 2) := by
  obtain ⟨n, rfl⟩ : ∃ n : Nat, m = n := ⟨m.toNat, by omega⟩
  have := minus_all ⟨n / 64, by omega⟩ ⟨n % 64, by omega⟩
  simp only at this
  have e : 64 * (n / 64) + n % 64 = n := by omega
  rw [e] at this
  exact this

theorem digM_zero : digM 0 = none := by decide +kernel

def numStep (st : Option (Int × Bool)) (m : Int) : Option (Int × Bool) :=
  match st with
  | none => none
  | some (n, b) => match digM m with
    | some d => some (10 * n + d, true)
    | none => if b = false ∧ m = 0 then some (n, b) else none
/-- what the first k columns tell, none of them the last -/
def numTo (ys : List Int) (k : Nat) : Option (Int × Bool) := (ys.take k).foldl numStep (some (0, false))
theorem numTo_zero (ys : List Int) : numTo ys 0 = some (0, false) := rfl
theorem numTo_step (ys : List Int) (k : Nat) (hk : k < ys.length) : numTo ys (k + 1) = numStep (numTo ys k) (ys[k]?.getD 0) := by
  rw [numTo, List.take_succ_eq_append_getElem hk, List.foldl_append, List.getElem?_eq_getElem hk]
  rfl
theorem numStep_digit {n : Int} {b : Bool} {m : Int} {d : Nat} (h : digM m = some d) : numStep (some (n, b)) m = some (10 * n + d, true) := by simp [numStep, h]
theorem numStep_blank {n : Int} : numStep (some (n, false)) 0 = some (n, false) := by simp [numStep, digM_zero]
theorem numStep_bad {n : Int} {b : Bool} {m : Int} (h : digM m = none) (h' : b = true ∨ m ≠ 0) : numStep (some (n, b)) m = none := by
  simp only [numStep, h]
  rw [if_neg]
  rintro ⟨rfl, rfl⟩
  rcases h' with h' | h' <;> simp at h'
theorem numStep_bd {n n' : Int} {b b' : Bool} {m : Int} {k : Nat} (h : numStep (some (n, b)) m = some (n', b')) (h0 : 0 ≤ n) (h1 : n < 10 ^ k) (hb : b = false → n = 0) : 0 ≤ n' ∧ n' < 10 ^ (k + 1) ∧ (b' = false → n' = 0) := by
  have hp : (10 : Int) ^ (k + 1) = 10 * 10 ^ k := by rw [Int.pow_succ, Int.mul_comm]
  cases e : digM m with
  | some d =>
    obtain ⟨_, _, hd⟩ := dig_char e
    rw [numStep_digit e] at h
    simp only [Option.some.injEq, Prod.mk.injEq] at h
    obtain ⟨rfl, rfl⟩ := h
    refine ⟨by omega, by rw [hp]; omega, by simp⟩
  | none =>
    simp only [numStep, e] at h
    split at h
    · simp only [Option.some.injEq, Prod.mk.injEq] at h
      obtain ⟨rfl, rfl⟩ := h
      exact ⟨h0, by rw [hp]; omega, hb⟩
    · cases h
theorem numTo_bd (ys : List Int) : ∀ (k : Nat) (n : Int) (b : Bool), k ≤ ys.length → numTo ys k = some (n, b) → 0 ≤ n ∧ n < 10 ^ k ∧ (b = false → n = 0)
  | 0, n, b, _, h => by
    rw [numTo_zero] at h
    simp only [Option.some.injEq, Prod.mk.injEq] at h
    obtain ⟨rfl, rfl⟩ := h
    exact ⟨by omega, by simp, fun _ => rfl⟩
  | k + 1, n, b, hk, h => by
    rw [numTo_step ys k (by omega)] at h
    cases e : numTo ys k with
    | none => rw [e] at h; cases h
    | some p =>
      obtain ⟨n0, b0⟩ := p
      rw [e] at h
      obtain ⟨a1, a2, a3⟩ := numTo_bd ys k n0 b0 (by omega) e
      exact numStep_bd h a1 a2 a3
theorem pow_all : ∀ k : Fin 13, (10 : Int) ^ k.val ≤ 1000000000000 := by decide
theorem pow_12 {k : Nat} (h : k ≤ 12) : (10 : Int) ^ k ≤ 1000000000000 := pow_all ⟨k, by omega⟩

/-- what the last column's step gives: the number, none if there is none -/
def numEnd (st : Option (Int × Bool)) (m : Int) : Option Int :=
  match numStep st (bits .andNot .i64 m 2) with
  | none => none
  | some (n, _) => if bits .and .i64 m 2 = 0 then some n else if n = 0 then none else some (-n)
/-- the number in columns -/
def numOf (ys : List Int) : Option Int := numEnd (numTo ys (ys.length - 1)) (ys[ys.length - 1]?.getD 0)
theorem numOf_bad {ys : List Int} {k : Nat} (hk : k + 1 ≤ ys.length) (h : numTo ys k = none) : numOf ys = none := by
  have hn : ∀ j, k + j ≤ ys.length → numTo ys (k + j) = none := by
    intro j
    induction j with
    | zero => intro _; exact h
    | succ j ih =>
      intro hj
      rw [← Nat.add_assoc, numTo_step ys (k + j) (by omega), ih (by omega)]
      rfl
  have := hn (ys.length - 1 - k) (by omega)
  rw [show k + (ys.length - 1 - k) = ys.length - 1 by omega] at this
  rw [numOf, this]
  rfl
theorem numOf_last {ys : List Int} {k : Nat} (hk : k + 1 = ys.length) : numOf ys = numEnd (numTo ys k) (ys[k]?.getD 0) := by
  have e : ys.length - 1 = k := by omega
  rw [numOf, e]
def numV (o : Option Int) : Int := match o with | some n => n | none => 0
def numCode (o : Option Int) : Int := match o with | some _ => 0 | none => 8
end Go.Proofs.YtmdgpkiicjmfhaaDoor
