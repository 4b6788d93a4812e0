/- Plain facts of holes that differ: their number in a column and in a card, bounds, symmetry, and the code of two cards. -/
import Derived.Test.YthkfdfocghmmeabDoorCount
import Derived.Laws.Bits64
namespace Go.Proofs.YthkfdfocghmmeabDoor
open Go.ChangeShapes Go.WideShapes Go.ChangeAt Go.RowKit

theorem xor_nat (a b : Nat) (ha : a < 4096) (hb : b < 4096) : bits .xor .i64 (a : Int) (b : Int) = ((a ^^^ b : Nat) : Int) ∧ a ^^^ b < 4096 := by
  have hx : a ^^^ b < 2 ^ 12 := Nat.xor_lt_two_pow (by omega) (by omega)
  refine ⟨?_, by omega⟩
  have h1 : (BitVec.ofInt 64 (a : Int)).toNat = a := by
    rw [BitVec.ofInt_natCast, BitVec.toNat_ofNat]; exact Nat.mod_eq_of_lt (by omega)
  have h2 : (BitVec.ofInt 64 (b : Int)).toNat = b := by
    rw [BitVec.ofInt_natCast, BitVec.toNat_ofNat]; exact Nat.mod_eq_of_lt (by omega)
  show IntKind.i64.wrap ((BitVec.ofInt 64 (a : Int) ^^^ BitVec.ofInt 64 (b : Int)).toNat : Int) = _
  rw [BitVec.toNat_xor, h1, h2]
  simp [IntKind.wrap, IntKind.bits, IntKind.signed]
  omega

/-- in how many rows two columns differ -/
def df (x y : Int) : Nat := popc 12 (bits .xor .i64 x y).toNat
theorem df_le (x y : Int) : df x y ≤ 12 := popc_le 12 _
/-- What the walks want of two masks. -/
theorem xor_mask {x y : Int} (hx : 0 ≤ x ∧ x ≤ 4095) (hy : 0 ≤ y ∧ y ≤ 4095) : ∃ m : Nat, bits .xor .i64 x y = m ∧ m < 4096 ∧ popc 12 m = df x y := by
  obtain ⟨a, rfl⟩ : ∃ a : Nat, x = a := ⟨x.toNat, by omega⟩
  obtain ⟨b, rfl⟩ : ∃ b : Nat, y = b := ⟨y.toNat, by omega⟩
  obtain ⟨e, h⟩ := xor_nat a b (by omega) (by omega)
  exact ⟨a ^^^ b, e, h, by rw [df, e, Int.toNat_natCast]⟩
theorem df_comm {x y : Int} (hx : 0 ≤ x ∧ x ≤ 4095) (hy : 0 ≤ y ∧ y ≤ 4095) : df x y = df y x := by
  obtain ⟨a, rfl⟩ : ∃ a : Nat, x = a := ⟨x.toNat, by omega⟩
  obtain ⟨b, rfl⟩ : ∃ b : Nat, y = b := ⟨y.toNat, by omega⟩
  rw [df, df, (xor_nat a b (by omega) (by omega)).1, (xor_nat b a (by omega) (by omega)).1, Nat.xor_comm]
theorem popc_pos : ∀ (k m : Nat), m < 2 ^ k → popc k m = 0 → m = 0
  | 0, m, h, _ => by simp at h; exact h
  | k + 1, m, h, e => by
    rw [popc] at e
    rw [Nat.pow_succ] at h
    have := popc_pos k (m / 2) (by omega) (by omega)
    omega
theorem df_zero {x y : Int} (hx : 0 ≤ x ∧ x ≤ 4095) (hy : 0 ≤ y ∧ y ≤ 4095) : df x y = 0 ↔ x = y := by
  obtain ⟨a, rfl⟩ : ∃ a : Nat, x = a := ⟨x.toNat, by omega⟩
  obtain ⟨b, rfl⟩ : ∃ b : Nat, y = b := ⟨y.toNat, by omega⟩
  obtain ⟨e, h⟩ := xor_nat a b (by omega) (by omega)
  rw [df, e, Int.toNat_natCast]
  constructor
  · intro hp
    have h0 := popc_pos 12 _ h hp
    have : a = b := by
      have h1 : (a ^^^ b) ^^^ b = b := by rw [h0]; simp
      rw [Nat.xor_assoc, Nat.xor_self] at h1
      simpa using h1
    omega
  · intro hab
    have : a = b := by omega
    subst this
    rw [Nat.xor_self]
    exact popc_zero 12

/-- in how many places two cards differ -/
def distN (xs ys : List Int) : Nat := (List.zipWith df xs ys).sum
theorem distN_nil : distN [] [] = 0 := rfl
theorem distN_le : ∀ xs ys : List Int, distN xs ys ≤ 12 * xs.length
  | [], _ => by simp [distN]
  | _ :: _, [] => by simp [distN]
  | x :: xs, y :: ys => by
    have h1 := distN_le xs ys
    have h2 := df_le x y
    simp only [distN, List.zipWith_cons_cons, List.sum_cons, List.length_cons] at h1 ⊢
    omega
theorem distN_drop (xs ys : List Int) (j : Nat) (h : j < xs.length) (h' : j < ys.length) : distN (xs.drop j) (ys.drop j) = df (xs[j]?.getD 0) (ys[j]?.getD 0) + distN (xs.drop (j + 1)) (ys.drop (j + 1)) := by
  rw [distN, distN, List.drop_eq_getElem_cons h, List.drop_eq_getElem_cons h', List.zipWith_cons_cons, List.sum_cons, List.getElem?_eq_getElem h, List.getElem?_eq_getElem h']
  rfl
theorem distN_comm : ∀ xs ys : List Int, legalB xs = true → legalB ys = true → distN xs ys = distN ys xs
  | [], [], _, _ => rfl
  | [], _ :: _, _, _ => rfl
  | _ :: _, [], _, _ => rfl
  | x :: xs, y :: ys, h, h' => by
    simp only [legalB, List.all_cons, Bool.and_eq_true, maskB, inB, decide_eq_true_eq] at h h'
    have h1 := distN_comm xs ys (by simpa [legalB, maskB, inB] using h.2) (by simpa [legalB, maskB, inB] using h'.2)
    rw [distN, distN] at h1
    rw [distN, distN, List.zipWith_cons_cons, List.zipWith_cons_cons, List.sum_cons, List.sum_cons, h1, df_comm h.1 h'.1]
theorem distN_zero : ∀ xs ys : List Int, legalB xs = true → legalB ys = true → xs.length = ys.length → (distN xs ys = 0 ↔ xs = ys)
  | [], [], _, _, _ => by simp [distN]
  | [], _ :: _, _, _, h => by simp at h
  | _ :: _, [], _, _, h => by simp at h
  | x :: xs, y :: ys, h, h', hl => by
    simp only [legalB, List.all_cons, Bool.and_eq_true, maskB, inB, decide_eq_true_eq] at h h'
    have h1 := distN_zero xs ys (by simpa [legalB, maskB, inB] using h.2) (by simpa [legalB, maskB, inB] using h'.2) (by simpa using hl)
    rw [distN] at h1
    rw [distN, List.zipWith_cons_cons, List.sum_cons, List.cons.injEq, ← df_zero h.1 h'.1, ← h1]
    omega

/-- the code of two cards that should have as many columns -/
def pairCode (xs ys : List Int) : Int := if okB xs = false then 1 else if okB ys = false then 1 else if xs.length = ys.length then 0 else 2
theorem pairCode_cases (xs ys : List Int) : (pairCode xs ys = 1 ∧ okB xs = false) ∨ (pairCode xs ys = 1 ∧ okB xs = true ∧ okB ys = false) ∨ (pairCode xs ys = 2 ∧ okB xs = true ∧ okB ys = true ∧ xs.length ≠ ys.length) ∨
    (pairCode xs ys = 0 ∧ okB xs = true ∧ okB ys = true ∧ xs.length = ys.length) := by
  unfold pairCode
  cases okB xs <;> cases okB ys <;> by_cases h : xs.length = ys.length <;> simp [h]
theorem pairCode_zero {xs ys : List Int} (h : pairCode xs ys = 0) : okB xs = true ∧ okB ys = true ∧ xs.length = ys.length := by
  rcases pairCode_cases xs ys with ⟨e, _⟩ | ⟨e, _⟩ | ⟨e, _⟩ | ⟨_, h⟩
  · rw [h] at e; exact absurd e (by decide)
  · rw [h] at e; exact absurd e (by decide)
  · rw [h] at e; exact absurd e (by decide)
  · exact h
end Go.Proofs.YthkfdfocghmmeabDoor
