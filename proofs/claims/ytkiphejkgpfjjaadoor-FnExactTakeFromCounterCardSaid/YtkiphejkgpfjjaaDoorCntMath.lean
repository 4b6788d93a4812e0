/- What counters are, as plain functions on lists of digits, the lowest one first: numbers and their digits, addition with its carries, complements, carries around. No function of the program is spoken of. -/
import Derived.Test.YtkiphejkgpfjjaaDoorBits
namespace Go.Proofs.YtkiphejkgpfjjaaDoor

/-- whether a wheel shows it -/
def digB (x : Int) : Bool := inB x 0 9
def wheelsB (xs : List Int) : Bool := xs.all digB
/-- whether a counter is valid -/
def okK (xs : List Int) : Bool := wheelsB xs && inB xs.length 1 12

theorem wheelsB_take (xs : List Int) (k : Nat) (hk : k < xs.length) : wheelsB (xs.take (k + 1)) = (wheelsB (xs.take k) && digB (xs[k]?.getD 0)) := by
  rw [wheelsB, wheelsB, List.take_succ_eq_append_getElem hk, List.getElem?_eq_getElem hk, List.all_append, List.all_cons, List.all_nil, Bool.and_true]
  rfl
theorem wheelsB_bad (xs : List Int) (k : Nat) (hk : k < xs.length) (h : digB (xs[k]?.getD 0) = false) : wheelsB xs = false := by
  rw [List.getElem?_eq_getElem hk] at h
  rw [wheelsB, List.all_eq_false]
  exact ⟨xs[k], List.getElem_mem hk, by simpa using h⟩
theorem okK_parts {xs : List Int} (h : okK xs = true) : wheelsB xs = true ∧ 1 ≤ xs.length ∧ xs.length ≤ 12 := by
  rw [okK, Bool.and_eq_true] at h
  have := h.2
  simp [inB] at this
  exact ⟨h.1, by omega, by omega⟩
theorem wheels_at {xs : List Int} (h : wheelsB xs = true) (j : Nat) : 0 ≤ xs[j]?.getD 0 ∧ xs[j]?.getD 0 ≤ 9 := by
  rcases Nat.lt_or_ge j xs.length with hj | hj
  · rw [List.getElem?_eq_getElem hj]
    have := List.all_eq_true.1 h xs[j] (List.getElem_mem hj)
    simpa [digB, inB] using this
  · rw [List.getElem?_eq_none hj]
    simp
theorem wheelsB_cons {x : Int} {xs : List Int} : wheelsB (x :: xs) = true ↔ (0 ≤ x ∧ x ≤ 9) ∧ wheelsB xs = true := by
  simp [wheelsB, digB, inB]

/-- the number that is shown -/
def numOf : List Int → Int
  | [] => 0
  | x :: xs => x + 10 * numOf xs
/-- the lowest k digits of a number -/
def digs : Nat → Int → List Int
  | 0, _ => []
  | k + 1, n => n % 10 :: digs k (n / 10)
/-- the digits after an addition with a carry -/
def addL : List Int → List Int → Int → List Int
  | x :: xs, y :: ys, c => (x + y + c) % 10 :: addL xs ys ((x + y + c) / 10)
  | _, _, _ => []
/-- how many wheels give a carry -/
def addM : List Int → List Int → Int → Int
  | x :: xs, y :: ys, c => (x + y + c) / 10 + addM xs ys ((x + y + c) / 10)
  | _, _, _ => 0
/-- the carry that is left -/
def addO : List Int → List Int → Int → Int
  | x :: xs, y :: ys, c => addO xs ys ((x + y + c) / 10)
  | _, _, c => c
/-- the complement -/
def compL (xs : List Int) : List Int := xs.map fun x => 9 - x
/-- an addition whose carry goes around -/
def aroundL (xs ys : List Int) : List Int := if addO xs ys 0 = 1 then addL (addL xs ys 0) (digs xs.length 1) 0 else addL xs ys 0

def p10 (k : Nat) : Int := 10 ^ k
theorem p10_zero : p10 0 = 1 := rfl
theorem p10_succ (k : Nat) : p10 (k + 1) = 10 * p10 k := by unfold p10; rw [Int.pow_succ]; omega
theorem p10_pos (k : Nat) : 1 ≤ p10 k := by
  induction k with
  | zero => simp [p10_zero]
  | succ k ih => rw [p10_succ]; omega
theorem p10_mono {j k : Nat} (h : j ≤ k) : p10 j ≤ p10 k := by
  induction k with
  | zero => obtain rfl : j = 0 := by omega
            exact Int.le_refl _
  | succ k ih =>
    rcases Nat.eq_or_lt_of_le h with rfl | h
    · exact Int.le_refl _
    · have := ih (by omega)
      have := p10_pos k
      rw [p10_succ]
      omega
theorem p10_12 : p10 12 = 1000000000000 := by decide

theorem digs_length : ∀ (k : Nat) (n : Int), (digs k n).length = k
  | 0, _ => rfl
  | k + 1, n => by rw [digs, List.length_cons, digs_length k]
theorem digs_wheels : ∀ (k : Nat) (n : Int), wheelsB (digs k n) = true
  | 0, _ => rfl
  | k + 1, n => by rw [digs, wheelsB_cons]; exact ⟨by omega, digs_wheels k _⟩
theorem div_p10 (n : Int) (k : Nat) : n / 10 / p10 k = n / p10 (k + 1) := by
  rw [p10_succ, Int.ediv_ediv_of_nonneg (by omega)]
theorem div_p10' (n : Int) (k : Nat) : n / p10 k / 10 = n / p10 (k + 1) := by
  rw [p10_succ, Int.ediv_ediv_of_nonneg (by have := p10_pos k; omega), Int.mul_comm]
theorem digs_snoc : ∀ (k : Nat) (n : Int), digs (k + 1) n = digs k n ++ [n / p10 k % 10]
  | 0, n => by simp [digs, p10_zero]
  | k + 1, n => by
    rw [digs, digs_snoc k (n / 10), digs, div_p10]
    rfl
theorem digs_num : ∀ (k : Nat) (n : Int), 0 ≤ n → n < p10 k → numOf (digs k n) = n
  | 0, n, h0, h => by rw [p10_zero] at h; simp [digs, numOf]; omega
  | k + 1, n, h0, h => by
    rw [p10_succ] at h
    rw [digs, numOf, digs_num k (n / 10) (by omega) (by omega)]
    omega
theorem num_bounds : ∀ {xs : List Int}, wheelsB xs = true → 0 ≤ numOf xs ∧ numOf xs < p10 xs.length
  | [], _ => by simp [numOf, p10_zero]
  | x :: xs, h => by
    rw [wheelsB_cons] at h
    have := num_bounds h.2
    rw [numOf, List.length_cons, p10_succ]
    omega
theorem num_digs : ∀ {xs : List Int}, wheelsB xs = true → digs xs.length (numOf xs) = xs
  | [], _ => rfl
  | x :: xs, h => by
    rw [wheelsB_cons] at h
    rw [List.length_cons, digs, numOf, show (x + 10 * numOf xs) % 10 = x by omega, show (x + 10 * numOf xs) / 10 = numOf xs by omega, num_digs h.2]
theorem num_inj {xs ys : List Int} (hx : wheelsB xs = true) (hy : wheelsB ys = true) (hl : xs.length = ys.length) (h : numOf xs = numOf ys) : xs = ys := by
  rw [← num_digs hx, ← num_digs hy, h, hl]
theorem num_snoc : ∀ (xs : List Int) (x : Int), numOf (xs ++ [x]) = numOf xs + p10 xs.length * x
  | [], x => by simp [numOf, p10_zero]
  | y :: xs, x => by
    rw [List.cons_append, numOf, numOf, num_snoc xs x, List.length_cons, p10_succ, Int.mul_add, Int.mul_assoc, Int.add_assoc]

theorem addL_length : ∀ {xs ys : List Int} (c : Int), xs.length = ys.length → (addL xs ys c).length = xs.length
  | [], [], _, _ => rfl
  | x :: xs, y :: ys, c, h => by
    rw [addL, List.length_cons, List.length_cons, addL_length _ (by simpa using h)]
theorem addO_bounds : ∀ {xs ys : List Int} {c : Int}, wheelsB xs = true → wheelsB ys = true → 0 ≤ c → c ≤ 1 → 0 ≤ addO xs ys c ∧ addO xs ys c ≤ 1
  | [], [], c, _, _, h0, h1 => by simp [addO]; omega
  | [], _ :: _, c, _, _, h0, h1 => by simp [addO]; omega
  | _ :: _, [], c, _, _, h0, h1 => by simp [addO]; omega
  | x :: xs, y :: ys, c, hx, hy, h0, h1 => by
    rw [wheelsB_cons] at hx hy
    rw [addO]
    exact addO_bounds hx.2 hy.2 (by omega) (by omega)
theorem addM_bounds : ∀ {xs ys : List Int} {c : Int}, wheelsB xs = true → wheelsB ys = true → 0 ≤ c → c ≤ 1 → 0 ≤ addM xs ys c ∧ addM xs ys c ≤ xs.length
  | [], [], c, _, _, h0, h1 => by simp [addM]
  | [], _ :: _, c, _, _, h0, h1 => by simp [addM]
  | _ :: _, [], c, _, _, h0, h1 => by simp [addM]; omega
  | x :: xs, y :: ys, c, hx, hy, h0, h1 => by
    rw [wheelsB_cons] at hx hy
    have := addM_bounds (c := (x + y + c) / 10) hx.2 hy.2 (by omega) (by omega)
    rw [addM, List.length_cons]
    omega
theorem addL_wheels : ∀ {xs ys : List Int} {c : Int}, wheelsB (addL xs ys c) = true
  | [], [], _ => rfl
  | [], _ :: _, _ => rfl
  | _ :: _, [], _ => rfl
  | x :: xs, y :: ys, c => by
    rw [addL, wheelsB_cons]
    exact ⟨by omega, addL_wheels⟩
/-- the sum -/
theorem add_num : ∀ {xs ys : List Int} (c : Int), xs.length = ys.length → numOf (addL xs ys c) + p10 xs.length * addO xs ys c = numOf xs + numOf ys + c
  | [], [], c, _ => by simp [addL, addO, numOf, p10_zero]
  | x :: xs, y :: ys, c, h => by
    have ih := add_num (xs := xs) (ys := ys) ((x + y + c) / 10) (by simpa using h)
    rw [addL, addO, numOf, numOf, numOf, List.length_cons, p10_succ, Int.mul_assoc]
    omega
theorem addL_snoc : ∀ {xs ys : List Int} (x y c : Int), xs.length = ys.length → addL (xs ++ [x]) (ys ++ [y]) c = addL xs ys c ++ [(x + y + addO xs ys c) % 10]
  | [], [], x, y, c, _ => rfl
  | a :: xs, b :: ys, x, y, c, h => by
    rw [List.cons_append, List.cons_append, addL, addL, addO, addL_snoc x y _ (by simpa using h)]
    rfl
theorem addO_snoc : ∀ {xs ys : List Int} (x y c : Int), xs.length = ys.length → addO (xs ++ [x]) (ys ++ [y]) c = (x + y + addO xs ys c) / 10
  | [], [], x, y, c, _ => rfl
  | a :: xs, b :: ys, x, y, c, h => by
    rw [List.cons_append, List.cons_append, addO, addO, addO_snoc x y _ (by simpa using h)]
theorem addM_snoc : ∀ {xs ys : List Int} (x y c : Int), xs.length = ys.length → addM (xs ++ [x]) (ys ++ [y]) c = addM xs ys c + (x + y + addO xs ys c) / 10
  | [], [], x, y, c, _ => by simp [addM, addO]
  | a :: xs, b :: ys, x, y, c, h => by
    rw [List.cons_append, List.cons_append, addM, addM, addO, addM_snoc x y _ (by simpa using h)]
    omega

theorem compL_length (xs : List Int) : (compL xs).length = xs.length := by simp [compL]
theorem compL_wheels : ∀ {xs : List Int}, wheelsB xs = true → wheelsB (compL xs) = true
  | [], _ => rfl
  | x :: xs, h => by
    rw [wheelsB_cons] at h
    rw [compL, List.map_cons, wheelsB_cons]
    exact ⟨by omega, compL_wheels h.2⟩
theorem comp_num : ∀ (xs : List Int), numOf (compL xs) = p10 xs.length - 1 - numOf xs
  | [] => by simp [compL, numOf, p10_zero]
  | x :: xs => by
    have ih := comp_num xs
    rw [compL] at ih
    rw [compL, List.map_cons, numOf, numOf, ih, List.length_cons, p10_succ]
    omega
theorem comp_digs {k : Nat} {n : Int} (h0 : 0 ≤ n) (h1 : n < p10 k) : digs k (p10 k - 1 - n) = compL (digs k n) := by
  have hw := compL_wheels (digs_wheels k n)
  have := num_digs hw
  rw [comp_num, compL_length, digs_length, digs_num k n h0 h1] at this
  exact this
/-- adding 1 is adding a carry to nothing -/
theorem add_one (xs : List Int) : addL xs (digs xs.length 1) 0 = addL xs (List.replicate xs.length 0) 1 := by
  cases xs with
  | nil => rfl
  | cons x xs =>
    have h0 : ∀ k, digs k 0 = List.replicate k (0 : Int) := by
      intro k
      induction k with
      | zero => rfl
      | succ k ih => simp [digs, ih, List.replicate_succ]
    rw [List.length_cons, digs, List.replicate_succ, addL, addL, show (1 : Int) % 10 = 1 by rfl, show (1 : Int) / 10 = 0 by rfl, h0]
    simp
theorem digs_zero : ∀ k, digs k 0 = List.replicate k (0 : Int)
  | 0 => rfl
  | k + 1 => by simp [digs, digs_zero k, List.replicate_succ]
theorem digs_pad : ∀ (k : Nat) (n : Int), 0 ≤ n → n < p10 k → digs (k + 1) n = digs k n ++ [0] := fun k n h0 h1 => by
  rw [digs_snoc, Int.ediv_eq_zero_of_lt h0 h1]
  rfl
theorem aroundL_length {xs ys : List Int} (h : xs.length = ys.length) : (aroundL xs ys).length = xs.length := by
  unfold aroundL
  split
  · rw [addL_length _ (by rw [addL_length _ h, digs_length]), addL_length _ h]
  · exact addL_length _ h
theorem aroundL_wheels {xs ys : List Int} : wheelsB (aroundL xs ys) = true := by
  unfold aroundL
  split <;> exact addL_wheels
end Go.Proofs.YtkiphejkgpfjjaaDoor
