/- Plain facts of the digits of a number in some columns, and of numbers that are put into a part of a list. No function of the program is spoken of. -/
import Derived.Test.YtjfogadcedgndaaDoorDec
import Derived.Test.YtjfogadcedgndaaDoorDigits
import Derived.Test.YtjfogadcedgndaaDoorPunchText
namespace Go.Proofs.YtjfogadcedgndaaDoor
open Go.ChangeShapes Go.WideShapes Go.ChangeAt Go.RowKit

/-- a list with other numbers from a place on -/
def putAt (xs : List Int) (off : Nat) (l : List Int) : List Int := xs.take off ++ l ++ xs.drop (off + l.length)
theorem putAt_length (xs : List Int) (off : Nat) (l : List Int) (h : off + l.length ≤ xs.length) : (putAt xs off l).length = xs.length := by
  simp [putAt]
  omega
theorem putAt_nil (xs : List Int) (off : Nat) : putAt xs off [] = xs := by simp [putAt]
theorem putAt_set (xs : List Int) (off : Nat) (l : List Int) (x : Int) (h : off + l.length < xs.length) : (putAt xs off l).set (off + l.length) x = putAt xs off (l ++ [x]) := by
  have h1 : (xs.take off ++ l).length = off + l.length := by simp; omega
  rw [putAt, List.set_append_right _ _ (by omega), h1, Nat.sub_self, List.drop_eq_getElem_cons h, List.set_cons_zero, putAt]
  simp [Nat.add_assoc]
/-- a number inside what was put -/
theorem putAt_in (xs : List Int) (off : Nat) (l : List Int) (i : Nat) (x : Int) (hi : i < l.length) (h : off + l.length ≤ xs.length) : (putAt xs off l).set (off + i) x = putAt xs off (l.set i x) := by
  have h1 : (xs.take off).length = off := by simp; omega
  have h2 : (l.set i x).length = l.length := by simp
  rw [putAt, putAt, List.append_assoc, List.append_assoc, List.set_append_right _ _ (by omega), h1, show off + i - off = i by omega, List.set_append_left _ _ hi, h2]
theorem putAt_get (xs : List Int) (off : Nat) (l : List Int) (i : Nat) (hi : i < l.length) (h : off + l.length ≤ xs.length) : (putAt xs off l)[off + i]?.getD 0 = l[i]?.getD 0 := by
  have h1 : (xs.take off).length = off := by simp; omega
  rw [putAt, List.append_assoc, List.getElem?_append_right (by omega), h1, show off + i - off = i by omega, List.getElem?_append_left hi]
theorem putAt_far (xs : List Int) (off : Nat) (l : List Int) (i : Nat) (hi : i < off ∨ off + l.length ≤ i) (h : off + l.length ≤ xs.length) : (putAt xs off l)[i]?.getD 0 = xs[i]?.getD 0 := by
  have h1 : (xs.take off).length = off := by simp; omega
  rcases hi with hi | hi
  · rw [putAt, List.append_assoc, List.getElem?_append_left (by omega), List.getElem?_take_of_lt hi]
  · rw [putAt, List.getElem?_append_right (by simp; omega), List.getElem?_drop]
    congr 2
    simp
    omega

/-- the holes of the last w digits of u -/
def digW (u : Nat) : Nat → List Int
  | 0 => []
  | j + 1 => rowBit ((u / 10 ^ j % 10 : Nat) : Int) :: digW u j
theorem digW_length (u : Nat) : ∀ w, (digW u w).length = w
  | 0 => rfl
  | j + 1 => by rw [digW, List.length_cons, digW_length u j]
theorem digW_last (u : Nat) : ∀ j, digW u (j + 1) = digW (u / 10) j ++ [rowBit ((u % 10 : Nat) : Int)]
  | 0 => by simp [digW]
  | j + 1 => by
    rw [digW, digW_last u j, digW, List.cons_append]
    congr 3
    rw [Nat.pow_succ, Nat.mul_comm, Nat.div_div_eq_div_mul]
theorem digW_zero : ∀ w, digW 0 w = List.replicate w (rowBit 0)
  | 0 => rfl
  | j + 1 => by
    rw [digW, digW_zero j, List.replicate_succ]
    simp
theorem dig_code (d : Nat) (h : d < 10) : codeS (((UInt8.ofNat (48 + d)).toNat : Nat) : Int) = rowBit (d : Int) := by
  have e : (UInt8.ofNat (48 + d)).toNat = 48 + d := by rw [UInt8.toNat_ofNat']; omega
  rw [e, codeS_digit _ (by omega)]
  congr 1
  omega
def codesB (l : List UInt8) : List Int := l.map fun b => codeS (b.toNat : Int)
theorem dz_codes : ∀ (w u : Nat), u < 10 ^ w → (dz u).length ≤ w ∧ List.replicate (w - (dz u).length) (rowBit 0) ++ codesB (dz u) = digW u w
  | 0, u, h => by
    have : u = 0 := by simpa using h
    subst this
    simp [dz_zero, codesB, digW]
  | w + 1, u, h => by
    rcases Nat.eq_zero_or_pos u with h0 | h0
    · subst h0
      rw [dz_zero, digW_zero]
      simp [codesB]
    · have hq : u / 10 < 10 ^ w := by
        rw [Nat.pow_succ] at h
        omega
      obtain ⟨ih1, ih2⟩ := dz_codes w (u / 10) hq
      rw [dz_step h0, digW_last, ← ih2]
      refine ⟨by simp; omega, ?_⟩
      have e : w + 1 - ((dz (u / 10)).length + 1) = w - (dz (u / 10)).length := by omega
      rw [List.length_append, List.length_cons, List.length_nil, Nat.zero_add, e]
      simp only [codesB, List.map_append, List.map_cons, List.map_nil, List.append_assoc]
      rw [dig_code _ (by omega)]
/-- the text of a number with zeros in front -/
theorem dec_codes (w u : Nat) (h : u < 10 ^ w) (hw : 0 < w) : (Lib.decDigits u).length ≤ w ∧ List.replicate (w - (Lib.decDigits u).length) (rowBit 0) ++ codesB (Lib.decDigits u) = digW u w := by
  rcases Nat.eq_zero_or_pos u with h0 | h0
  · subst h0
    have e : Lib.decDigits 0 = [48] := by decide +kernel
    rw [e, digW_zero]
    refine ⟨by simp; omega, ?_⟩
    obtain ⟨v, rfl⟩ : ∃ v, w = v + 1 := ⟨w - 1, by omega⟩
    rw [List.replicate_succ']
    rfl
  · rw [← dz_pos h0]
    exact dz_codes w u h
theorem dec_long (w u : Nat) (h : 10 ^ w ≤ u) : w < (Lib.decDigits u).length := by
  rw [Lib.decDigits_length]
  have := Lib.lt_pow_nDigits u
  exact (Nat.pow_lt_pow_iff_right (by omega)).1 (Nat.lt_of_le_of_lt h this)

/-- the columns of a number -/
def numW (n : Int) (w : Nat) : List Int := if n < 0 then (digW n.natAbs w).set (w - 1) (bits .or .i64 ((digW n.natAbs w)[w - 1]?.getD 0) 2) else digW n.natAbs w
theorem numW_length (n : Int) (w : Nat) : (numW n w).length = w := by
  unfold numW
  split <;> simp [digW_length]
theorem numW_pos (n : Int) (w : Nat) (h : ¬ n < 0) : numW n w = digW n.natAbs w := if_neg h
theorem numW_neg (n : Int) (w : Nat) (h : n < 0) : numW n w = (digW n.natAbs w).set (w - 1) (bits .or .i64 ((digW n.natAbs w)[w - 1]?.getD 0) 2) := if_pos h

/-- what stands in the columns while digits are put from the right -/
def putTo (u w j : Nat) : List Int := List.replicate (w - j) 0 ++ digW u j
theorem putTo_zero (u w : Nat) : putTo u w 0 = List.replicate w 0 := by simp [putTo, digW]
theorem putTo_all (u w : Nat) : putTo u w w = digW u w := by simp [putTo]
theorem putTo_length (u w j : Nat) (h : j ≤ w) : (putTo u w j).length = w := by simp [putTo, digW_length]; omega
theorem putTo_set (u w j : Nat) (h : j < w) : (putTo u w j).set (w - j - 1) (rowBit ((u / 10 ^ j % 10 : Nat) : Int)) = putTo u w (j + 1) := by
  obtain ⟨r, hr⟩ : ∃ r, w - j = r + 1 := ⟨w - j - 1, by omega⟩
  have h2 : w - (j + 1) = r := by omega
  rw [putTo, putTo, hr, h2, List.replicate_succ', List.append_assoc, List.set_append_right _ _ (by simp), digW]
  simp
end Go.Proofs.YtjfogadcedgndaaDoor
