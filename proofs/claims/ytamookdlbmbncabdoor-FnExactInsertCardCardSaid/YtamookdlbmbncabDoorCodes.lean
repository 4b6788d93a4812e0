/- The holes of a character: spec.l03Code, spec.CodeOf and impl.CodeOf, for every byte: contracts, of spec.l01Digit and impl.bitAt too. -/
import Derived.Test.YtamookdlbmbncabDoorBits
import Derived.Lib.Bytealg
import Derived.Outline
import Derived.Lib.Hide
namespace Go.Proofs.YtamookdlbmbncabDoor
open Go.ChangeShapes Go.WideShapes Go.ChangeAt Go.RowKit

theorem l01Digit_any (n : Int) (w : World) :
    Calls Tryd.prog 64 #[.int .u8 n] w fun e w' => e = .returned (.bool (inB n 48 57)) ∧ w = w' := by
  by_cases h1 : 48 ≤ n
  · by_cases h2 : n ≤ 57
    · have e : inB n 48 57 = true := by simp [inB, h1, h2]
      rw [e]
      clear e
      go_enter Tryd.func64, Tryd.ntmps64
      go_wp2
      go_ret
      exact ⟨rfl, rfl⟩
    · have e : inB n 48 57 = false := by simp [inB, h2]
      rw [e]
      clear e
      go_enter Tryd.func64, Tryd.ntmps64
      go_wp2
      go_ret
      exact ⟨rfl, rfl⟩
  · have e : inB n 48 57 = false := by simp [inB, h1]
    rw [e]
    clear e
    go_enter Tryd.func64, Tryd.ntmps64
    go_wp2
    go_ret
    exact ⟨rfl, rfl⟩

/-- the number of the holes of a byte, -1 if there is none -/
def codeS (c : Int) : Int :=
  if c = 32 then 0 else if c = 38 then 1 else if c = 45 then 2 else if c = 47 then 12
  else if 48 ≤ c ∧ c ≤ 57 then rowBit (c - 48) else if 65 ≤ c ∧ c ≤ 73 then bits .or .i64 1 (rowBit (c - 65 + 1))
  else if 74 ≤ c ∧ c ≤ 82 then bits .or .i64 2 (rowBit (c - 74 + 1)) else if 83 ≤ c ∧ c ≤ 90 then bits .or .i64 4 (rowBit (c - 83 + 2)) else -1

theorem codeS_cases (c : Int) (_ : 0 ≤ c) (_ : c ≤ 255) : c = 32 ∨ c = 38 ∨ c = 45 ∨ c = 47 ∨ (48 ≤ c ∧ c ≤ 57) ∨ (65 ≤ c ∧ c ≤ 73) ∨ (74 ≤ c ∧ c ≤ 82) ∨ (83 ≤ c ∧ c ≤ 90) ∨
    (c < 48 ∧ c ≠ 32 ∧ c ≠ 38 ∧ c ≠ 45 ∧ c ≠ 47) ∨ (58 ≤ c ∧ c ≤ 64) ∨ 91 ≤ c := by omega

theorem neq_b {a b : Int} (h : a ≠ b) : (a == b) = false := by simpa using h

theorem l03Code_any (c : Int) (h0 : 0 ≤ c) (h1 : c ≤ 255) (w : World) :
    Calls Tryd.prog 60 #[.int .u8 c] w fun e w' => e = .returned (.int .i64 (codeS c)) ∧ w = w' := by
  have hbit := l02Bit_any
  have hdig := l01Digit_any c
  have HB := Lib.hid hbit
  clear hbit
  rcases codeS_cases c h0 h1 with rfl | rfl | rfl | rfl | h | h | h | h | h | h | h
  · clear h0 h1 hdig
    go_enter Tryd.func60, Tryd.ntmps60
    go_wp2
    go_ret
    exact ⟨rfl, rfl⟩
  · clear h0 h1 hdig
    go_enter Tryd.func60, Tryd.ntmps60
    go_wp2
    go_ret
    exact ⟨rfl, rfl⟩
  · clear h0 h1 hdig
    go_enter Tryd.func60, Tryd.ntmps60
    go_wp2
    go_ret
    exact ⟨rfl, rfl⟩
  · clear h0 h1 hdig
    have hb : ∀ W, Calls Tryd.prog 63 #[.int .i64 1] W fun e w' => e = .returned (.int .i64 8) ∧ W = w' := fun W => HB.out 1 W
    have HB1 := Lib.hid hb
    clear hb
    go_enter Tryd.func60, Tryd.ntmps60
    go_wp2_with (go_at_call 63; refine (HB1.out _).mono ?_; rintro e w' ⟨rfl, rfl⟩)
    go_ret
    exact ⟨rfl, rfl⟩
  all_goals
    have n1 : (c == 32) = false := neq_b (by omega)
    have n2 : (c == 38) = false := neq_b (by omega)
    have n3 : (c == 45) = false := neq_b (by omega)
    have n4 : (c == 47) = false := neq_b (by omega)
  · obtain ⟨h2, h3⟩ := h
    have e : codeS c = rowBit (c - 48) := by
      unfold codeS
      rw [if_neg (by omega), if_neg (by omega), if_neg (by omega), if_neg (by omega), if_pos (by omega)]
    rw [e]
    rw [show inB c 48 57 = true by simp [inB, h2, h3]] at hdig
    have HD := Lib.hid hdig
    clear e hdig
    go_enter Tryd.func60, Tryd.ntmps60
    go_wp2_with (first | (go_at_call 64; refine (HD.out _).mono ?_; rintro e w' ⟨rfl, rfl⟩) | (go_at_call 63; refine (HB.out _ _).mono ?_; rintro e w' ⟨rfl, rfl⟩))
    go_ret
    exact ⟨rfl, rfl⟩
  · obtain ⟨h2, h3⟩ := h
    have e : codeS c = bits .or .i64 1 (rowBit (c - 65 + 1)) := by
      unfold codeS
      rw [if_neg (by omega), if_neg (by omega), if_neg (by omega), if_neg (by omega), if_neg (by omega), if_pos (by omega)]
    rw [e]
    rw [show inB c 48 57 = false by simp [inB]; omega] at hdig
    have HD := Lib.hid hdig
    clear e hdig
    go_enter Tryd.func60, Tryd.ntmps60
    go_wp2_with (first | (go_at_call 64; refine (HD.out _).mono ?_; rintro e w' ⟨rfl, rfl⟩) | (go_at_call 63; refine (HB.out _ _).mono ?_; rintro e w' ⟨rfl, rfl⟩))
    go_ret
    exact ⟨rfl, rfl⟩
  · obtain ⟨h2, h3⟩ := h
    have e : codeS c = bits .or .i64 2 (rowBit (c - 74 + 1)) := by
      unfold codeS
      rw [if_neg (by omega), if_neg (by omega), if_neg (by omega), if_neg (by omega), if_neg (by omega), if_neg (by omega), if_pos (by omega)]
    rw [e]
    rw [show inB c 48 57 = false by simp [inB]; omega] at hdig
    have HD := Lib.hid hdig
    clear e hdig
    go_enter Tryd.func60, Tryd.ntmps60
    go_wp2_with (first | (go_at_call 64; refine (HD.out _).mono ?_; rintro e w' ⟨rfl, rfl⟩) | (go_at_call 63; refine (HB.out _ _).mono ?_; rintro e w' ⟨rfl, rfl⟩))
    go_ret
    exact ⟨rfl, rfl⟩
  · obtain ⟨h2, h3⟩ := h
    have e : codeS c = bits .or .i64 4 (rowBit (c - 83 + 2)) := by
      unfold codeS
      rw [if_neg (by omega), if_neg (by omega), if_neg (by omega), if_neg (by omega), if_neg (by omega), if_neg (by omega), if_neg (by omega), if_pos (by omega)]
    rw [e]
    rw [show inB c 48 57 = false by simp [inB]; omega] at hdig
    have HD := Lib.hid hdig
    clear e hdig
    go_enter Tryd.func60, Tryd.ntmps60
    go_wp2_with (first | (go_at_call 64; refine (HD.out _).mono ?_; rintro e w' ⟨rfl, rfl⟩) | (go_at_call 63; refine (HB.out _ _).mono ?_; rintro e w' ⟨rfl, rfl⟩))
    go_ret
    exact ⟨rfl, rfl⟩
  all_goals
    have e : codeS c = -1 := by
      unfold codeS
      rw [if_neg (by omega), if_neg (by omega), if_neg (by omega), if_neg (by omega), if_neg (by omega), if_neg (by omega), if_neg (by omega), if_neg (by omega)]
    rw [e]
    rw [show inB c 48 57 = false by simp [inB]; omega] at hdig
    have HD := Lib.hid hdig
    clear e hdig HB
  · have h2 : c < 48 := h.1
    clear h
    go_enter Tryd.func60, Tryd.ntmps60
    go_wp2_with (go_at_call 64; refine (HD.out _).mono ?_; rintro e w' ⟨rfl, rfl⟩)
    go_ret
    exact ⟨rfl, rfl⟩
  · obtain ⟨h2, h3⟩ := h
    go_enter Tryd.func60, Tryd.ntmps60
    go_wp2_with (go_at_call 64; refine (HD.out _).mono ?_; rintro e w' ⟨rfl, rfl⟩)
    go_ret
    exact ⟨rfl, rfl⟩
  · go_enter Tryd.func60, Tryd.ntmps60
    go_wp2_with (go_at_call 64; refine (HD.out _).mono ?_; rintro e w' ⟨rfl, rfl⟩)
    go_ret
    exact ⟨rfl, rfl⟩

/-- the bit whose length is n -/
def bitV (n : Nat) : Int := if n = 0 then 0 else 2 ^ (n - 1)

theorem nine_cases {n : Nat} (h : n ≤ 9) : n = 0 ∨ n = 1 ∨ n = 2 ∨ n = 3 ∨ n = 4 ∨ n = 5 ∨ n = 6 ∨ n = 7 ∨ n = 8 ∨ n = 9 := by omega

/-- the characters by their holes -/
def sheetL : List UInt8 := [32, 49, 50, 51, 52, 53, 54, 55, 56, 57, 38, 65, 66, 67, 68, 69, 70, 71, 72, 73, 45, 74, 75, 76, 77, 78, 79, 80, 81, 82, 48, 47, 83, 84, 85, 86, 87, 88, 89, 90]
def placeI (c : Int) : Int := Lib.indexByte sheetL c.toNat.toUInt8

def sameB (n : Nat) : Bool := let c : Int := n; if codeS c < 0 then decide (placeI c < 0) else decide (0 ≤ placeI c) && decide (placeI c < 40) && decide (bits .or .i64 (bitV ((placeI c).toNat / 10)) (bitV ((placeI c).toNat % 10) * 8) = codeS c)
theorem same_all : ∀ n : Fin 256, sameB n.val = true := by decide +kernel
theorem same_code (c : Int) (h0 : 0 ≤ c) (h1 : c ≤ 255) : (codeS c < 0 ∧ placeI c < 0) ∨ (0 ≤ codeS c ∧ ∃ k : Nat, placeI c = k ∧ k < 40 ∧ bits .or .i64 (bitV (k / 10)) (bitV (k % 10) * 8) = codeS c) := by
  have h := same_all ⟨c.toNat, by omega⟩
  have e : ((c.toNat : Nat) : Int) = c := by omega
  unfold sameB at h
  simp only [e] at h
  by_cases hc : codeS c < 0
  · rw [if_pos hc] at h
    exact Or.inl ⟨hc, of_decide_eq_true h⟩
  · rw [if_neg hc] at h
    simp only [Bool.and_eq_true, decide_eq_true_eq] at h
    exact Or.inr ⟨by omega, (placeI c).toNat, by omega, by omega, h.2⟩
end Go.Proofs.YtamookdlbmbncabDoor
