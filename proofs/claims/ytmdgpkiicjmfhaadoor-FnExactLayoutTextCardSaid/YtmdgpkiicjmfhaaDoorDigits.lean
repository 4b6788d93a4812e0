/- The digit of a column: spec.l03Digit and impl.digitOf answer it, or that there is none, for every number: contracts. -/
import Derived.Test.YtmdgpkiicjmfhaaDoorChars
namespace Go.Proofs.YtmdgpkiicjmfhaaDoor
open Go.ChangeShapes Go.WideShapes Go.ChangeAt Go.RowKit

/-- the digit of holes -/
def digM (m : Int) : Option Nat := (List.range 10).find? fun d : Nat => rowBit d == m
def digI (m : Int) : Int := match digM m with | some d => d | none => -1
def digV (m : Int) : Int := match digM m with | some d => d | none => 0
def digOk (m : Int) : Bool := (digM m).isSome
theorem digM_none {m : Int} (h : digM m = none) : ∀ k : Nat, k < 10 → rowBit k ≠ m := by
  intro k hk
  have := List.find?_eq_none.1 h k (List.mem_range.2 hk)
  simpa using this
theorem digM_some {m : Int} {j : Nat} (h : digM m = some j) : j < 10 ∧ rowBit j = m ∧ ∀ k : Nat, k < j → rowBit k ≠ m := by
  obtain ⟨hp, i, hi, hij, hbef⟩ := List.find?_eq_some_iff_getElem.1 h
  have hi' : i = j := by simpa using hij
  subst hi'
  refine ⟨by simpa using hi, by simpa using hp, fun k hk => ?_⟩
  have := hbef k hk
  simpa using this
theorem dig_chars : ∀ d : Fin 10, charOk (rowBit ((d.val : Nat) : Int)) = true ∧ charV (rowBit ((d.val : Nat) : Int)) = 48 + (d.val : Int) := by decide +kernel
theorem codeS_digit (c : Int) (h : 48 ≤ c ∧ c ≤ 57) : codeS c = rowBit (c - 48) := by
  unfold codeS
  rw [if_neg (by omega), if_neg (by omega), if_neg (by omega), if_neg (by omega), if_pos h]
theorem dig_char {m : Int} {d : Nat} (h : digM m = some d) : charOk m = true ∧ charV m = 48 + (d : Int) ∧ d ≤ 9 := by
  obtain ⟨h1, h2, _⟩ := digM_some h
  have := dig_chars ⟨d, h1⟩
  rw [← h2]
  exact ⟨this.1, this.2, by omega⟩
theorem dig_no {m : Int} (h : digM m = none) (hc : charOk m = true) : charV m < 48 ∨ 57 < charV m := by
  by_cases hb : 48 ≤ charV m ∧ charV m ≤ 57
  · exfalso
    unfold charOk at hc
    unfold charV at hb
    cases e : rankM m with
    | none => rw [e] at hc; cases hc
    | some j =>
      rw [e] at hb
      obtain ⟨_, e2, _⟩ := rankM_some e
      simp only at hb
      rw [codeS_digit _ hb] at e2
      exact digM_none h (charR j - 48).toNat (by omega) (by rw [← e2]; congr 1; omega)
  · omega

theorem l03Digit_yes (m : Int) (j : Nat) (hj : j < 10) (h : rowBit j = m) (hf : ∀ k : Nat, k < j → rowBit k ≠ m) (w : World) :
    Calls Tryd.prog 37 #[.int .i64 m] w fun e w' => e = .returned (.int .i64 j) ∧ w = w' := by
  have H := Lib.hid hf
  have HB := Lib.hid l02Bit_any
  have HJ := Lib.hid h
  clear h hf
  go_enter Tryd.func37, Tryd.ntmps37
  go_wp2
  go_loop [3] (fun i => ∃ k : Nat, k ≤ j ∧ i = .int .i64 k) (fun i => 10 - (intOf i).toNat)
  case atStart => exact ⟨0, Nat.zero_le _, rfl⟩
  case round =>
    obtain ⟨k, hk, rfl⟩ := hrel
    have hb := fun W => HB.out k W
    obtain ⟨y, hy⟩ : ∃ y, rowBit (k : Int) = y := ⟨_, rfl⟩
    rw [hy] at hb
    have HY := Lib.hid hb
    have hk9 : (k : Int) ≤ 9 := by omega
    by_cases hkj : k = j
    · have hne : (m == y) = true := by rw [← hy, ← HJ.out, hkj]; simp
      subst hkj
      clear hb hy hk HJ H HB
      go_wp2_with (go_at_call 61; refine (HY.out _).mono ?_; rintro e w' ⟨rfl, rfl⟩)
      go_ret
      exact ⟨rfl, rfl⟩
    · have e : m ≠ y := by rw [← hy]; exact fun e => H.out k (by omega) e.symm
      have hne : (m == y) = false := neq_b e
      have hkj' : k + 1 ≤ j := by omega
      clear hb hy e hkj
      go_wp2_with (go_at_call 61; refine (HY.out _).mono ?_; rintro e w' ⟨rfl, rfl⟩)
      go_round
      case rel => exact ⟨k + 1, by omega, by go_num⟩
      case measure => simp [intOf]; omega

theorem l03Digit_no (m : Int) (hf : ∀ k : Nat, k < 10 → rowBit k ≠ m) (w : World) :
    Calls Tryd.prog 37 #[.int .i64 m] w fun e w' => e = .returned (.int .i64 (-1)) ∧ w = w' := by
  have H := Lib.hid hf
  have HB := Lib.hid l02Bit_any
  clear hf
  go_enter Tryd.func37, Tryd.ntmps37
  go_wp2
  go_loop [3] (fun i => ∃ k : Nat, k ≤ 10 ∧ i = .int .i64 k) (fun i => 10 - (intOf i).toNat)
  case atStart => exact ⟨0, Nat.zero_le _, rfl⟩
  case round =>
    obtain ⟨k, hk, rfl⟩ := hrel
    by_cases hlt : k < 10
    · have hb := fun W => HB.out k W
      obtain ⟨y, hy⟩ : ∃ y, rowBit (k : Int) = y := ⟨_, rfl⟩
      rw [hy] at hb
      have HY := Lib.hid hb
      have hk9 : (k : Int) ≤ 9 := by omega
      have e : m ≠ y := by rw [← hy]; exact fun e => H.out k (by omega) e.symm
      have hne : (m == y) = false := neq_b e
      clear hb hy e
      go_wp2_with (go_at_call 61; refine (HY.out _).mono ?_; rintro e w' ⟨rfl, rfl⟩)
      go_round
      case rel => exact ⟨k + 1, by omega, by go_num⟩
      case measure => simp [intOf]; omega
    · have hk9 : ¬ (k : Int) ≤ 9 := by omega
      go_wp2
      go_ret
      exact ⟨rfl, rfl⟩

theorem l03Digit_any (m : Int) (w : World) :
    Calls Tryd.prog 37 #[.int .i64 m] w fun e w' => e = .returned (.int .i64 (digI m)) ∧ w = w' := by
  unfold digI
  cases h : digM m with
  | none => exact l03Digit_no m (digM_none h) w
  | some j =>
    obtain ⟨h1, h2, h3⟩ := digM_some h
    exact l03Digit_yes m j h1 h2 h3 w

theorem digitOf_any (m : Int) (w : World) :
    Calls Tryd.prog 66 #[.int .i64 m] w fun e w' => e = .returned (.tuple #[.int .i64 (digV m), .bool (digOk m)]) ∧ w = w' := by
  have hc := fun W => implCharOf_any m W
  cases h : digM m with
  | none =>
    have e1 : digV m = 0 := by simp [digV, h]
    have e2 : digOk m = false := by simp [digOk, h]
    rw [e1, e2]
    clear e1 e2
    cases ho : charOk m
    · rw [ho] at hc
      obtain ⟨c, hcv⟩ : ∃ c, charV m = c := ⟨_, rfl⟩
      rw [hcv] at hc
      have HC := Lib.hid hc
      clear hc ho h hcv
      go_enter Tryd.func66, Tryd.ntmps66
      go_wp2_with (go_at_call 80; refine (HC.out _).mono ?_; rintro e w' ⟨rfl, rfl⟩)
      go_ret2
      exact ⟨rfl, rfl⟩
    · have hn := dig_no h ho
      rw [ho] at hc
      obtain ⟨c, hcv⟩ : ∃ c, charV m = c := ⟨_, rfl⟩
      rw [hcv] at hc hn
      have HC := Lib.hid hc
      clear hc ho h hcv
      by_cases h48 : c < 48
      · clear hn
        go_enter Tryd.func66, Tryd.ntmps66
        go_wp2_with (go_at_call 80; refine (HC.out _).mono ?_; rintro e w' ⟨rfl, rfl⟩)
        go_ret2
        exact ⟨rfl, rfl⟩
      · have h57 : 57 < c := by omega
        clear hn
        go_enter Tryd.func66, Tryd.ntmps66
        go_wp2_with (go_at_call 80; refine (HC.out _).mono ?_; rintro e w' ⟨rfl, rfl⟩)
        go_ret2
        exact ⟨rfl, rfl⟩
  | some d =>
    obtain ⟨ho, hv, hd⟩ := dig_char h
    have e1 : digV m = d := by simp [digV, h]
    have e2 : digOk m = true := by simp [digOk, h]
    rw [e1, e2]
    rw [ho] at hc
    obtain ⟨c, hcv⟩ : ∃ c, charV m = c := ⟨_, rfl⟩
    rw [hcv] at hc hv
    have HC := Lib.hid hc
    have h48 : ¬ c < 48 := by omega
    have h57 : ¬ 57 < c := by omega
    have HV : Hid (c - 48 = (d : Int)) := by show c - 48 = (d : Int); omega
    clear hc ho h hcv e1 e2 hv
    go_enter Tryd.func66, Tryd.ntmps66
    go_wp2_with (go_at_call 80; refine (HC.out _).mono ?_; rintro e w' ⟨rfl, rfl⟩)
    go_ret2
    exact ⟨by rw [← HV.out]; rfl, rfl⟩
end Go.Proofs.YtmdgpkiicjmfhaaDoor
