/- The functions of the letters of program cards answer, for every letter and for every text of at most 1048576 bytes, whether the text is a program card and how many keys its letters want: contracts of spec.l05Letter, spec.l05Keyed, spec.l05Ok, spec.l05Keys, impl.wantsKey, impl.isOtherLetter and impl.ValidProgram. -/
import Derived.WalkKit
import Derived.ProofKit
import Derived.OpenShut
import Derived.WalkSpells
import Derived.Lib.Hide
import Derived.Laws.RangeAny
import Derived.Below
import Derived.Test.YtjlgfgekiekenaaDoorShelf
import Derived.Test.YtjlgfgekiekenaaDoorValid
import Derived.Shelf.GgClosure.StringsRunes
namespace Go.Proofs.YtjlgfgekiekenaaDoor
open Go.ChangeShapes Go.WideShapes Go.ChangeAt Go.RowKit

theorem byte_of (s : ByteArray) (k : Nat) (h : k < s.size) : s.get! k = s[k]'h := by
  show s.data[k]! = _
  simp [getElem!_pos, h]
  rfl

def keyB (c : Nat) : Bool := decide (c = 109) || decide (c = 110)
def letterB (c : Nat) : Bool := keyB c || (decide (c = 115) || decide (c = 100))
def lettersTo (s : ByteArray) (k : Nat) : Bool := (List.range k).all fun i => letterB (s.get! i).toNat
def progB (s : ByteArray) : Bool := lettersTo s s.size && inB s.size 1 20
/-- how many of the first k letters want a key -/
def keysTo (s : ByteArray) : Nat → Nat
  | 0 => 0
  | k + 1 => keysTo s k + if keyB (s.get! k).toNat then 1 else 0

theorem lettersTo_succ (s : ByteArray) (k : Nat) : lettersTo s (k + 1) = (lettersTo s k && letterB (s.get! k).toNat) := by
  simp [lettersTo, List.range_succ]
theorem lettersTo_bad (s : ByteArray) (k n : Nat) (hk : k < n) (h : letterB (s.get! k).toNat = false) : lettersTo s n = false := by
  rw [lettersTo, List.all_eq_false]
  exact ⟨k, by simpa using hk, by simpa using h⟩
theorem keysTo_le (s : ByteArray) : ∀ k, keysTo s k ≤ k
  | 0 => Nat.le_refl _
  | k + 1 => by
    have := keysTo_le s k
    rw [keysTo]
    split <;> omega
theorem letter_at (s : ByteArray) (k : Nat) (h : lettersTo s s.size = true) (hk : k < s.size) : letterB (s.get! k).toNat = true := by
  cases hl : letterB (s.get! k).toNat
  · rw [lettersTo_bad s k s.size hk hl] at h
    cases h
  · rfl
theorem letter_cases (c : Nat) : c = 109 ∨ c = 110 ∨ c = 115 ∨ c = 100 ∨ (¬ c = 109 ∧ ¬ c = 110 ∧ ¬ c = 115 ∧ ¬ c = 100) := by omega

theorem wantsKey_any (c : Nat) (w : World) : Calls Tryd.prog 55 #[.int .i32 c] w fun e w' => e = .returned (.bool (keyB c)) ∧ w = w' := by
  rcases letter_cases c with rfl | rfl | rfl | rfl | ⟨h1, h2, h3, h4⟩
  · skip
    go_enter Tryd.func55, Tryd.ntmps55
    go_wp2
    go_ret
    exact ⟨rfl, rfl⟩
  · skip
    go_enter Tryd.func55, Tryd.ntmps55
    go_wp2
    go_ret
    exact ⟨rfl, rfl⟩
  · skip
    go_enter Tryd.func55, Tryd.ntmps55
    go_wp2
    go_ret
    exact ⟨rfl, rfl⟩
  · skip
    go_enter Tryd.func55, Tryd.ntmps55
    go_wp2
    go_ret
    exact ⟨rfl, rfl⟩
  · have e : (keyB c) = false := by simp [letterB, keyB, h1, h2, h3, h4]
    have q1 : ((c : Int) == 109) = false := by rw [beq_eq_false_iff_ne]; omega
    have q2 : ((c : Int) == 110) = false := by rw [beq_eq_false_iff_ne]; omega
    have q3 : ((c : Int) == 115) = false := by rw [beq_eq_false_iff_ne]; omega
    have q4 : ((c : Int) == 100) = false := by rw [beq_eq_false_iff_ne]; omega
    have n3 : ((c : Int) != 115) = true := by rw [bne_iff_ne]; omega
    have n4 : ((c : Int) != 100) = true := by rw [bne_iff_ne]; omega
    rw [e]
    clear e h1 h2 h3 h4
    go_enter Tryd.func55, Tryd.ntmps55
    go_wp2
    go_ret
    exact ⟨rfl, rfl⟩

theorem isOther_any (c : Nat) (w : World) : Calls Tryd.prog 68 #[.int .i32 c] w fun e w' => e = .returned (.bool (!letterB c)) ∧ w = w' := by
  have HC := Lib.hid (fun W => wantsKey_any c W)
  rcases letter_cases c with rfl | rfl | rfl | rfl | ⟨h1, h2, h3, h4⟩
  · skip
    go_enter Tryd.func68, Tryd.ntmps68
    go_wp2_with (go_at_call 55; refine (HC.out _).mono ?_; rintro e w' ⟨rfl, rfl⟩)
    go_ret
    exact ⟨rfl, rfl⟩
  · skip
    go_enter Tryd.func68, Tryd.ntmps68
    go_wp2_with (go_at_call 55; refine (HC.out _).mono ?_; rintro e w' ⟨rfl, rfl⟩)
    go_ret
    exact ⟨rfl, rfl⟩
  · skip
    go_enter Tryd.func68, Tryd.ntmps68
    go_wp2_with (go_at_call 55; refine (HC.out _).mono ?_; rintro e w' ⟨rfl, rfl⟩)
    go_ret
    exact ⟨rfl, rfl⟩
  · skip
    go_enter Tryd.func68, Tryd.ntmps68
    go_wp2_with (go_at_call 55; refine (HC.out _).mono ?_; rintro e w' ⟨rfl, rfl⟩)
    go_ret
    exact ⟨rfl, rfl⟩
  · have e : (!letterB c) = true := by simp [letterB, keyB, h1, h2, h3, h4]
    have q1 : ((c : Int) == 109) = false := by rw [beq_eq_false_iff_ne]; omega
    have q2 : ((c : Int) == 110) = false := by rw [beq_eq_false_iff_ne]; omega
    have q3 : ((c : Int) == 115) = false := by rw [beq_eq_false_iff_ne]; omega
    have q4 : ((c : Int) == 100) = false := by rw [beq_eq_false_iff_ne]; omega
    have n3 : ((c : Int) != 115) = true := by rw [bne_iff_ne]; omega
    have n4 : ((c : Int) != 100) = true := by rw [bne_iff_ne]; omega
    have ek : keyB c = false := by simp [keyB, h1, h2]
    rw [ek] at HC
    rw [e]
    clear e h1 h2 h3 h4 ek
    go_enter Tryd.func68, Tryd.ntmps68
    go_wp2_with (go_at_call 55; refine (HC.out _).mono ?_; rintro e w' ⟨rfl, rfl⟩)
    go_ret
    exact ⟨rfl, rfl⟩

theorem l05Letter_any (c : Nat) (w : World) : Calls Tryd.prog 65 #[.int .u8 c] w fun e w' => e = .returned (.bool (letterB c)) ∧ w = w' := by
  rcases letter_cases c with rfl | rfl | rfl | rfl | ⟨h1, h2, h3, h4⟩
  · skip
    go_enter Tryd.func65, Tryd.ntmps65
    go_wp2
    go_ret
    exact ⟨rfl, rfl⟩
  · skip
    go_enter Tryd.func65, Tryd.ntmps65
    go_wp2
    go_ret
    exact ⟨rfl, rfl⟩
  · skip
    go_enter Tryd.func65, Tryd.ntmps65
    go_wp2
    go_ret
    exact ⟨rfl, rfl⟩
  · skip
    go_enter Tryd.func65, Tryd.ntmps65
    go_wp2
    go_ret
    exact ⟨rfl, rfl⟩
  · have e : (letterB c) = false := by simp [letterB, keyB, h1, h2, h3, h4]
    have q1 : ((c : Int) == 109) = false := by rw [beq_eq_false_iff_ne]; omega
    have q2 : ((c : Int) == 110) = false := by rw [beq_eq_false_iff_ne]; omega
    have q3 : ((c : Int) == 115) = false := by rw [beq_eq_false_iff_ne]; omega
    have q4 : ((c : Int) == 100) = false := by rw [beq_eq_false_iff_ne]; omega
    have n3 : ((c : Int) != 115) = true := by rw [bne_iff_ne]; omega
    have n4 : ((c : Int) != 100) = true := by rw [bne_iff_ne]; omega
    rw [e]
    clear e h1 h2 h3 h4
    go_enter Tryd.func65, Tryd.ntmps65
    go_wp2
    go_ret
    exact ⟨rfl, rfl⟩

theorem l05Keyed_any (c : Nat) (w : World) : Calls Tryd.prog 53 #[.int .u8 c] w fun e w' => e = .returned (.bool (keyB c)) ∧ w = w' := by
  rcases letter_cases c with rfl | rfl | rfl | rfl | ⟨h1, h2, h3, h4⟩
  · skip
    go_enter Tryd.func53, Tryd.ntmps53
    go_wp2
    go_ret
    exact ⟨rfl, rfl⟩
  · skip
    go_enter Tryd.func53, Tryd.ntmps53
    go_wp2
    go_ret
    exact ⟨rfl, rfl⟩
  · skip
    go_enter Tryd.func53, Tryd.ntmps53
    go_wp2
    go_ret
    exact ⟨rfl, rfl⟩
  · skip
    go_enter Tryd.func53, Tryd.ntmps53
    go_wp2
    go_ret
    exact ⟨rfl, rfl⟩
  · have e : (keyB c) = false := by simp [letterB, keyB, h1, h2, h3, h4]
    have q1 : ((c : Int) == 109) = false := by rw [beq_eq_false_iff_ne]; omega
    have q2 : ((c : Int) == 110) = false := by rw [beq_eq_false_iff_ne]; omega
    have q3 : ((c : Int) == 115) = false := by rw [beq_eq_false_iff_ne]; omega
    have q4 : ((c : Int) == 100) = false := by rw [beq_eq_false_iff_ne]; omega
    have n3 : ((c : Int) != 115) = true := by rw [bne_iff_ne]; omega
    have n4 : ((c : Int) != 100) = true := by rw [bne_iff_ne]; omega
    rw [e]
    clear e h1 h2 h3 h4
    go_enter Tryd.func53, Tryd.ntmps53
    go_wp2
    go_ret
    exact ⟨rfl, rfl⟩

theorem l05Ok_any (s : ByteArray) (hs : s.size ≤ 1048576) (w : World) :
    Calls Tryd.prog 36 #[.string s] w fun e w' => e = .returned (.bool (progB s)) ∧ w = w' := by
  obtain ⟨r, hr⟩ : ∃ r, progB s = r := ⟨_, rfl⟩
  rw [hr]
  have HR := Lib.hid hr
  clear hr
  go_enter Tryd.func36, Tryd.ntmps36
  go_wp2
  go_loop [3] (fun i => ∃ k : Nat, k ≤ s.size ∧ i = .int .i64 k ∧ Hid (lettersTo s k = true)) (fun i => s.size - (intOf i).toNat)
  case atStart => exact ⟨0, Nat.zero_le _, rfl, rfl⟩
  case round =>
    obtain ⟨k, hk, rfl, HK⟩ := hrel
    by_cases hlt : k < s.size
    · have hl := l05Letter_any (s[k]'hlt).toNat
      have hge := Lib.hid (byte_of s k hlt)
      cases hm : letterB (s[k]'hlt).toNat
      · rw [hm] at hl
        have HL := Lib.hid hl
        obtain rfl : r = false := by rw [← HR.out, progB, lettersTo_bad s k s.size hlt (by rw [hge.out]; exact hm)]; rfl
        clear hl hm
        go_wp2_with (go_at_call 65; refine (HL.out _).mono ?_; rintro e w' ⟨rfl, rfl⟩)
        go_ret
        exact ⟨rfl, rfl⟩
      · rw [hm] at hl
        have HL := Lib.hid hl
        have HK1 : Hid (lettersTo s (k + 1) = true) := by show _ = true; rw [lettersTo_succ, HK.out, hge.out, hm]; rfl
        clear hl hm
        go_wp2_with (go_at_call 65; refine (HL.out _).mono ?_; rintro e w' ⟨rfl, rfl⟩)
        go_round
        case rel => exact ⟨k + 1, by omega, by go_num, HK1⟩
        case measure => simp [intOf]; omega
    · have hks : k = s.size := by omega
      have hi : ∀ W, Calls Tryd.prog 60 #[.int .i64 s.size, .int .i64 1, .int .i64 20] W fun e w' => e = .returned (.bool r) ∧ W = w' := fun W => by
        have h := in_any (s.size : Int) 1 20 W
        have e : inB (s.size : Int) 1 20 = r := by rw [← HR.out, progB, ← hks, HK.out, hks]; rfl
        rwa [e] at h
      have HI := Lib.hid hi
      have hk1 : ¬ (k : Int) < (s.size : Int) := by omega
      clear hks hi
      go_wp2_with (go_at_call 60; refine (HI.out _).mono ?_; rintro e w' ⟨rfl, rfl⟩)
      go_ret
      exact ⟨rfl, rfl⟩

theorem l05Keys_any (s : ByteArray) (hs : s.size ≤ 1048576) (w : World) :
    Calls Tryd.prog 37 #[.string s] w fun e w' => e = .returned (.int .i64 (keysTo s s.size)) ∧ w = w' := by
  obtain ⟨r, hr⟩ : ∃ r, keysTo s s.size = r := ⟨_, rfl⟩
  rw [hr]
  have HR := Lib.hid hr
  clear hr
  go_enter Tryd.func37, Tryd.ntmps37
  go_wp2
  go_loop [3, 4] (fun n i => ∃ k j : Nat, k ≤ s.size ∧ j ≤ k ∧ i = .int .i64 k ∧ n = .int .i64 j ∧ Hid (keysTo s k = j)) (fun n i => s.size - (intOf i).toNat)
  case atStart => exact ⟨0, 0, Nat.zero_le _, Nat.le_refl _, rfl, rfl, rfl⟩
  case round =>
    obtain ⟨k, j, hk, hj, rfl, rfl, HK⟩ := hrel
    by_cases hlt : k < s.size
    · have hl := l05Keyed_any (s[k]'hlt).toNat
      have hge := Lib.hid (byte_of s k hlt)
      cases hm : keyB (s[k]'hlt).toNat
      · rw [hm] at hl
        have HL := Lib.hid hl
        have HK1 : Hid (keysTo s (k + 1) = j) := by show _ = _; rw [keysTo, HK.out, hge.out, hm]; rfl
        clear hl hm
        go_wp2_with (go_at_call 53; refine (HL.out _).mono ?_; rintro e w' ⟨rfl, rfl⟩)
        go_round
        case rel => exact ⟨k + 1, j, by omega, by omega, by go_num, rfl, HK1⟩
        case measure => simp [intOf]; omega
      · rw [hm] at hl
        have HL := Lib.hid hl
        have HK1 : Hid (keysTo s (k + 1) = j + 1) := by show _ = _; rw [keysTo, HK.out, hge.out, hm]; rfl
        clear hl hm
        go_wp2_with (go_at_call 53; refine (HL.out _).mono ?_; rintro e w' ⟨rfl, rfl⟩)
        go_round
        case rel => exact ⟨k + 1, j + 1, by omega, by omega, by go_num, by go_num, HK1⟩
        case measure => simp [intOf]; omega
    · have hks : k = s.size := by omega
      obtain rfl : r = j := by rw [← HR.out, ← hks]; exact HK.out
      have hk1 : ¬ (k : Int) < (s.size : Int) := by omega
      clear hks
      go_wp2
      go_ret
      exact ⟨rfl, rfl⟩

/-! strings.ContainsFunc finds another letter -/
def otherB (c : Nat) : Bool := !letterB c
theorem letterB_high (r : Nat) (h : 128 ≤ r) : letterB r = false := by
  have h1 : ¬ r = 109 := by omega
  have h2 : ¬ r = 110 := by omega
  have h3 : ¬ r = 115 := by omega
  have h4 : ¬ r = 100 := by omega
  simp [letterB, keyB, h1, h2, h3, h4]
theorem idx_letters (s : ByteArray) : ∀ (f pos : Nat), s.size ≤ pos + f → pos ≤ s.size → lettersTo s pos = true →
    decide (0 ≤ Lib.idxFuncFrom otherB true s f pos) = !lettersTo s s.size
  | 0, pos, h1, h2, hl => by
    obtain rfl : pos = s.size := by omega
    rw [hl]; rfl
  | f + 1, pos, h1, h2, hl => by
    unfold Lib.idxFuncFrom
    by_cases hlt : pos < s.size
    · have hge := byte_of s pos hlt
      rw [if_pos hlt]
      by_cases ha : (s[pos]'hlt).toNat < 128
      · have hd := decode_ascii s pos hlt ha
        rw [hd]
        cases hm : letterB (s[pos]'hlt).toNat
        · rw [if_pos (by simp [otherB, hm]), lettersTo_bad s pos s.size hlt (by rw [hge]; exact hm)]
          simp
        · rw [if_neg (by simp [otherB, hm])]
          exact idx_letters s f (pos + 1) (by omega) (by omega) (by rw [lettersTo_succ, hl, hge, hm]; rfl)
      · have hd := decode_high s pos hlt (by omega)
        rw [if_pos (by rw [otherB, letterB_high _ hd.1]; rfl), lettersTo_bad s pos s.size hlt (by rw [hge]; exact letterB_high _ (by omega))]
        simp
    · obtain rfl : pos = s.size := by omega
      rw [if_neg hlt, hl]; rfl
theorem idx_letters0 (s : ByteArray) : decide (0 ≤ Lib.idxFunc otherB true s) = !lettersTo s s.size :=
  idx_letters s s.size 0 (by omega) (Nat.zero_le _) rfl

theorem validProgram_any (s : ByteArray) (w : World) :
    Calls Tryd.prog 38 #[.string s] w fun e w' => e = .returned (.bool (progB s)) ∧ Below w.heap.size w w' := by
  have HC := Lib.hid (fun W => Tryd.strings_ContainsFunc_runes 68 #[] (fun args w => by kernel_rfl) otherB s W (fun W x _ _ => (isOther_any x W).mono fun _ _ h => ⟨h.1, 0, h.2.symm⟩))
  have hi := isWidth_any (s.size : Int)
  cases hw : inB (s.size : Int) 1 20
  · have e : progB s = false := by rw [progB, hw, Bool.and_false]
    rw [hw] at hi
    have HI := Lib.hid hi
    rw [e]
    clear e hw hi HC
    go_enter Tryd.func38, Tryd.ntmps38
    go_wp2_with (go_at_call 66; refine (HI.out _).mono ?_; rintro e w' ⟨rfl, rfl⟩)
    go_ret
    exact ⟨rfl, Below.refl _ _⟩
  · have e : progB s = lettersTo s s.size := by rw [progB, hw, Bool.and_true]
    rw [hw] at hi
    have HI := Lib.hid hi
    rw [idx_letters0] at HC
    rw [e]
    clear e hw hi
    cases hl : lettersTo s s.size
    all_goals
      rw [hl] at HC
      clear hl
      go_enter Tryd.func38, Tryd.ntmps38
      go_wp2_with (go_at_call 66; refine (HI.out _).mono ?_; rintro e w' ⟨rfl, rfl⟩)
      refine (HC.out _).mono ?_
      rintro e w1 ⟨rfl, hb⟩
      have HB := Lib.hid hb
      clear hb
      go_wp2
      go_ret
      exact ⟨rfl, HB.out⟩
end Go.Proofs.YtjlgfgekiekenaaDoor
