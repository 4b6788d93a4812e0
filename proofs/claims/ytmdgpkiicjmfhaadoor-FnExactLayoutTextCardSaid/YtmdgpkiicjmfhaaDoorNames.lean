/- spec.IsName and impl.IsName answer whether a text is a name, for every text of at most 1048576 bytes: contracts, of the functions that they call too. -/
import Derived.Test.YtmdgpkiicjmfhaaDoorRows
import Derived.WalkKit
import Derived.ProofKit
import Derived.OpenShut
import Derived.WalkSpells
import Derived.Lib.Hide
import Derived.Laws.RangeAny
import Derived.Below
namespace Go.Proofs.YtmdgpkiicjmfhaaDoor
open Go.ChangeShapes Go.WideShapes Go.ChangeAt Go.RowKit

def smallB (c : Nat) : Bool := decide (97 ≤ c) && decide (c ≤ 122)
def digitB (c : Nat) : Bool := decide (48 ≤ c) && decide (c ≤ 57)
/-- whether a name may have the byte at place k -/
def placeB (c : Nat) (k : Nat) : Bool := smallB c || (decide (k ≠ 0) && (decide (c = 45) || digitB c))
/-- the first k bytes are those of a name -/
def goodTo (s : ByteArray) (k : Nat) : Bool := (List.range k).all fun i => placeB (s.get! i).toNat i
def nameB (s : ByteArray) : Bool := decide (0 < s.size) && (decide (s.size ≤ 12) && goodTo s s.size)

theorem goodTo_succ (s : ByteArray) (k : Nat) : goodTo s (k + 1) = (goodTo s k && placeB (s.get! k).toNat k) := by
  simp [goodTo, List.range_succ]
theorem goodTo_bad (s : ByteArray) (k n : Nat) (hk : k < n) (h : placeB (s.get! k).toNat k = false) : goodTo s n = false := by
  rw [goodTo, List.all_eq_false]
  exact ⟨k, by simpa using hk, by simpa using h⟩
theorem get_of (s : ByteArray) (k : Nat) (h : k < s.size) : s.get! k = s[k]'h := by
  show s.data[k]! = _
  simp [getElem!_pos, h]
  rfl

theorem ret_bool {a b : Bool} (h : a = b) : Ending.returned (.bool a) = .returned (.bool b) := by rw [h]

theorem small_any (c : Nat) (w : World) : Calls Tryd.prog 83 #[.int .u8 c] w fun e w' => e = .returned (.bool (smallB c)) ∧ w = w' := by
  unfold smallB
  by_cases h1 : 97 ≤ c
  · by_cases h2 : c ≤ 122
    · have e : (decide (97 ≤ c) && decide (c ≤ 122)) = true := by simp [h1, h2]
      rw [e]
      clear e
      go_enter Tryd.func83, Tryd.ntmps83
      go_wp2
      go_ret
      exact ⟨by first | rfl | exact ret_bool (decide_eq_true (by omega)) | exact ret_bool (decide_eq_false (by omega)), rfl⟩
    · have e : (decide (97 ≤ c) && decide (c ≤ 122)) = false := by simp [h2]
      rw [e]
      clear e
      go_enter Tryd.func83, Tryd.ntmps83
      go_wp2
      go_ret
      exact ⟨by first | rfl | exact ret_bool (decide_eq_true (by omega)) | exact ret_bool (decide_eq_false (by omega)), rfl⟩
  · have e : (decide (97 ≤ c) && decide (c ≤ 122)) = false := by simp [h1]
    rw [e]
    clear e
    go_enter Tryd.func83, Tryd.ntmps83
    go_wp2
    go_ret
    exact ⟨by first | rfl | exact ret_bool (decide_eq_true (by omega)) | exact ret_bool (decide_eq_false (by omega)), rfl⟩

theorem digit_any (c : Nat) (w : World) : Calls Tryd.prog 84 #[.int .u8 c] w fun e w' => e = .returned (.bool (digitB c)) ∧ w = w' := by
  unfold digitB
  by_cases h1 : 48 ≤ c
  · by_cases h2 : c ≤ 57
    · have e : (decide (48 ≤ c) && decide (c ≤ 57)) = true := by simp [h1, h2]
      rw [e]
      clear e
      go_enter Tryd.func84, Tryd.ntmps84
      go_wp2
      go_ret
      exact ⟨by first | rfl | exact ret_bool (decide_eq_true (by omega)) | exact ret_bool (decide_eq_false (by omega)), rfl⟩
    · have e : (decide (48 ≤ c) && decide (c ≤ 57)) = false := by simp [h2]
      rw [e]
      clear e
      go_enter Tryd.func84, Tryd.ntmps84
      go_wp2
      go_ret
      exact ⟨by first | rfl | exact ret_bool (decide_eq_true (by omega)) | exact ret_bool (decide_eq_false (by omega)), rfl⟩
  · have e : (decide (48 ≤ c) && decide (c ≤ 57)) = false := by simp [h1]
    rw [e]
    clear e
    go_enter Tryd.func84, Tryd.ntmps84
    go_wp2
    go_ret
    exact ⟨by first | rfl | exact ret_bool (decide_eq_true (by omega)) | exact ret_bool (decide_eq_false (by omega)), rfl⟩

theorem rune_cases (r : Nat) (f : Bool) : (97 ≤ r ∧ r ≤ 122) ∨ (¬ (97 ≤ r ∧ r ≤ 122) ∧ f = true) ∨ (f = false ∧ r = 45) ∨ (f = false ∧ 48 ≤ r ∧ r ≤ 57) ∨ (f = false ∧ r < 45) ∨ (f = false ∧ 45 < r ∧ r < 48) ∨ (f = false ∧ 57 < r ∧ r < 97) ∨ (f = false ∧ 122 < r) := by
  cases f <;> simp <;> omega
def runeB (r : Nat) (f : Bool) : Bool := smallB r || (!f && (decide (r = 45) || digitB r))
theorem isNameRune_any (r : Nat) (f : Bool) (w : World) : Calls Tryd.prog 85 #[.int .i32 r, .bool f] w fun e w' => e = .returned (.bool (runeB r f)) ∧ w = w' := by
  rcases rune_cases r f with h | ⟨h, hf⟩ | ⟨hf, h⟩ | ⟨hf, h⟩ | ⟨hf, h⟩ | ⟨hf, h⟩ | ⟨hf, h⟩ | ⟨hf, h⟩
  · have e : runeB r f = true := by simp [runeB, smallB, h]
    rw [e]
    clear e
    obtain ⟨h1, h2⟩ := h
    go_enter Tryd.func85, Tryd.ntmps85
    go_wp2
    go_ret
    exact ⟨by first | rfl | exact ret_bool (decide_eq_true (by omega)) | exact ret_bool (decide_eq_false (by omega)), rfl⟩
  · subst hf
    by_cases h1 : 97 ≤ r
    · have h2 : ¬ r ≤ 122 := fun h2 => h ⟨h1, h2⟩
      have e : runeB r true = false := by simp [runeB, smallB, h2]
      rw [e]
      clear e h
      go_enter Tryd.func85, Tryd.ntmps85
      go_wp2
      go_ret
      exact ⟨by first | rfl | exact ret_bool (decide_eq_true (by omega)) | exact ret_bool (decide_eq_false (by omega)), rfl⟩
    · have e : runeB r true = false := by simp [runeB, smallB, h1]
      rw [e]
      clear e h
      go_enter Tryd.func85, Tryd.ntmps85
      go_wp2
      go_ret
      exact ⟨by first | rfl | exact ret_bool (decide_eq_true (by omega)) | exact ret_bool (decide_eq_false (by omega)), rfl⟩
  · subst hf h
    go_enter Tryd.func85, Tryd.ntmps85
    go_wp2
    go_ret
    exact ⟨by first | rfl | exact ret_bool (decide_eq_true (by omega)) | exact ret_bool (decide_eq_false (by omega)), rfl⟩
  · subst hf
    obtain ⟨h1, h2⟩ := h
    have e : runeB r false = true := by simp [runeB, digitB, h1, h2]
    rw [e]
    clear e
    have h3 : ((r : Int) == 45) = false := by rw [beq_eq_false_iff_ne]; omega
    go_enter Tryd.func85, Tryd.ntmps85
    go_wp2
    go_ret
    exact ⟨by first | rfl | exact ret_bool (decide_eq_true (by omega)) | exact ret_bool (decide_eq_false (by omega)), rfl⟩
  all_goals
    subst hf
    have e : runeB r false = false := by simp [runeB, smallB, digitB]; omega
    rw [e]
    clear e
    have h3 : ((r : Int) == 45) = false := by rw [beq_eq_false_iff_ne]; omega
    go_enter Tryd.func85, Tryd.ntmps85
    go_wp2
    go_ret
    exact ⟨by first | rfl | exact ret_bool (decide_eq_true (by omega)) | exact ret_bool (decide_eq_false (by omega)), rfl⟩

theorem placeB_zero (c : Nat) : placeB c 0 = smallB c := by simp [placeB]
theorem placeB_pos (c k : Nat) (h : k ≠ 0) : placeB c k = (smallB c || (decide (c = 45) || digitB c)) := by simp [placeB, h]
theorem nameB_of (s : ByteArray) (h0 : 0 < s.size) (h1 : s.size ≤ 12) : nameB s = goodTo s s.size := by simp [nameB, h0, h1]

theorem nonempty_of {s : ByteArray} (h0 : 0 < s.size) : s.toList.isEmpty = false := by
  rw [ByteArray.toList_eq]
  cases hl : s.data.toList with
  | nil =>
    have : s.data.toList.length = s.size := by simp
    rw [hl] at this
    simp at this
    omega
  | cons _ _ => rfl

theorem specIsName_any (s : ByteArray) (w : World) :
    Calls Tryd.prog 69 #[.string s] w fun e w' => e = .returned (.bool (nameB s)) ∧ w = w' := by
  by_cases h0 : 0 < s.size
  · have hne := nonempty_of h0
    by_cases h1 : s.size ≤ 12
    · rw [nameB_of s h0 h1]
      obtain ⟨r, hr⟩ : ∃ r, goodTo s s.size = r := ⟨_, rfl⟩
      rw [hr]
      cases hs0 : smallB (s[0]'h0).toNat
      · obtain rfl : r = false := by rw [← hr]; exact goodTo_bad s 0 s.size h0 (by rw [placeB_zero, get_of s 0 h0]; exact hs0)
        have HS := Lib.hid (fun W => small_any (s[0]'h0).toNat W)
        rw [hs0] at HS
        clear hs0 hr
        go_enter Tryd.func69, Tryd.ntmps69
        go_wp2_with (go_at_call 83; refine (HS.out _).mono ?_; rintro e w' ⟨rfl, rfl⟩)
        go_ret
        exact ⟨rfl, rfl⟩
      · have HS0 := Lib.hid (fun W => small_any (s[0]'h0).toNat W)
        rw [hs0] at HS0
        have H0 := Lib.hid hs0
        have HR := Lib.hid hr
        clear hs0 hr
        have tok : True := trivial
        go_enter Tryd.func69, Tryd.ntmps69
        go_wp2_with (go_at_call 83; have _t := tok; refine (HS0.out _).mono ?_; rintro e w' ⟨rfl, rfl⟩; clear tok _t)
        go_loop [3] (fun i => ∃ k : Nat, k ≤ s.size ∧ i = .int .i64 k ∧ Hid (goodTo s k = true)) (fun i => s.size - (intOf i).toNat)
        case atStart => exact ⟨0, Nat.zero_le _, rfl, rfl⟩
        case round =>
          obtain ⟨k, hk, rfl, HK⟩ := hrel
          by_cases hlt : k < s.size
          · have hsm := small_any (s[k]'hlt).toNat
            have hdg := digit_any (s[k]'hlt).toNat
            have hge := Lib.hid (get_of s k hlt)
            cases hm : smallB (s[k]'hlt).toNat
            · have hk0 : k ≠ 0 := by
                rintro rfl
                rw [H0.out] at hm
                cases hm
              rw [hm] at hsm
              have HSM := Lib.hid hsm
              cases hd : digitB (s[k]'hlt).toNat
              · rw [hd] at hdg
                have HDG := Lib.hid hdg
                by_cases h45 : (s[k]'hlt).toNat = 45
                · have h45' : (((s[k]'hlt).toNat : Int) != 45) = false := by rw [bne_eq_false_iff_eq]; omega
                  have HK1 : Hid (goodTo s (k + 1) = true) := by show _ = true; rw [goodTo_succ, HK.out, hge.out, placeB_pos _ k hk0]; simp [h45]
                  clear hsm hdg hm hd h45
                  go_wp2_with (first | (go_at_call 83; refine (HSM.out _).mono ?_; rintro e w' ⟨rfl, rfl⟩) | (go_at_call 84; refine (HDG.out _).mono ?_; rintro e w' ⟨rfl, rfl⟩))
                  go_round
                  case rel => exact ⟨k + 1, by omega, by go_num, HK1⟩
                  case measure => simp [intOf]; omega
                · have h45' : (((s[k]'hlt).toNat : Int) != 45) = true := by rw [bne_iff_ne]; omega
                  obtain rfl : r = false := by rw [← HR.out]; exact goodTo_bad s k s.size hlt (by rw [hge.out, placeB_pos _ k hk0]; simp [hm, hd, h45])
                  clear hsm hdg hm hd h45
                  go_wp2_with (first | (go_at_call 83; refine (HSM.out _).mono ?_; rintro e w' ⟨rfl, rfl⟩) | (go_at_call 84; refine (HDG.out _).mono ?_; rintro e w' ⟨rfl, rfl⟩))
                  go_ret
                  exact ⟨rfl, rfl⟩
              · rw [hd] at hdg
                have HDG := Lib.hid hdg
                have HK1 : Hid (goodTo s (k + 1) = true) := by show _ = true; rw [goodTo_succ, HK.out, hge.out, placeB_pos _ k hk0]; simp [hd]
                clear hsm hdg hm hd
                go_wp2_with (first | (go_at_call 83; refine (HSM.out _).mono ?_; rintro e w' ⟨rfl, rfl⟩) | (go_at_call 84; refine (HDG.out _).mono ?_; rintro e w' ⟨rfl, rfl⟩))
                go_round
                case rel => exact ⟨k + 1, by omega, by go_num, HK1⟩
                case measure => simp [intOf]; omega
            · rw [hm] at hsm
              have HSM := Lib.hid hsm
              have HK1 : Hid (goodTo s (k + 1) = true) := by show _ = true; rw [goodTo_succ, HK.out, hge.out]; simp [placeB, hm]
              clear hsm hdg hm
              go_wp2_with (go_at_call 83; refine (HSM.out _).mono ?_; rintro e w' ⟨rfl, rfl⟩)
              go_round
              case rel => exact ⟨k + 1, by omega, by go_num, HK1⟩
              case measure => simp [intOf]; omega
          · have hks : k = s.size := by omega
            obtain rfl : r = true := by rw [← HR.out, ← hks]; exact HK.out
            have hk1 : ¬ (k : Int) < (s.size : Int) := by omega
            clear hks
            go_wp2
            go_ret
            exact ⟨rfl, rfl⟩
    · have e : nameB s = false := by simp [nameB, h1]
      rw [e]
      clear e
      go_enter Tryd.func69, Tryd.ntmps69
      go_wp2
      go_ret
      exact ⟨rfl, rfl⟩
  · have e : nameB s = false := by simp [nameB, h0]
    rw [e]
    obtain rfl : s = ByteArray.empty := by
      apply ByteArray.ext
      apply Array.eq_empty_of_size_eq_zero
      have : s.data.size = s.size := rfl
      omega
    clear e h0
    go_enter Tryd.func69, Tryd.ntmps69
    go_wp2
    go_ret
    exact ⟨rfl, rfl⟩

theorem runeB_place (c k : Nat) : runeB c (decide (k = 0)) = placeB c k := by
  by_cases h : k = 0 <;> simp [runeB, placeB, h]
theorem runeB_high (r : Nat) (h : 128 ≤ r) (f : Bool) : runeB r f = false := by
  have h1 : ¬ r ≤ 122 := by omega
  have h2 : ¬ r = 45 := by omega
  have h3 : ¬ r ≤ 57 := by omega
  simp [runeB, smallB, digitB, h1, h2, h3]
theorem placeB_high (c k : Nat) (h : 128 ≤ c) : placeB c k = false := by rw [← runeB_place]; exact runeB_high c h _

theorem implIsName_any (s : ByteArray) (w : World) :
    Calls Tryd.prog 71 #[.string s] w fun e w' => e = .returned (.bool (nameB s)) ∧ Below w.heap.size w w' := by
  by_cases h0 : 0 < s.size
  · have hne := nonempty_of h0
    by_cases h1 : s.size ≤ 12
    · rw [nameB_of s h0 h1]
      obtain ⟨r, hr⟩ : ∃ r, goodTo s s.size = r := ⟨_, rfl⟩
      rw [hr]
      have HR := Lib.hid hr
      clear hr
      go_enter Tryd.func71, Tryd.ntmps71
      go_wp2
      go_loopw [] (fun wr => ∃ k : Nat, k ≤ s.size ∧ wr = w.iter s k ∧ Hid (goodTo s k = true)) (fun wr => s.size - wr.iterPos w.heap.size)
      case atStart => exact ⟨0, Nat.zero_le _, rfl, rfl⟩
      case round =>
        obtain ⟨k, hk, rfl, HK⟩ := hrel
        by_cases hlt : k < s.size
        · have hge := Lib.hid (get_of s k hlt)
          have hz : ((k : Int) == 0) = decide (k = 0) := by
            by_cases hk0 : k = 0
            · subst hk0; rfl
            · rw [decide_eq_false hk0, beq_eq_false_iff_ne]; omega
          by_cases ha : (s[k]'hlt).toNat < 128
          · have hnx : ∀ ty, (Instr.next (.pointer (some ⟨w.heap.size, 0, none⟩)) true ty).run Tryd.prog (w.iter s k) = _ := fun ty => run_next_ascii w s k ty hlt ha
            have hir := isNameRune_any (s[k]'hlt).toNat (decide (k = 0))
            rw [runeB_place] at hir
            cases hp : placeB (s[k]'hlt).toNat k
            · obtain rfl : r = false := by rw [← HR.out]; exact goodTo_bad s k s.size hlt (by rw [hge.out]; exact hp)
              rw [hp] at hir
              have HI := Lib.hid hir
              clear hir hp ha
              go_wp2_with (go_at_call 85; refine (HI.out _).mono ?_; rintro e w' ⟨rfl, rfl⟩)
              go_ret
              exact ⟨rfl, (Below.refl _ _).alloc (Nat.le_refl _) _⟩
            · have HK1 : Hid (goodTo s (k + 1) = true) := by show _ = true; rw [goodTo_succ, HK.out, hge.out, hp]; rfl
              rw [hp] at hir
              have HI := Lib.hid hir
              clear hir hp ha
              go_wp2_with (go_at_call 85; refine (HI.out _).mono ?_; rintro e w' ⟨rfl, rfl⟩)
              go_roundw
              case rel => exact ⟨k + 1, by omega, rfl, HK1⟩
              case measure => simp; omega
          · have hd := decode_high s k hlt (by omega)
            have hnx : ∀ ty, (Instr.next (.pointer (some ⟨w.heap.size, 0, none⟩)) true ty).run Tryd.prog (w.iter s k) = _ := fun ty => run_next_any w s k ty hlt
            have hir := isNameRune_any (Utf8.decode s k).1 (decide (k = 0))
            rw [runeB_high _ hd.1] at hir
            obtain rfl : r = false := by rw [← HR.out]; exact goodTo_bad s k s.size hlt (by rw [hge.out]; exact placeB_high _ _ (by omega))
            have HI := Lib.hid hir
            obtain ⟨q, hq⟩ : ∃ q, Utf8.decode s k = q := ⟨_, rfl⟩
            rw [hq] at hnx HI
            clear hir ha hd hq
            go_wp2_with (go_at_call 85; refine (HI.out _).mono ?_; rintro e w' ⟨rfl, rfl⟩)
            go_ret
            exact ⟨rfl, (Below.refl _ _).alloc (Nat.le_refl _) _⟩
        · have hks : k = s.size := by omega
          obtain rfl : r = true := by rw [← HR.out, ← hks]; exact HK.out
          have hnx : ∀ ty, (Instr.next (.pointer (some ⟨w.heap.size, 0, none⟩)) true ty).run Tryd.prog (w.iter s k) = _ := fun ty => run_next_end w s k ty hlt
          clear hks
          go_wp2
          go_ret
          exact ⟨rfl, (Below.refl _ _).alloc (Nat.le_refl _) _⟩
    · have e : nameB s = false := by simp [nameB, h1]
      rw [e]
      clear e
      go_enter Tryd.func71, Tryd.ntmps71
      go_wp2
      go_ret
      exact ⟨rfl, Below.refl _ _⟩
  · have e : nameB s = false := by simp [nameB, h0]
    rw [e]
    obtain rfl : s = ByteArray.empty := by
      apply ByteArray.ext
      apply Array.eq_empty_of_size_eq_zero
      have : s.data.size = s.size := rfl
      omega
    clear e h0
    go_enter Tryd.func71, Tryd.ntmps71
    go_wp2
    go_ret
    exact ⟨rfl, Below.refl _ _⟩
end Go.Proofs.YtmdgpkiicjmfhaaDoor
