/- The character of holes: spec.l03Char, spec.CharOf and impl.CharOf, for every number: contracts, of spec.l03Order and bits.Len64 (of single bits) too. -/
import Derived.Test.YtamookdlbmbncabDoorCharTab
import Derived.Test.YtamookdlbmbncabDoorValid
namespace Go.Proofs.YtamookdlbmbncabDoor
open Go.ChangeShapes Go.WideShapes Go.ChangeAt Go.RowKit

theorem l03Char_yes (m : Int) (j : Nat) (hj : j < 40) (h : codeS (charR j) = m) (hf : ∀ k, k < j → codeS (charR k) ≠ m) (w : World) :
    Calls Tryd.prog 53 #[.int .i64 m] w fun e w' => e = .returned (.tuple #[.int .u8 (charR j), .bool true]) ∧ w = w' := by
  obtain ⟨c, hc⟩ : ∃ c, charR j = c := ⟨_, rfl⟩
  have hcb := charR_le j
  rw [hc] at h hcb ⊢
  have hcode := fun W => l03Code_any c hcb.1 hcb.2 W
  rw [h] at hcode
  have HX := Lib.hid hcode
  have HJ := Lib.hid hc
  have H := Lib.hid hf
  have HO := Lib.hid l03Order_any
  have HZ := Lib.hid orderS_size
  have HC := Lib.hid l03Code_any
  clear h hf hc hcb hcode
  go_enter Tryd.func53, Tryd.ntmps53
  go_wp2_with (go_at_call 48; refine (HO.out _).mono ?_; rintro e w' ⟨rfl, rfl⟩)
  go_loop [5] (fun i => ∃ k : Nat, k ≤ j ∧ i = .int .i64 k) (fun i => 40 - (intOf i).toNat)
  case atStart => exact ⟨0, Nat.zero_le _, rfl⟩
  case round =>
    obtain ⟨k, hk, rfl⟩ := hrel
    have hlt : k < orderS.size := by rw [HZ.out]; omega
    have hsz : (k : Int) < (orderS.size : Int) := by omega
    by_cases hkj : k = j
    · have hg : (orderS[k].toNat : Int) = c := by rw [order_get k hlt, hkj]; exact HJ.out
      clear hkj HC H
      go_wp2_with (go_at_call 60; refine (HX.out _).mono ?_; rintro e w' ⟨rfl, rfl⟩)
      go_ret2
      exact ⟨rfl, rfl⟩
    · have hg := order_get k hlt
      obtain ⟨x, hx⟩ : ∃ x, charR k = x := ⟨_, rfl⟩
      have hb := charR_le k
      rw [hx] at hg hb
      have hcode := fun W => HC.out x hb.1 hb.2 W
      have e : codeS x ≠ m := by rw [← hx]; exact H.out k (by omega)
      obtain ⟨y, hy⟩ : ∃ y, codeS x = y := ⟨_, rfl⟩
      rw [hy] at hcode e
      have hne : (y == m) = false := neq_b e
      have HY := Lib.hid hcode
      have hkj' : k + 1 ≤ j := by omega
      clear hcode hx hb hkj e hy HX
      go_wp2_with (go_at_call 60; refine (HY.out _).mono ?_; rintro e w' ⟨rfl, rfl⟩)
      go_round
      case rel => exact ⟨k + 1, by omega, by go_num⟩
      case measure => simp [intOf]; omega

theorem l03Char_no (m : Int) (h : ∀ k, k < 40 → codeS (charR k) ≠ m) (w : World) :
    Calls Tryd.prog 53 #[.int .i64 m] w fun e w' => e = .returned (.tuple #[.int .u8 0, .bool false]) ∧ w = w' := by
  have H := Lib.hid h
  have HO := Lib.hid l03Order_any
  have HZ := Lib.hid orderS_size
  have HC := Lib.hid l03Code_any
  clear h
  go_enter Tryd.func53, Tryd.ntmps53
  go_wp2_with (go_at_call 48; refine (HO.out _).mono ?_; rintro e w' ⟨rfl, rfl⟩)
  go_loop [5] (fun i => ∃ k : Nat, k ≤ 40 ∧ i = .int .i64 k) (fun i => 40 - (intOf i).toNat)
  case atStart => exact ⟨0, Nat.zero_le _, rfl⟩
  case round =>
    obtain ⟨k, hk, rfl⟩ := hrel
    by_cases hk40 : k < 40
    · have hlt : k < orderS.size := by rw [HZ.out]; omega
      have hsz : (k : Int) < (orderS.size : Int) := by omega
      have hg := order_get k hlt
      obtain ⟨x, hx⟩ : ∃ x, charR k = x := ⟨_, rfl⟩
      have hb := charR_le k
      rw [hx] at hg hb
      have hcode := fun W => HC.out x hb.1 hb.2 W
      have e : codeS x ≠ m := by rw [← hx]; exact H.out k (by omega)
      obtain ⟨y, hy⟩ : ∃ y, codeS x = y := ⟨_, rfl⟩
      rw [hy] at hcode e
      have hne : (y == m) = false := neq_b e
      have HX := Lib.hid hcode
      clear hcode hx hb e hy
      go_wp2_with (go_at_call 60; refine (HX.out _).mono ?_; rintro e w' ⟨rfl, rfl⟩)
      go_round
      case rel => exact ⟨k + 1, by omega, by go_num⟩
      case measure => simp [intOf]; omega
    · have hsz : ¬ (k : Int) < (orderS.size : Int) := by have := HZ.out; omega
      clear hk40
      go_wp2
      go_ret2
      exact ⟨rfl, rfl⟩

set_option maxRecDepth 100000 in
theorem len64_bit (n : Nat) (h : n ≤ 9) (w : World) :
    Calls Tryd.prog 71 #[.int .u64 (bitV n)] w fun e w' => e = .returned (.int .i64 n) ∧ w = w' := by
  rcases nine_cases h with rfl | rfl | rfl | rfl | rfl | rfl | rfl | rfl | rfl | rfl
  all_goals
    clear h
    simp only [bitV]
    go_enter Tryd.func71, Tryd.ntmps71
    go_wp2
    go_ret
    exact ⟨by kernel_rfl, rfl⟩

theorem bitV_popc (n : Nat) (h : n ≤ 9) : popc 12 (bitV n).toNat ≤ 1 ∧ 0 ≤ bitV n ∧ bitV n ≤ 256 := by
  rcases nine_cases h with rfl | rfl | rfl | rfl | rfl | rfl | rfl | rfl | rfl | rfl <;> decide

def zoneN (m : Nat) : Nat := (bits .and .u64 (m : Int) 7).toNat
theorem zone_parts : ∀ a b : Fin 64, bits .and .u64 ((64 * a.val + b.val : Nat) : Int) 7 = ((((64 * a.val + b.val) % 8 : Nat)) : Int) := by decide +kernel
theorem zone_mod (m : Nat) (hm : m < 4096) : bits .and .u64 (m : Int) 7 = ((m % 8 : Nat) : Int) := by
  have h := zone_parts ⟨m / 64, by omega⟩ ⟨m % 64, by omega⟩
  have e : 64 * (m / 64) + m % 64 = m := by omega
  simp only [e] at h
  exact h

theorem implChar_out (m : Int) (h : inB m 0 4095 = false) (w : World) :
    Calls Tryd.prog 67 #[.int .i64 m] w fun e w' => e = .returned (.tuple #[.int .u8 0, .bool false]) ∧ w = w' := by
  have hi := isMask_any m
  rw [h] at hi
  have HI := Lib.hid hi
  clear hi h
  go_enter Tryd.func67, Tryd.ntmps67
  go_wp2_with (go_at_call 69; refine (HI.out _).mono ?_; rintro e w' ⟨rfl, rfl⟩)
  go_ret2
  exact ⟨rfl, rfl⟩

theorem implChar_zone (m : Nat) (hm : m < 4096) (h : 1 < popc 12 (m % 8)) (w : World) :
    Calls Tryd.prog 67 #[.int .i64 m] w fun e w' => e = .returned (.tuple #[.int .u8 0, .bool false]) ∧ w = w' := by
  have hi := isMask_any m
  rw [show inB (m : Int) 0 4095 = true by simp [inB]; omega] at hi
  have hz := zone_mod m hm
  obtain ⟨z, hzz⟩ : ∃ z, m % 8 = z := ⟨_, rfl⟩
  rw [hzz] at hz h
  have hz8 : z < 4096 := by omega
  have ho := ones_any z hz8
  obtain ⟨p, hp⟩ : ∃ p, popc 12 z = p := ⟨_, rfl⟩
  rw [hp] at ho h
  have hp1 : (1 : Int) < (p : Int) := by omega
  have HI := Lib.hid hi
  have HO := Lib.hid ho
  clear hi ho hzz hp
  go_enter Tryd.func67, Tryd.ntmps67
  go_wp2_with (first | (go_at_call 69; refine (HI.out _).mono ?_; rintro e w' ⟨rfl, rfl⟩) | (go_at_call 70; (with_reducible refine (HO.out _).mono ?_); rintro e w' ⟨rfl, rfl⟩))
  go_ret2
  exact ⟨rfl, rfl⟩

theorem implChar_digit (m : Nat) (hm : m < 4096) (h0 : popc 12 (m % 8) ≤ 1) (h : 1 < popc 12 (m / 8)) (w : World) :
    Calls Tryd.prog 67 #[.int .i64 m] w fun e w' => e = .returned (.tuple #[.int .u8 0, .bool false]) ∧ w = w' := by
  have hi := isMask_any m
  rw [show inB (m : Int) 0 4095 = true by simp [inB]; omega] at hi
  have hz := zone_mod m hm
  obtain ⟨z, hzz⟩ : ∃ z, m % 8 = z := ⟨_, rfl⟩
  rw [hzz] at hz h0
  obtain ⟨q, hqq⟩ : ∃ q, m / 8 = q := ⟨_, rfl⟩
  have hq : (m : Int) / 8 = (q : Int) := by rw [← hqq]; rfl
  rw [hqq] at h
  have ho := ones_any z (by omega)
  have ho2 := ones_any q (by omega)
  obtain ⟨p, hp⟩ : ∃ p, popc 12 z = p := ⟨_, rfl⟩
  rw [hp] at ho h0
  obtain ⟨p2, hp2⟩ : ∃ p, popc 12 q = p := ⟨_, rfl⟩
  rw [hp2] at ho2 h
  have hp1 : ¬ (1 : Int) < (p : Int) := by omega
  have hp3 : (1 : Int) < (p2 : Int) := by omega
  have HI := Lib.hid hi
  have HO := Lib.hid ho
  have HO2 := Lib.hid ho2
  clear hi ho ho2 hzz hp hp2 hqq
  go_enter Tryd.func67, Tryd.ntmps67
  go_wp2_with (first | (go_at_call 69; refine (HI.out _).mono ?_; rintro e w' ⟨rfl, rfl⟩) | (go_at_call 70; (first | (with_reducible refine (HO.out _).mono ?_) | (with_reducible refine (HO2.out _).mono ?_)); rintro e w' ⟨rfl, rfl⟩))
  go_ret2
  exact ⟨rfl, rfl⟩

theorem ones_bit (n : Nat) (h : n ≤ 9) (w : World) :
    Calls Tryd.prog 70 #[.int .u64 (bitV n)] w fun e w' => e = .returned (.int .i64 (popc 12 (bitV n).toNat)) ∧ w = w' := by
  have hb := bitV_popc n h
  have ho := ones_any (bitV n).toNat (by omega) w
  rwa [Int.toNat_of_nonneg hb.2.1] at ho

theorem implChar_yes (m d r : Nat) (hm : m < 4096) (hd : d ≤ 3) (hr : r ≤ 9) (hz : bits .and .u64 (m : Int) 7 = bitV d) (hq : (m : Int) / 8 = bitV r) (w : World) :
    Calls Tryd.prog 67 #[.int .i64 m] w fun e w' => e = .returned (.tuple #[.int .u8 (sheetC (10 * d + r)), .bool true]) ∧ w = w' := by
  have hi := isMask_any m
  rw [show inB (m : Int) 0 4095 = true by simp [inB]; omega] at hi
  have ho := ones_bit d (by omega)
  have ho2 := ones_bit r hr
  have hl := len64_bit d (by omega)
  have hl2 := len64_bit r hr
  have hb := (bitV_popc d (by omega)).1
  have hb2 := (bitV_popc r hr).1
  obtain ⟨x, hx⟩ : ∃ x, bitV d = x := ⟨_, rfl⟩
  obtain ⟨y, hy⟩ : ∃ x, bitV r = x := ⟨_, rfl⟩
  rw [hx] at ho hl hb hz
  rw [hy] at ho2 hl2 hb2 hq
  obtain ⟨p, hp⟩ : ∃ p, popc 12 x.toNat = p := ⟨_, rfl⟩
  rw [hp] at ho hb
  obtain ⟨p2, hp2⟩ : ∃ p, popc 12 y.toNat = p := ⟨_, rfl⟩
  rw [hp2] at ho2 hb2
  have hp1 : ¬ (1 : Int) < (p : Int) := by omega
  have hp3 : ¬ (1 : Int) < (p2 : Int) := by omega
  obtain ⟨c, hc⟩ : ∃ c, sheetC (10 * d + r) = c := ⟨_, rfl⟩
  rw [hc]
  have HI := Lib.hid hi
  have HO := Lib.hid ho
  have HO2 := Lib.hid ho2
  have HL := Lib.hid hl
  have HL2 := Lib.hid hl2
  have HC := Lib.hid hc
  clear hi ho ho2 hl hl2 hp hp2 hx hy hb hb2 hc
  go_enter Tryd.func67, Tryd.ntmps67
  go_wp2_with (first | (go_at_call 69; refine (HI.out _).mono ?_; rintro e w' ⟨rfl, rfl⟩) | (go_at_call 70; (first | (with_reducible refine (HO.out _).mono ?_) | (with_reducible refine (HO2.out _).mono ?_)); rintro e w' ⟨rfl, rfl⟩) | (go_at_call 71; (first | (with_reducible refine (HL.out _).mono ?_) | (with_reducible refine (HL2.out _).mono ?_)); rintro e w' ⟨rfl, rfl⟩))
  go_ret2
  exact ⟨congrArg (fun c => Ending.returned (.tuple #[.int .u8 c, .bool true])) ((sheet_get (10 * d + r) (by show _ < 40; omega)).trans HC.out), rfl⟩

/-- the rank of the character of holes -/
def rankM (m : Int) : Option Nat := (List.range 40).find? fun j => codeS (charR j) == m
def charOk (m : Int) : Bool := (rankM m).isSome
def charV (m : Int) : Int := match rankM m with | some j => charR j | none => 0
theorem rankM_none {m : Int} (h : rankM m = none) : ∀ k, k < 40 → codeS (charR k) ≠ m := by
  intro k hk
  have := List.find?_eq_none.1 h k (List.mem_range.2 hk)
  simpa using this
theorem rankM_some {m : Int} {j : Nat} (h : rankM m = some j) : j < 40 ∧ codeS (charR j) = m ∧ ∀ k, k < j → codeS (charR k) ≠ m := by
  obtain ⟨hp, i, hi, hij, hbef⟩ := List.find?_eq_some_iff_getElem.1 h
  have hi' : i = j := by simpa using hij
  subst hi'
  refine ⟨by simpa using hi, by simpa using hp, fun k hk => ?_⟩
  have := hbef k hk
  simpa using this
theorem rankM_of {m : Int} {j : Nat} (h1 : j < 40) (h2 : codeS (charR j) = m) (h3 : ∀ k, k < j → codeS (charR k) ≠ m) : rankM m = some j := by
  cases h : rankM m with
  | none => exact absurd h2 (rankM_none h j h1)
  | some i =>
    obtain ⟨_, e2, e3⟩ := rankM_some h
    rcases Nat.lt_trichotomy i j with hl | hl | hl
    · exact absurd e2 (h3 i hl)
    · rw [hl]
    · exact absurd h2 (e3 j hl)
theorem rankM_out {m : Int} (h : inB m 0 4095 = false) : rankM m = none := by
  have hr : ∀ k : Fin 40, codesL[k.val]?.getD 0 ≤ 4095 := by decide +kernel
  cases e : rankM m with
  | none => rfl
  | some i =>
    obtain ⟨e1, e2, _⟩ := rankM_some e
    rw [codes_at i e1] at e2
    have hh : codesL[i]?.getD 0 ≤ 4095 := hr ⟨i, e1⟩
    simp only [inB] at h
    rw [← e2] at h
    simp at h
    omega
theorem charV_le (m : Int) : 0 ≤ charV m ∧ charV m ≤ 255 := by
  unfold charV
  split
  · exact charR_le _
  · decide

theorem l03Char_any (m : Int) (w : World) :
    Calls Tryd.prog 53 #[.int .i64 m] w fun e w' => e = .returned (.tuple #[.int .u8 (charV m), .bool (charOk m)]) ∧ w = w' := by
  unfold charV charOk
  cases h : rankM m with
  | none => exact l03Char_no m (rankM_none h) w
  | some j =>
    obtain ⟨h1, h2, h3⟩ := rankM_some h
    exact l03Char_yes m j h1 h2 h3 w

theorem implCharOf_any (m : Int) (w : World) :
    Calls Tryd.prog 67 #[.int .i64 m] w fun e w' => e = .returned (.tuple #[.int .u8 (charV m), .bool (charOk m)]) ∧ w = w' := by
  cases hi : inB m 0 4095
  · have h := rankM_out hi
    simp only [charV, charOk, h]
    exact implChar_out m hi w
  · have hm : 0 ≤ m ∧ m ≤ 4095 := by simpa [inB] using hi
    obtain ⟨n, rfl⟩ : ∃ n : Nat, m = n := ⟨m.toNat, by omega⟩
    have hn : n < 4096 := by omega
    rcases char_cases n hn with ⟨h, hz⟩ | ⟨j, d, r, h1, h2, h3, hd, hr, hz, hq, hc⟩
    · have h' : rankM n = none := by
        cases e : rankM (n : Int) with
        | none => rfl
        | some i => obtain ⟨e1, e2, _⟩ := rankM_some e; exact absurd e2 (h i e1)
      simp only [charV, charOk, h']
      rcases hz with hz | ⟨hz0, hz⟩
      · exact implChar_zone n hn hz w
      · exact implChar_digit n hn hz0 hz w
    · have h' := rankM_of h1 h2 h3
      simp only [charV, charOk, h', hc]
      exact implChar_yes n d r hn hd hr (by rw [zone_mod n hn]; exact hz) (by rw [← hq]; rfl) w
end Go.Proofs.YtamookdlbmbncabDoor
