/- The pockets of a sorter: spec.l07Pass, l07Digits, l07Zones and impl's isFor, digitPocket, zonePocket answer the same pass check and the same pocket: contracts. -/
import Derived.Test.YtfffdlmpiglojaaDoorHoles
import Derived.Test.YtfffdlmpiglojaaDoorMode
import Derived.Test.YtfffdlmpiglojaaDoorShelf
import Derived.Deep.RegionHeld3
namespace Go.Proofs.YtfffdlmpiglojaaDoor
open Go.ChangeShapes Go.WideShapes Go.ChangeAt Go.RowKit

/-- whether a pass is one of n columns -/
def passB (a b n : Int) : Bool := (decide (0 ≤ a) && decide (a < n)) && modeB b
theorem passB_in (a b n : Int) : passB a b n = (inB a 0 (n - 1) && modeB b) := by
  unfold passB inB
  congr 2
  simp only [decide_eq_decide]
  omega
theorem l07Pass_any (a b : Int) (n : Nat) (hn : n ≤ 1048576) (w : World) :
    Calls Tryd.prog 46 #[.agg #[.int .i64 a, .int .i64 b], .int .i64 n] w fun e w' => e = .returned (.bool (passB a b n)) ∧ Below w.heap.size w w' := by
  rw [passB_in]
  have HI := fun W => in_any a 0 ((n : Int) - 1) W
  have HM := fun W => l07Mode_any b W
  have i0 : (0 : Int) ≤ (n : Int) := Int.natCast_nonneg _
  have i1 : (n : Int) ≤ 1048576 := by omega
  obtain ⟨x, hx⟩ : ∃ x, inB a 0 ((n : Int) - 1) = x := ⟨_, rfl⟩
  obtain ⟨y, hy⟩ : ∃ y, modeB b = y := ⟨_, rfl⟩
  simp only [hx] at HI
  simp only [hy] at HM
  rw [hx, hy]
  have HI' := Lib.hid HI
  have HM' := Lib.hid HM
  clear hx hy HI HM
  cases x
  all_goals
    go_enter Tryd.func46, Tryd.ntmps46
    go_wp2_with (first | (go_at_call 74; refine (HI'.out _).mono ?_; rintro e w' ⟨rfl, rfl⟩) | (go_at_call 75; refine (HM'.out _).mono ?_; rintro e w' ⟨rfl, rfl⟩))
    go_ret
    exact ⟨by cases y <;> rfl, below_box w _⟩
theorem isFor_any (a b : Int) (n : Int) (w : World) :
    Calls Tryd.prog 80 #[.agg #[.int .i64 a, .int .i64 b], .int .i64 n] w fun e w' => e = .returned (.bool (passB a b n)) ∧ Below w.heap.size w w' := by
  unfold passB
  have HI := fun W => isColumnOf_any a n W
  have HM := fun W => isMode_any b W
  obtain ⟨x, hx⟩ : ∃ x, (decide (0 ≤ a) && decide (a < n)) = x := ⟨_, rfl⟩
  obtain ⟨y, hy⟩ : ∃ y, modeB b = y := ⟨_, rfl⟩
  simp only [hx] at HI
  simp only [hy] at HM
  rw [hx, hy]
  have HI' := Lib.hid HI
  have HM' := Lib.hid HM
  clear hx hy HI HM
  cases x
  all_goals
    go_enter Tryd.func80, Tryd.ntmps80
    go_wp2_with (first | (go_at_call 98; refine (HI'.out _).mono ?_; rintro e w' ⟨rfl, rfl⟩) | (go_at_call 99; refine (HM'.out _).mono ?_; rintro e w' ⟨rfl, rfl⟩))
    go_ret
    exact ⟨by cases y <;> rfl, below_box w _⟩

/-- the pocket of holes with digits -/
def digitsP (m : Int) : Int := if 8 ≤ m then (Nat.log2 m.toNat : Int) - 2 else if m = 4 then 0 else 12
theorem digit_bits : ∀ k : Fin 9, ∀ a b : Fin 64, 64 * a.val + b.val < 2 ^ (k.val + 4) → (bits .and .i64 ((64 * a.val + b.val : Nat) : Int) (rowBit ((k.val + 1 : Nat) : Int)) = 0 ↔ 64 * a.val + b.val < 2 ^ (k.val + 3)) := by decide +kernel
theorem digit_bit (m : Nat) (k : Nat) (hm : m < 4096) (hk : k < 9) (h : m < 2 ^ (k + 4)) : (bits .and .i64 (m : Int) (rowBit ((k + 1 : Nat) : Int)) = 0 ↔ m < 2 ^ (k + 3)) := by
  have := digit_bits ⟨k, hk⟩ ⟨m / 64, by omega⟩ ⟨m % 64, by omega⟩
  have e : 64 * (m / 64) + m % 64 = m := by omega
  simp only [e] at this
  exact this h
theorem log2_at {m k : Nat} (h1 : 2 ^ k ≤ m) (h2 : m < 2 ^ (k + 1)) : Nat.log2 m = k := by
  have h0 : m ≠ 0 := by have := Nat.two_pow_pos k; omega
  have a := (Nat.le_log2 h0).2 h1
  have b := (Nat.log2_lt h0).2 h2
  omega

theorem l07Digits_any (m : Nat) (hm : m < 4096) (w : World) :
    Calls Tryd.prog 88 #[.int .i64 m] w fun e w' => e = .returned (.int .i64 (digitsP m)) ∧ Below w.heap.size w w' := by
  have HB := Lib.hid (fun r : Int => l02Bit_any r)
  obtain ⟨r, hr⟩ : ∃ r, digitsP m = r := ⟨_, rfl⟩
  rw [hr]
  have HR := Lib.hid hr
  have HM := Lib.hid hm
  clear hr
  go_enter Tryd.func88, Tryd.ntmps88
  go_wp2
  go_loopw [3] (fun i wr => ∃ k : Nat, k ≤ 9 ∧ i = .int .i64 k ∧ Hid (m < 2 ^ (k + 3)) ∧ Hid (Below w.heap.size w wr)) (fun i _ => (intOf i).toNat)
  case atStart => exact ⟨9, by omega, rfl, hm, Below.refl _ _⟩
  case round =>
    obtain ⟨k, hk, rfl, HK, HW⟩ := hrel
    by_cases h0 : 1 ≤ k
    · obtain ⟨j, rfl⟩ : ∃ j, k = j + 1 := ⟨k - 1, by omega⟩
      have hb := digit_bit m j HM.out (by omega) HK.out
      have HC := Lib.hid (fun W => HB.out ((j + 1 : Nat) : Int) W)
      obtain ⟨t, ht⟩ : ∃ t, rowBit ((j + 1 : Nat) : Int) = t := ⟨_, rfl⟩
      rw [ht] at hb
      simp only [ht] at HC
      have h1 : ((j + 1 : Nat) : Int) ≥ 1 := by omega
      clear ht
      by_cases h2 : m < 2 ^ (j + 3)
      · have e0 : bits .and .i64 (m : Int) t = 0 := hb.2 h2
        have HK1 := Lib.hid h2
        clear hb h2 HK
        go_wp2_with (go_at_call 108; refine (HC.out _).mono ?_; rintro e w' ⟨rfl, rfl⟩)
        go_roundw
        case rel => exact ⟨j, by omega, by go_num, HK1, HW⟩
        case measure => simp [intOf]
      · have e0 : bits .and .i64 (m : Int) t ≠ 0 := fun e => h2 (hb.1 e)
        have e1 : (bits .and .i64 (m : Int) t != 0) = true := by simpa using e0
        obtain rfl : r = ((j + 1 : Nat) : Int) := by
          have hl := log2_at (m := m) (k := j + 3) (by omega) HK.out
          have h8 : 8 ≤ m := by
            have : 2 ^ 3 ≤ 2 ^ (j + 3) := Nat.pow_le_pow_right (by omega) (by omega)
            omega
          rw [← HR.out, digitsP, if_pos (by omega), Int.toNat_natCast, hl]
          omega
        clear hb h2 HK e0
        go_wp2_with (go_at_call 108; refine (HC.out _).mono ?_; rintro e w' ⟨rfl, rfl⟩)
        go_ret
        exact ⟨rfl, HW.out⟩
    · obtain rfl : k = 0 := by omega
      have h8 : m < 8 := HK.out
      have HC := Lib.hid (fun W => HB.out 0 W)
      have hz : rowBit 0 = 4 := by decide
      simp only [hz] at HC
      by_cases h4 : m = 4
      · subst h4
        obtain rfl : r = 0 := by rw [← HR.out]; decide
        go_wp2_with (go_at_call 108; refine (HC.out _).mono ?_; rintro e w' ⟨rfl, rfl⟩)
        go_ret
        exact ⟨rfl, HW.out⟩
      · obtain rfl : r = 12 := by
          rw [← HR.out, digitsP, if_neg (by omega), if_neg (by omega)]
        have e1 : ((m : Int) == 4) = false := by simp; omega
        clear h8
        go_wp2_with (go_at_call 108; refine (HC.out _).mono ?_; rintro e w' ⟨rfl, rfl⟩)
        go_ret
        exact ⟨rfl, HW.out⟩

theorem bitLen_log : ∀ n : Fin 512, n.val ≠ 0 → Lib.bitLen n.val = Nat.log2 n.val + 1 := by decide +kernel
theorem len64_log (x : Nat) (h1 : 1 ≤ x) (h2 : x < 512) (w : World) :
    Calls Tryd.prog 113 #[.int .u64 x] w fun e w' => e = .returned (.int .i64 ((Nat.log2 x + 1 : Nat) : Int)) ∧ w = w' :=
  (Tryd.bits_Len64 x w (by omega) (by omega)).mono (by
    rintro e w' ⟨rfl, rfl⟩
    refine ⟨?_, rfl⟩
    rw [Int.toNat_natCast, bitLen_log ⟨x, h2⟩ (by show x ≠ 0; omega)])

theorem digitPocket_any (m : Nat) (hm : m < 4096) (w : World) :
    Calls Tryd.prog 93 #[.int .i64 m] w fun e w' => e = .returned (.int .i64 (digitsP m)) ∧ w = w' := by
  by_cases h8 : 8 ≤ m
  · have hq : ((m : Int) / 8) = ((m / 8 : Nat) : Int) := by omega
    have hne : ((m : Int) / 8 != 0) = true := by rw [bne_iff_ne]; omega
    have hv : digitsP m = ((Nat.log2 (m / 8) + 1 : Nat) : Int) := by
      have h0 : m ≠ 0 := by omega
      have e : Nat.log2 m = Nat.log2 (m / 8) + 3 := by
        obtain ⟨k, hk⟩ : ∃ k, Nat.log2 (m / 8) = k := ⟨_, rfl⟩
        have a := Nat.log2_self_le (n := m / 8) (by omega)
        have b := Nat.lt_log2_self (n := m / 8)
        rw [hk] at a b ⊢
        refine log2_at ?_ ?_
        · rw [Nat.pow_add]; omega
        · rw [show k + 3 + 1 = (k + 1) + 3 by omega, Nat.pow_add]; omega
      rw [digitsP, if_pos (by omega), Int.toNat_natCast, e]
      omega
    rw [hv]
    have HL := Lib.hid (fun W => len64_log (m / 8) (by omega) (by omega) W)
    rw [← hq] at HL
    clear hq hv
    go_enter Tryd.func93, Tryd.ntmps93
    go_wp2_with (go_at_call 113; refine (HL.out _).mono ?_; rintro e w' ⟨rfl, rfl⟩)
    go_ret
    exact ⟨rfl, rfl⟩
  · have hz : (m : Int) / 8 = 0 := by omega
    have hne : ((m : Int) / 8 != 0) = false := by simp [hz]
    by_cases h4 : m = 4
    · subst h4
      go_enter Tryd.func93, Tryd.ntmps93
      go_wp2
      go_ret
      exact ⟨by rw [show digitsP ((4 : Nat) : Int) = 0 by decide]; rfl, rfl⟩
    · have hv : digitsP m = 12 := by rw [digitsP, if_neg (by omega), if_neg (by omega)]
      have e1 : ((m : Int) == 4) = false := by simp; omega
      rw [hv]
      go_enter Tryd.func93, Tryd.ntmps93
      go_wp2
      go_ret
      exact ⟨rfl, rfl⟩

/-- the pocket of holes with zones -/
def zonesP (m : Int) : Int := if bits .and .i64 m 1 ≠ 0 then 11 else if bits .and .i64 m 2 ≠ 0 then 10 else if bits .and .i64 m 4 ≠ 0 ∧ 8 ≤ m then 0 else if m ≠ 0 then 1 else 12

theorem l07Zones_any (m : Nat) (w : World) :
    Calls Tryd.prog 89 #[.int .i64 m] w fun e w' => e = .returned (.int .i64 (zonesP m)) ∧ w = w' := by
  unfold zonesP
  obtain ⟨b1, h1⟩ : ∃ b, bits .and .i64 (m : Int) 1 = b := ⟨_, rfl⟩
  obtain ⟨b2, h2⟩ : ∃ b, bits .and .i64 (m : Int) 2 = b := ⟨_, rfl⟩
  obtain ⟨b4, h4⟩ : ∃ b, bits .and .i64 (m : Int) 4 = b := ⟨_, rfl⟩
  rw [h1, h2, h4]
  by_cases e1 : b1 = 0
  · by_cases e2 : b2 = 0
    · by_cases e4 : b4 = 0
      · by_cases e0 : (m : Int) = 0
        · rw [if_neg (by omega), if_neg (by omega), if_neg (by omega), if_neg (by omega)]
          have k1 : (b1 != 0) = false := by simp [e1]
          have k2 : (b2 != 0) = false := by simp [e2]
          have k4 : (b4 != 0) = false := by simp [e4]
          have k0 : ((m : Int) != 0) = false := by simp [e0]
          go_enter Tryd.func89, Tryd.ntmps89
          go_wp2_with (simp only [h1, h2, h4])
          go_ret
          exact ⟨rfl, rfl⟩
        · rw [if_neg (by omega), if_neg (by omega), if_neg (by omega), if_pos (by omega)]
          have k1 : (b1 != 0) = false := by simp [e1]
          have k2 : (b2 != 0) = false := by simp [e2]
          have k4 : (b4 != 0) = false := by simp [e4]
          have k0 : ((m : Int) != 0) = true := by simpa using e0
          go_enter Tryd.func89, Tryd.ntmps89
          go_wp2_with (simp only [h1, h2, h4])
          go_ret
          exact ⟨rfl, rfl⟩
      · by_cases e8 : 8 ≤ (m : Int)
        · rw [if_neg (by omega), if_neg (by omega), if_pos (by omega)]
          have k1 : (b1 != 0) = false := by simp [e1]
          have k2 : (b2 != 0) = false := by simp [e2]
          have k4 : (b4 != 0) = true := by simpa using e4
          have k7 : (m : Int) > 7 := by omega
          go_enter Tryd.func89, Tryd.ntmps89
          go_wp2_with (simp only [h1, h2, h4])
          go_ret
          exact ⟨rfl, rfl⟩
        · by_cases e0 : (m : Int) = 0
          · have : b4 = 0 := by rw [← h4, e0]; decide
            exact absurd this e4
          · rw [if_neg (by omega), if_neg (by omega), if_neg (by omega), if_pos (by omega)]
            have k1 : (b1 != 0) = false := by simp [e1]
            have k2 : (b2 != 0) = false := by simp [e2]
            have k4 : (b4 != 0) = true := by simpa using e4
            have k7 : ¬ (m : Int) > 7 := by omega
            have k0 : ((m : Int) != 0) = true := by simpa using e0
            go_enter Tryd.func89, Tryd.ntmps89
            go_wp2_with (simp only [h1, h2, h4])
            go_ret
            exact ⟨rfl, rfl⟩
    · rw [if_neg (by omega), if_pos (by omega)]
      have k1 : (b1 != 0) = false := by simp [e1]
      have k2 : (b2 != 0) = true := by simpa using e2
      go_enter Tryd.func89, Tryd.ntmps89
      go_wp2_with (simp only [h1, h2, h4])
      go_ret
      exact ⟨rfl, rfl⟩
  · rw [if_pos (by omega)]
    have k1 : (b1 != 0) = true := by simpa using e1
    go_enter Tryd.func89, Tryd.ntmps89
    go_wp2_with (simp only [h1, h2, h4])
    go_ret
    exact ⟨rfl, rfl⟩

theorem zonePocket_any (m : Nat) (w : World) :
    Calls Tryd.prog 94 #[.int .i64 m] w fun e w' => e = .returned (.int .i64 (zonesP m)) ∧ w = w' := by
  unfold zonesP
  obtain ⟨b1, h1⟩ : ∃ b, bits .and .i64 (m : Int) 1 = b := ⟨_, rfl⟩
  obtain ⟨b2, h2⟩ : ∃ b, bits .and .i64 (m : Int) 2 = b := ⟨_, rfl⟩
  obtain ⟨b4, h4⟩ : ∃ b, bits .and .i64 (m : Int) 4 = b := ⟨_, rfl⟩
  rw [h1, h2, h4]
  by_cases e1 : b1 = 0
  · by_cases e2 : b2 = 0
    · by_cases e4 : b4 = 0
      · by_cases e0 : (m : Int) = 0
        · rw [if_neg (by omega), if_neg (by omega), if_neg (by omega), if_neg (by omega)]
          have k1 : (b1 != 0) = false := by simp [e1]
          have k2 : (b2 != 0) = false := by simp [e2]
          have k4 : (b4 != 0) = false := by simp [e4]
          have k0 : ((m : Int) != 0) = false := by simp [e0]
          go_enter Tryd.func94, Tryd.ntmps94
          go_wp2_with (simp only [h1, h2, h4])
          go_ret
          exact ⟨rfl, rfl⟩
        · rw [if_neg (by omega), if_neg (by omega), if_neg (by omega), if_pos (by omega)]
          have k1 : (b1 != 0) = false := by simp [e1]
          have k2 : (b2 != 0) = false := by simp [e2]
          have k4 : (b4 != 0) = false := by simp [e4]
          have k0 : ((m : Int) != 0) = true := by simpa using e0
          go_enter Tryd.func94, Tryd.ntmps94
          go_wp2_with (simp only [h1, h2, h4])
          go_ret
          exact ⟨rfl, rfl⟩
      · by_cases e8 : 8 ≤ (m : Int)
        · rw [if_neg (by omega), if_neg (by omega), if_pos (by omega)]
          have k1 : (b1 != 0) = false := by simp [e1]
          have k2 : (b2 != 0) = false := by simp [e2]
          have k4 : (b4 != 0) = true := by simpa using e4
          have k7 : ((m : Int) / 8 != 0) = true := by rw [bne_iff_ne]; omega
          go_enter Tryd.func94, Tryd.ntmps94
          go_wp2_with (simp only [h1, h2, h4])
          go_ret
          exact ⟨rfl, rfl⟩
        · by_cases e0 : (m : Int) = 0
          · have : b4 = 0 := by rw [← h4, e0]; decide
            exact absurd this e4
          · rw [if_neg (by omega), if_neg (by omega), if_neg (by omega), if_pos (by omega)]
            have k1 : (b1 != 0) = false := by simp [e1]
            have k2 : (b2 != 0) = false := by simp [e2]
            have k4 : (b4 != 0) = true := by simpa using e4
            have k7 : ((m : Int) / 8 != 0) = false := by rw [bne_eq_false_iff_eq]; omega
            have k0 : ((m : Int) != 0) = true := by simpa using e0
            go_enter Tryd.func94, Tryd.ntmps94
            go_wp2_with (simp only [h1, h2, h4])
            go_ret
            exact ⟨rfl, rfl⟩
    · rw [if_neg (by omega), if_pos (by omega)]
      have k1 : (b1 != 0) = false := by simp [e1]
      have k2 : (b2 != 0) = true := by simpa using e2
      go_enter Tryd.func94, Tryd.ntmps94
      go_wp2_with (simp only [h1, h2, h4])
      go_ret
      exact ⟨rfl, rfl⟩
  · rw [if_pos (by omega)]
    have k1 : (b1 != 0) = true := by simpa using e1
    go_enter Tryd.func94, Tryd.ntmps94
    go_wp2_with (simp only [h1, h2, h4])
    go_ret
    exact ⟨rfl, rfl⟩

/-- the pocket of a card's columns in a pass of column a and mode b -/
def pocketP (xs : List Int) (a b : Int) : Int := if b = 1 then digitsP (xs[a.toNat]?.getD 0) else zonesP (xs[a.toNat]?.getD 0)

theorem l07Pocket_any (A : Option Addr) (c : Nat) (xs : List Int) (B p o k : Nat) (m : Int) (w : World) (hp : w.cell? ⟨p, o, none⟩ = some (.slice A xs.length c)) (h : Ints w B A xs) (hk : k < xs.length) (hv : okB xs = true) :
    Calls Tryd.prog 64 #[.pointer (some ⟨p, o, none⟩), .agg #[.int .i64 k, .int .i64 m]] w fun e w' => e = .returned (.int .i64 (pocketP xs k m)) ∧ Below w.heap.size w w' := by
  have hn := (okB_parts hv).2
  obtain ⟨b, off, rfl, hb, hcell⟩ := h (by omega)
  have h1 := hcell k hk
  have hm := legal_at (okB_parts hv).1 hk
  rw [pocketP, Int.toNat_natCast]
  obtain ⟨x, hx⟩ : ∃ x : Nat, xs[k]?.getD 0 = x := ⟨(xs[k]?.getD 0).toNat, by omega⟩
  rw [hx] at h1 hm ⊢
  have hp1 := cell_kept hp (below_box w (.cells #[.int .i64 k, .int .i64 m] 60))
  have hc1 : (w.alloc (.cells #[.int .i64 k, .int .i64 m] 60)).cell? ⟨b, off + k, none⟩ = some (.int .i64 x) := cell_kept h1 (below_box w _)
  have q0 : (w.alloc (.cells #[.int .i64 k, .int .i64 m] 60)).cell? ⟨w.heap.size, 0, none⟩ = some (.int .i64 k) := by simp
  have i0 : (0 : Int) ≤ (k : Int) := Int.natCast_nonneg _
  obtain ⟨n, hN⟩ : ∃ n, xs.length = n := ⟨_, rfl⟩
  rw [hN] at hp1 hk hn
  have i1 : (k : Int) < (n : Int) := by omega
  have HD := Lib.hid (fun W => l07Digits_any x (by omega) W)
  have HZ := Lib.hid (fun W => l07Zones_any x W)
  by_cases e : m = 1
  · subst e
    rw [if_pos rfl]
    clear hp h hcell h1 hx hm hv hb hN HZ
    go_enter Tryd.func64, Tryd.ntmps64
    go_wp2_with fail
    go_region_held3 (fun W => W.cell? ⟨p, o, none⟩ = some (.slice (some ⟨b, off, none⟩) n c) ∧ W.cell? ⟨b, off + k, none⟩ = some (.int .i64 x) ∧ W.cell? ⟨w.heap.size, 0, none⟩ = some (.int .i64 k))
      (first | exact ⟨hp1, hc1, q0⟩ | exact ⟨hp2, hc2, q2⟩)
      (first
        | (go_at_call 88
           refine (HD.out _).mono ?_
           rintro e w2 ⟨rfl, hb⟩
           have hp2 := cell_kept (w := (w.alloc (.cells #[.int .i64 k, .int .i64 1] 60)).drew) hp1 hb
           have hc2 := cell_kept (w := (w.alloc (.cells #[.int .i64 k, .int .i64 1] 60)).drew) hc1 hb
           have q2 := cell_kept (w := (w.alloc (.cells #[.int .i64 k, .int .i64 1] 60)).drew) q0 hb
           have B2 := Lib.hid (below_step (below_box w _).drew hb)
           clear hb))
    all_goals
      go_wp2
      go_ret
      exact ⟨rfl, B2.out⟩
  · rw [if_neg e]
    have e1 : (m == 1) = false := by simpa using e
    clear hp h hcell h1 hx hm hv hb hN HD e
    go_enter Tryd.func64, Tryd.ntmps64
    go_wp2_with fail
    go_region_held3 (fun W => W.cell? ⟨p, o, none⟩ = some (.slice (some ⟨b, off, none⟩) n c) ∧ W.cell? ⟨b, off + k, none⟩ = some (.int .i64 x) ∧ W.cell? ⟨w.heap.size, 0, none⟩ = some (.int .i64 k))
      (first | exact ⟨hp1, hc1, q0⟩)
      (first
        | (go_at_call 89
           refine (HZ.out _).mono ?_
           rintro e w2 ⟨rfl, rfl⟩
           have B2 := Lib.hid ((below_box w (.cells #[.int .i64 k, .int .i64 m] 60)).drew)))
    all_goals
      go_wp2
      go_ret
      exact ⟨rfl, B2.out⟩

theorem pocketFor_any (A : Option Addr) (c : Nat) (xs : List Int) (B k : Nat) (m : Int) (w : World) (h : Ints w B A xs) (_ : B ≤ w.heap.size) (hk : k < xs.length) (hv : okB xs = true) :
    Calls Tryd.prog 72 #[.agg #[.int .i64 k, .int .i64 m], .slice A xs.length c] w fun e w' => e = .returned (.int .i64 (pocketP xs k m)) ∧ Below w.heap.size w w' := by
  have hn := (okB_parts hv).2
  obtain ⟨b, off, rfl, hb, hcell⟩ := h (by omega)
  have h1 := hcell k hk
  have hm := legal_at (okB_parts hv).1 hk
  rw [pocketP, Int.toNat_natCast]
  obtain ⟨x, hx⟩ : ∃ x : Nat, xs[k]?.getD 0 = x := ⟨(xs[k]?.getD 0).toNat, by omega⟩
  rw [hx] at h1 hm ⊢
  have hc1 : (w.alloc (.cells #[.int .i64 k, .int .i64 m] 60)).cell? ⟨b, off + k, none⟩ = some (.int .i64 x) := cell_kept h1 (below_box w _)
  have i0 : (0 : Int) ≤ (k : Int) := Int.natCast_nonneg _
  obtain ⟨n, hN⟩ : ∃ n, xs.length = n := ⟨_, rfl⟩
  rw [hN] at hk hn ⊢
  have i1 : (k : Int) < (n : Int) := by omega
  have HD := Lib.hid (fun W => digitPocket_any x (by omega) W)
  have HZ := Lib.hid (fun W => zonePocket_any x W)
  by_cases e : m = 1
  · subst e
    rw [if_pos rfl]
    clear h hcell h1 hx hm hv hb hN HZ
    go_enter Tryd.func72, Tryd.ntmps72
    go_wp2_with (go_at_call 93; refine (HD.out _).mono ?_; rintro e w' ⟨rfl, rfl⟩)
    go_ret
    exact ⟨rfl, below_box w _⟩
  · rw [if_neg e]
    have e1 : (m == 1) = false := by simpa using e
    clear h hcell h1 hx hm hv hb hN HD e
    go_enter Tryd.func72, Tryd.ntmps72
    go_wp2_with (go_at_call 94; refine (HZ.out _).mono ?_; rintro e w' ⟨rfl, rfl⟩)
    go_ret
    exact ⟨rfl, below_box w _⟩
end Go.Proofs.YtfffdlmpiglojaaDoor
