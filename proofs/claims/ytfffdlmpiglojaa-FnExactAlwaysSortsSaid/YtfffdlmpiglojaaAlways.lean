/- Whether passes sort always: spec.l08Always, AlwaysSorts and impl.lastOnes, AlwaysSorts answer alike for every field and every list of at most 1048576 passes: contracts. -/
import Derived.Test.YtfffdlmpiglojaaAlwaysPlace
import Derived.Test.YtfffdlmpiglojaaHandled
import Derived.Test.YtfffdlmpiglojaaPlan
import Derived.Test.YtfffdlmpiglojaaOwnMem
namespace Go.Proofs.Ytfffdlmpiglojaa
open Go.ChangeShapes Go.WideShapes Go.ChangeAt Go.RowKit

theorem pair_true {P : List (Int × Int)} {c : Int} {i k : Nat} (h : pairV P c i k = true) : scanP placeV c i k P = some true := by
  unfold pairV at h
  cases hs : scanP placeV c i k P with
  | none => rw [hs] at h; cases h
  | some r => rw [hs] at h; simpa using h
theorem pair_false {P : List (Int × Int)} {c : Int} {i k : Nat} (h : pairV P c i k = false) : scanP placeV c i k P ≠ some true := fun e => by
  rw [pairV, e] at h
  cases h
theorem passes20_modes {P : List (Int × Int)} (h : passes20 P = true) : ∀ p ∈ P, p.2 = 1 ∨ p.2 = 2 := fun p hp => by
  unfold passes20 passesB at h
  rw [Bool.and_eq_true] at h
  have := List.all_eq_true.1 h.1 p hp
  simp only [passB, modeB, inB, Bool.and_eq_true, decide_eq_true_eq] at this
  omega

set_option maxRecDepth 100000 in
set_option maxHeartbeats 2000000 in
theorem l08Always_any (A : Option Addr) (z : Nat) (P : List (Int × Int)) (a b : Int) (B : Nat) (w : World) (h : Passes w B A P) (hB : B ≤ w.heap.size) (hn : P.length ≤ 40) (hm : ∀ p ∈ P, p.2 = 1 ∨ p.2 = 2) (h0 : 0 ≤ a) (h1 : a < b) (h2 : b ≤ 20) :
    Calls Try.prog 43 #[.agg #[.int .i64 a, .int .i64 b], .slice A P.length z] w fun e w' => e = .returned (.bool (alwaysV P a b)) ∧ Below w.heap.size w w' := by
  have hp := fun c i k (hi : i < 40) (hk : k < 40) W (hW : Below w.heap.size w W) => l08Pair_any A z P c i k B W (h.below (hW.mono hB)) (Nat.le_trans hB hW.size) hn hm hi hk
  obtain ⟨n, hN⟩ : ∃ n, P.length = n := ⟨_, rfl⟩
  obtain ⟨r, hr⟩ : ∃ r, alwaysV P a b = r := ⟨_, rfl⟩
  simp only [hN] at hp hn
  rw [hN, hr]
  have p0 : (w.alloc (.cells #[.int .i64 a, .int .i64 b] 27)).cell? ⟨w.heap.size, 0, none⟩ = some (.int .i64 a) := by simp
  have p1 : (w.alloc (.cells #[.int .i64 a, .int .i64 b] 27)).cell? ⟨w.heap.size, 1, none⟩ = some (.int .i64 b) := by simp
  have b0 := below_box w (.cells #[.int .i64 a, .int .i64 b] 27)
  have H := Lib.hid h
  have HN := Lib.hid hN
  have HR := Lib.hid hr
  have HM := Lib.hid hm
  have HP := Lib.hid hp
  have BW := Lib.hid b0
  have HI := Lib.hid in_any
  have HO := Lib.hid l03Order_any
  have HZ := Lib.hid orderS_size
  have hb1 : (b - 1 : Int) ≤ 19 := by omega
  have hb2 : (0 : Int) ≤ b - 1 := by omega
  clear h hN hr hm hp b0
  go_enter Try.func43, Try.ntmps43
  go_wp2
  go_loopw [5] (fun i wr => ∃ t : Nat, t ≤ n ∧ i = .int .i64 t ∧ Hid (∀ p ∈ P.take t, a ≤ p.1 ∧ p.1 ≤ b - 1) ∧ Hid (Below (w.alloc (.cells #[.int .i64 a, .int .i64 b] 27)).heap.size (w.alloc (.cells #[.int .i64 a, .int .i64 b] 27)) wr)) (fun i _ => n - (intOf i).toNat)
  case atStart => exact ⟨0, Nat.zero_le _, rfl, (fun p hp => by simp at hp), Below.refl _ _⟩
  case round =>
    obtain ⟨t, ht, rfl, HK, HB⟩ := hrel
    have q0 := cell_kept p0 HB.out
    have q1 := cell_kept p1 HB.out
    by_cases hlt : t < n
    · obtain ⟨q, hq⟩ : ∃ q, P[t]? = some q := ⟨P[t]'(by rw [HN.out]; exact hlt), List.getElem?_eq_getElem _⟩
      obtain ⟨bb, off, rfl, hbb, hcell⟩ := (H.out.below ((below_step BW.out HB.out).mono hB)) (by rw [HN.out]; omega)
      obtain ⟨c1, c2⟩ := hcell t q hq
      obtain ⟨x, y⟩ := q
      simp only at c1 c2
      have k0 : (0 : Int) ≤ (t : Int) := Int.natCast_nonneg _
      have k1 : (t : Int) < (n : Int) := by omega
      have Hq := Lib.hid hq
      have hin : Hid (∀ m, Calls Try.prog 46 #[.int .i64 x, .int .i64 a, .int .i64 (b - 1)] (wr.drewN m) fun e w' => e = .returned (.bool (inB x a (b - 1))) ∧ w' = wr.drewN m) := fun m => (HI.out x a (b - 1) (wr.drewN m)).mono fun _ _ hh => ⟨hh.1, hh.2.symm⟩
      obtain ⟨u, hu⟩ : ∃ u, inB x a (b - 1) = u := ⟨_, rfl⟩
      rw [hu] at hin
      have HU := Lib.hid hu
      clear hcell hq hbb hu
      cases u
      · obtain rfl : r = false := by
          rw [← HR.out]
          refine always_col h1 (List.mem_of_getElem? Hq.out) ?_
          have := HU.out
          simp only [inB, Bool.and_eq_false_iff, decide_eq_false_iff_not] at this
          simp only
          omega
        go_wp2
        go_quiet ((go_at_call 46; exact Calls.quiet_of_same (hin.out _)))
        go_wp2
        go_ret
        exact ⟨rfl, below_drewN (below_step BW.out HB.out) _⟩
      · have HK1 : Hid (∀ p ∈ P.take (t + 1), a ≤ p.1 ∧ p.1 ≤ b - 1) := by
          intro p hp
          rw [List.take_add_one, Hq.out] at hp
          rcases List.mem_append.1 hp with hp | hp
          · exact HK.out p hp
          · obtain rfl : p = (x, y) := by simpa using hp
            have := HU.out
            simp only [inB, Bool.and_eq_true, decide_eq_true_eq] at this
            exact this
        go_wp2
        go_quiet ((go_at_call 46; exact Calls.quiet_of_same (hin.out _)))
        go_wp2
        go_roundw
        case rel => exact ⟨t + 1, by omega, by go_num, HK1, below_drewN HB.out _⟩
        case measure => simp [intOf]; omega
    · have k1 : ¬ (t : Int) < (n : Int) := by omega
      have HC : Hid (∀ p ∈ P, a ≤ p.1 ∧ p.1 ≤ b - 1) := by
        have := HK.out
        rw [List.take_of_length_le (by rw [HN.out]; omega)] at this
        exact this
      rename World => w0
      clear HK
      go_wp2_with (go_at_call 60; refine (HO.out _).mono ?_; rintro e w' ⟨rfl, rfl⟩)
      have B0 := Lib.hid HB.out
      clear HB q0 q1
      go_loopw [7] (fun cc wr => ∃ x : Int, cc = .int .i64 x ∧ a ≤ x ∧ x ≤ b ∧ Hid (∀ c, a ≤ c → c < x → ∀ i k, i < k → k < 40 → scanP placeV c i k P = some true) ∧ Hid (Below (w.alloc (.cells #[.int .i64 a, .int .i64 b] 27)).heap.size (w.alloc (.cells #[.int .i64 a, .int .i64 b] 27)) wr)) (fun cc _ => (b - intOf cc).toNat)
      case atStart => exact ⟨a, rfl, Int.le_refl _, by omega, (fun c h1 h2 => by omega), B0⟩
      case round =>
        obtain ⟨x, rfl, hx1, hx2, HX, HBx⟩ := hrel
        have r1 := cell_kept p1 HBx.out
        by_cases hxb : x < b
        · rename World => wo
          go_wp2_with fail
          go_loopw [8] (fun ii wr => ∃ i : Nat, ii = .int .i64 i ∧ i ≤ 40 ∧ Hid (∀ j k, j < i → j < k → k < 40 → scanP placeV x j k P = some true) ∧ Hid (Below (w.alloc (.cells #[.int .i64 a, .int .i64 b] 27)).heap.size (w.alloc (.cells #[.int .i64 a, .int .i64 b] 27)) wr)) (fun ii _ => 40 - (intOf ii).toNat)
          case atStart => exact ⟨0, rfl, by omega, (fun j k h => by omega), HBx⟩
          case round =>
            obtain ⟨i, rfl, hi, HI2, HBi⟩ := hrel
            have i0 : (0 : Int) ≤ (i : Int) := Int.natCast_nonneg _
            by_cases hil : i < 40
            · have i1 : i < orderS.size := by rw [HZ.out]; exact hil
              have i2 : (i : Int) < (orderS.size : Int) := by omega
              have gi := order_get i i1
              rename World => wi
              go_wp2_with fail
              go_loopw [9] (fun kk wr => ∃ k : Nat, kk = .int .i64 k ∧ i + 1 ≤ k ∧ k ≤ 40 ∧ Hid (∀ j, i < j → j < k → scanP placeV x i j P = some true) ∧ Hid (Below (w.alloc (.cells #[.int .i64 a, .int .i64 b] 27)).heap.size (w.alloc (.cells #[.int .i64 a, .int .i64 b] 27)) wr)) (fun kk _ => 40 - (intOf kk).toNat)
              case atStart => exact ⟨i + 1, by go_num, Nat.le_refl _, hil, (fun j h1 h2 => by omega), HBi⟩
              case round =>
                obtain ⟨k, rfl, hk1, hk2, HK2, HBk⟩ := hrel
                have k0 : (0 : Int) ≤ (k : Int) := Int.natCast_nonneg _
                by_cases hkl : k < 40
                · have k1 : k < orderS.size := by rw [HZ.out]; exact hkl
                  have k2 : (k : Int) < (orderS.size : Int) := by omega
                  have gk := order_get k k1
                  have HPP := Lib.hid (HP.out x i k hil hkl wr.drew (below_step BW.out HBk.out).drew)
                  obtain ⟨ci, eci⟩ : ∃ ci, charR i = ci := ⟨_, rfl⟩
                  obtain ⟨ck, eck⟩ : ∃ ck, charR k = ck := ⟨_, rfl⟩
                  rw [eci] at gi HPP
                  rw [eck] at gk HPP
                  obtain ⟨u, hu⟩ : ∃ u, pairV P x i k = u := ⟨_, rfl⟩
                  rw [hu] at HPP
                  have HU := Lib.hid hu
                  clear eci eck hu
                  cases u
                  · obtain rfl : r = false := by
                      rw [← HR.out]
                      exact always_pair placeV places_F1 hx1 (by omega) (by omega) hkl (pair_false HU.out)
                    go_wp2_with fail
                    go_region_with (go_at_call 61; refine HPP.out.mono ?_; rintro e w2 ⟨rfl, hb⟩; have B2 := Lib.hid (below_step (below_step BW.out HBk.out).drew hb); clear hb)
                    all_goals
                      go_wp2
                      go_ret
                      exact ⟨rfl, B2.out⟩
                  · have HK3 : Hid (∀ j, i < j → j < k + 1 → scanP placeV x i j P = some true) := fun j h1 h2 => by
                      by_cases e : j = k
                      · rw [e]; exact pair_true HU.out
                      · exact HK2.out j h1 (by omega)
                    go_wp2_with fail
                    go_region_with (go_at_call 61; refine HPP.out.mono ?_; rintro e w2 ⟨rfl, hb⟩; have B2 := Lib.hid (below_step HBk.out.drew hb); clear hb)
                    all_goals
                      go_wp2
                      go_roundw
                      case rel => exact ⟨k + 1, by go_num, by omega, by omega, HK3, B2⟩
                      case measure => simp [intOf]; omega
                · have k1 : ¬ (k : Int) < (orderS.size : Int) := by rw [HZ.out]; omega
                  have HI3 : Hid (∀ j l, j < i + 1 → j < l → l < 40 → scanP placeV x j l P = some true) := fun j l h1 h2 h3 => by
                    by_cases e : j = i
                    · rw [e]; rw [e] at h2; exact HK2.out l h2 (by omega)
                    · exact HI2.out j l (by omega) h2 h3
                  go_wp2
                  go_roundw
                  case rel => exact ⟨i + 1, by go_num, by omega, HI3, HBk⟩
                  case measure => simp [intOf]; omega
            · have i1 : ¬ (i : Int) < (orderS.size : Int) := by rw [HZ.out]; omega
              have HX3 : Hid (∀ c, a ≤ c → c < x + 1 → ∀ i k, i < k → k < 40 → scanP placeV c i k P = some true) := fun c h1 h2 j k h3 h4 => by
                by_cases e : c = x
                · rw [e]; exact HI2.out j k (by omega) h3 h4
                · exact HX.out c h1 (by omega) j k h3 h4
              go_wp2
              go_roundw
              case rel => exact ⟨x + 1, rfl, by omega, by omega, HX3, HBi⟩
              case measure => simp [intOf]; omega
        · obtain rfl : r = true := by
            rw [← HR.out]
            exact always_all placeV 2 3 3 12 (by omega) (by omega) (by omega) (by omega) places_F2 places_F3 h1 HC.out HM.out (fun c c1 c2 i k => HX.out c c1 (by omega) i k)
          go_wp2
          go_ret
          exact ⟨rfl, below_step BW.out HBx.out⟩
end Go.Proofs.Ytfffdlmpiglojaa
