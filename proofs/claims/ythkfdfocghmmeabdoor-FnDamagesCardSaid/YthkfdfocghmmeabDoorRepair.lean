/- The nearest character of a column: spec.l06Repair, spec.RepairColumn, and impl's methods distanceToChar and compare: contracts. -/
import Derived.Test.YthkfdfocghmmeabDoorBest
import Derived.Test.YthkfdfocghmmeabDoorCmpC
import Derived.Test.YthkfdfocghmmeabDoorCharTab
import Derived.Test.YthkfdfocghmmeabDoorColsDist
namespace Go.Proofs.YthkfdfocghmmeabDoor
open Go.ChangeShapes Go.WideShapes Go.ChangeAt Go.RowKit

theorem codeR_mask_all : ∀ k : Fin 40, 0 ≤ codeS (charR k.val) ∧ codeS (charR k.val) ≤ 4095 := by decide +kernel
theorem codeR_mask (k : Nat) (h : k < 40) : 0 ≤ codeS (charR k) ∧ codeS (charR k) ≤ 4095 := codeR_mask_all ⟨k, h⟩
/-- in how many rows a column differs from the characters, in the order of their ranks -/
def nearL (m : Int) : List Int := (List.range 40).map fun k : Nat => (df m (codeS (charR k)) : Int)
theorem nearL_get (m : Int) (k : Nat) (h : k < 40) : (nearL m)[k]?.getD 0 = (df m (codeS (charR k)) : Int) := by
  simp [nearL, h]
/-- the rank of the nearest character -/
def nearK (m : Int) : Nat := bestTo (nearL m) 39
theorem nearK_lt (m : Int) : nearK m < 40 := by have := best_le (nearL m) 39; unfold nearK; omega

theorem l06Repair_any (m : Int) (hm : 0 ≤ m ∧ m ≤ 4095) (w : World) :
    Calls Tryd.prog 34 #[.int .i64 m] w fun e w' => e = .returned (.tuple #[.int .u8 (charR (nearK m)), .int .i64 (df m (codeS (charR (nearK m))))]) ∧ w = w' := by
  have HO := Lib.hid l03Order_any
  have HZ := Lib.hid orderS_size
  have HC := Lib.hid l03Code_any
  have HG := Lib.hid (fun k h => nearL_get m k h)
  have HM := Lib.hid hm
  obtain ⟨ds, hds⟩ : ∃ ds, nearL m = ds := ⟨_, rfl⟩
  have HK : Hid (nearK m = bestTo ds 39) := by show _ = _; rw [nearK, hds]
  rw [hds] at HG
  have h0 : (orderS[0]'(by decide)).toNat = 32 := rfl
  have HC0 : Hid (∀ W, Calls Tryd.prog 35 #[.int .u8 32] W fun e w' => e = .returned (.int .i64 0) ∧ W = w') := fun W => by
    have := l03Code_any 32 (by decide) (by decide) W
    rwa [show codeS 32 = 0 from by decide +kernel] at this
  obtain ⟨q0, hq0, hq1, hq2⟩ := xor_mask hm (show (0 : Int) ≤ 0 ∧ (0 : Int) ≤ 4095 by decide)
  have HN0 : Hid (∀ W, Calls Tryd.prog 45 #[.int .i64 q0] W fun e w' => e = .returned (.int .i64 (df m 0)) ∧ W = w') := fun W => by
    have := l02Count_any q0 hq1 W
    rwa [hq2] at this
  have hlen : (0 : Int) < (orderS.size : Int) := by decide
  clear hds hm hq2
  go_enter Tryd.func34, Tryd.ntmps34
  go_wp2_with (first | (go_at_call 55; refine (HO.out _).mono ?_; rintro e w' ⟨rfl, rfl⟩) | (go_at_call 35; refine (HC0.out _).mono ?_; rintro e w' ⟨rfl, rfl⟩) | (go_at_call 45; refine (HN0.out _).mono ?_; rintro e w' ⟨rfl, rfl⟩))
  clear hq0 h0
  go_loop [5, 6, 7] (fun a d i => ∃ k : Nat, 1 ≤ k ∧ k ≤ 40 ∧ i = .int .i64 k ∧ a = .int .u8 (charR (bestTo ds (k - 1))) ∧ d = .int .i64 (df m (codeS (charR (bestTo ds (k - 1)))))) (fun _ _ i => 40 - (intOf i).toNat)
  case atStart =>
    refine ⟨1, by omega, by omega, rfl, rfl, ?_⟩
    rw [show bestTo ds (1 - 1) = 0 from rfl, show codeS (charR 0) = 0 from by decide +kernel]
  case round =>
    obtain ⟨k, hk1, hk, rfl, rfl, rfl⟩ := hrel
    by_cases hlt : k < 40
    · have hls : k < orderS.size := by rw [HZ.out]; exact hlt
      have hg := order_get k hls
      have hb := charR_le k
      have hmk := codeR_mask k hlt
      have hst : Hid (bestTo ds k = if (df m (codeS (charR k)) : Int) < (df m (codeS (charR (bestTo ds (k - 1)))) : Int) then k else bestTo ds (k - 1)) := by
        show _ = _
        obtain ⟨t, rfl⟩ : ∃ t, k = t + 1 := ⟨k - 1, by omega⟩
        have hle := best_le ds t
        rw [bestTo, HG.out _ hlt, HG.out _ (by omega)]
        rfl
      obtain ⟨t, ht⟩ : ∃ t, bestTo ds (k - 1) = t := ⟨_, rfl⟩
      rw [ht] at hst ⊢
      obtain ⟨x, hx⟩ : ∃ x, charR k = x := ⟨_, rfl⟩
      have HX := Lib.hid hx
      rw [hx] at hg hb hmk hst
      obtain ⟨y, hy⟩ : ∃ y, codeS x = y := ⟨_, rfl⟩
      have HY := Lib.hid hy
      have hcode := fun W => HC.out x hb.1 hb.2 W
      rw [hy] at hmk hst hcode
      obtain ⟨q, hq, hq1, hq2⟩ := xor_mask HM.out hmk
      have hcnt := fun W => l02Count_any q hq1 W
      rw [hq2] at hcnt
      obtain ⟨u, hu⟩ : ∃ u, df m y = u := ⟨_, rfl⟩
      have HU := Lib.hid hu
      obtain ⟨v, hv⟩ : ∃ v, df m (codeS (charR t)) = v := ⟨_, rfl⟩
      have HVV := Lib.hid hv
      rw [hu] at hcnt hst
      rw [hv] at hst ⊢
      obtain ⟨z, hz⟩ : ∃ z, charR t = z := ⟨_, rfl⟩
      have HZZ := Lib.hid hz
      rw [hz]
      have F1 := Lib.hid hcode
      have F2 := Lib.hid hcnt
      have j0 : (0 : Int) ≤ (k : Int) := Int.natCast_nonneg _
      have j1 : (k : Int) < (orderS.size : Int) := by omega
      clear hcode hcnt hu hv hz hx hy hmk hb hq2 ht
      by_cases hcmp : (u : Int) < (v : Int)
      · rw [if_pos hcmp] at hst
        go_wp2_with (first | (go_at_call 35; refine (F1.out _).mono ?_; rintro e w' ⟨rfl, rfl⟩) | (go_at_call 45; refine (F2.out _).mono ?_; rintro e w' ⟨rfl, rfl⟩))
        go_round
        case rel => exact ⟨k + 1, by omega, by omega, by go_num, by rw [show bestTo ds (k + 1 - 1) = k from hst.out, HX.out], by rw [show bestTo ds (k + 1 - 1) = k from hst.out, HX.out, HY.out, HU.out]⟩
        case measure => simp [intOf]; omega
      · rw [if_neg hcmp] at hst
        have hd : ¬ u < v := by omega
        clear hcmp
        go_wp2_with (first | (go_at_call 35; refine (F1.out _).mono ?_; rintro e w' ⟨rfl, rfl⟩) | (go_at_call 45; refine (F2.out _).mono ?_; rintro e w' ⟨rfl, rfl⟩))
        go_round
        case rel => exact ⟨k + 1, by omega, by omega, by go_num, by rw [show bestTo ds (k + 1 - 1) = t from hst.out, HZZ.out], by rw [show bestTo ds (k + 1 - 1) = t from hst.out, HVV.out]⟩
        case measure => simp [intOf]; omega
    · have HK2 : Hid (bestTo ds (k - 1) = nearK m) := by show _ = _; rw [HK.out, show k - 1 = 39 by omega]
      have j1 : ¬ (k : Int) < (orderS.size : Int) := by
        rw [HZ.out]
        omega
      obtain ⟨t, ht⟩ : ∃ t, bestTo ds (k - 1) = t := ⟨_, rfl⟩
      rw [ht] at HK2 ⊢
      clear ht
      obtain ⟨d, hd⟩ : ∃ d, df m (codeS (charR t)) = d := ⟨_, rfl⟩
      have HD := Lib.hid hd
      rw [hd]
      obtain ⟨z, hz⟩ : ∃ z, charR t = z := ⟨_, rfl⟩
      have HZZ := Lib.hid hz
      rw [hz]
      clear hd hz hk1 hk hlt
      go_wp2
      go_ret2
      exact ⟨by rw [← HK2.out, HD.out, HZZ.out]; rfl, rfl⟩

theorem specRepairColumn_any (m : Int) (w : World) :
    Calls Tryd.prog 17 #[.int .i64 m] w fun e w' => e = .returned (.tuple #[.int .u8 (if inB m 0 4095 = true then charR (nearK m) else 0), .int .i64 (if inB m 0 4095 = true then (df m (codeS (charR (nearK m))) : Int) else 0), .int .i64 (if inB m 0 4095 = true then 0 else 2)]) ∧ w = w' := by
  have hi := fun W => in_any m 0 4095 W
  cases hin : inB m 0 4095
  · rw [hin] at hi
    rw [if_neg (by decide), if_neg (by decide), if_neg (by decide)]
    have HI := Lib.hid hi
    clear hi hin
    go_enter Tryd.func17, Tryd.ntmps17
    go_wp2_with (go_at_call 41; refine (HI.out _).mono ?_; rintro e w' ⟨rfl, rfl⟩)
    refine bodyPost_ret (v := .tuple #[.int .u8 0, .int .i64 0, .int .i64 2]) (by simp [results, Tryd.results17, go_sem]) rfl ⟨rfl, rfl⟩
  · have hm : 0 ≤ m ∧ m ≤ 4095 := by simpa [inB] using hin
    have hr := fun W => l06Repair_any m hm W
    rw [hin] at hi
    rw [if_pos rfl, if_pos rfl, if_pos rfl]
    obtain ⟨a, ha⟩ : ∃ a, charR (nearK m) = a := ⟨_, rfl⟩
    rw [ha] at hr ⊢
    obtain ⟨d, hd⟩ : ∃ d, df m (codeS a) = d := ⟨_, rfl⟩
    rw [hd] at hr ⊢
    have HI := Lib.hid hi
    have HR := Lib.hid hr
    clear hi hin hr ha hd hm
    go_enter Tryd.func17, Tryd.ntmps17
    go_wp2_with (first | (go_at_call 41; refine (HI.out _).mono ?_; rintro e w' ⟨rfl, rfl⟩) | (go_at_call 34; refine (HR.out _).mono ?_; rintro e w' ⟨rfl, rfl⟩))
    refine bodyPost_ret (v := .tuple #[.int .u8 a, .int .i64 d, .int .i64 0]) (by simp [results, Tryd.results17, go_sem]) rfl ⟨rfl, rfl⟩

theorem codeOf_char (k : Nat) (hk : k < 40) (w : World) :
    Calls Tryd.prog 31 #[.int .u8 (charR k)] w fun e w' => e = .returned (.tuple #[.int .i64 (codeS (charR k)), .bool true]) ∧ w = w' := by
  have hb := charR_le k
  have hm := codeR_mask k hk
  rcases same_code (charR k) hb.1 hb.2 with ⟨e1, _⟩ | ⟨_, j, e2, e3, e4⟩
  · omega
  · rw [← e4]
    exact implCodeOf_yes (charR k) j e2 e3 w

theorem distToChar_any (m : Int) (hm : 0 ≤ m ∧ m ≤ 4095) (k : Nat) (hk : k < 40) (w : World) :
    Calls Tryd.prog 40 #[.int .i64 m, .int .u8 (charR k)] w fun e w' => e = .returned (.int .i64 (df m (codeS (charR k)))) ∧ w = w' := by
  have hc := fun W => codeOf_char k hk W
  have hd := fun W => markDist_any m (codeS (charR k)) hm (codeR_mask k hk) W
  obtain ⟨d, hdd⟩ : ∃ d, df m (codeS (charR k)) = d := ⟨_, rfl⟩
  rw [hdd] at hd ⊢
  obtain ⟨y, hy⟩ : ∃ y, codeS (charR k) = y := ⟨_, rfl⟩
  rw [hy] at hc hd
  obtain ⟨x, hx⟩ : ∃ x, charR k = x := ⟨_, rfl⟩
  rw [hx] at hc ⊢
  have H1 := Lib.hid hc
  have H2 := Lib.hid hd
  clear hc hd hdd hy hx hm
  go_enter Tryd.func40, Tryd.ntmps40
  go_wp2_with (first | (go_at_call 31; refine (H1.out _).mono ?_; rintro e w' ⟨rfl, rfl⟩) | (go_at_call 44; refine (H2.out _).mono ?_; rintro e w' ⟨rfl, rfl⟩))
  go_ret
  exact ⟨rfl, rfl⟩

theorem markCompare_any (m : Int) (hm : 0 ≤ m ∧ m ≤ 4095) (j k : Nat) (hj : j < 40) (hk : k < 40) (w : World) :
    Calls Tryd.prog 54 #[.int .i64 m, .int .u8 (charR j), .int .u8 (charR k)] w fun e w' => e = .returned (.int .i64 (cmpI (df m (codeS (charR j))) (df m (codeS (charR k))))) ∧ w = w' := by
  have h1 := fun W => distToChar_any m hm j hj W
  have h2 := fun W => distToChar_any m hm k hk W
  have h3 := fun W => cmpCompare_any (df m (codeS (charR j))) (df m (codeS (charR k))) W
  obtain ⟨u, hu⟩ : ∃ u, df m (codeS (charR j)) = u := ⟨_, rfl⟩
  obtain ⟨v, hv⟩ : ∃ v, df m (codeS (charR k)) = v := ⟨_, rfl⟩
  rw [hu] at h1 h3 ⊢
  rw [hv] at h2 h3 ⊢
  obtain ⟨r, hr⟩ : ∃ r, cmpI (u : Int) (v : Int) = r := ⟨_, rfl⟩
  rw [hr] at h3 ⊢
  obtain ⟨a, ha⟩ : ∃ a, charR j = a := ⟨_, rfl⟩
  obtain ⟨b, hb⟩ : ∃ b, charR k = b := ⟨_, rfl⟩
  rw [ha] at h1 ⊢
  rw [hb] at h2 ⊢
  have H1 := Lib.hid h1
  have H2 := Lib.hid h2
  have H3 := Lib.hid h3
  have tok : True := trivial
  clear h1 h2 h3 hu hv hr ha hb hm
  go_enter Tryd.func54, Tryd.ntmps54
  go_wp2_with (first | (go_at_call 40; have _t := tok; refine (H1.out _).mono ?_; rintro e w' ⟨rfl, rfl⟩; clear tok _t) | (go_at_call 40; refine (H2.out _).mono ?_; rintro e w' ⟨rfl, rfl⟩) | (go_at_call 70; refine (H3.out _).mono ?_; rintro e w' ⟨rfl, rfl⟩))
  go_ret
  exact ⟨rfl, rfl⟩
end Go.Proofs.YthkfdfocghmmeabDoor
