/- bits.OnesCount and impl's methods distanceTo: contracts. -/
import Derived.Test.YthkfdfocghmmeabDoorDamMath
namespace Go.Proofs.YthkfdfocghmmeabDoor
open Go.ChangeShapes Go.WideShapes Go.ChangeAt Go.RowKit

theorem onesCount_any (m : Nat) (hm : m < 4096) (w : World) :
    Calls Tryd.prog 61 #[.int .u64 m] w fun e w' => e = .returned (.int .i64 (popc 12 m)) ∧ w = w' := by
  have HC := Lib.hid (fun W => ones_any m hm W)
  obtain ⟨y, hy⟩ : ∃ y, popc 12 m = y := ⟨_, rfl⟩
  rw [hy] at HC ⊢
  clear hy
  go_enter Tryd.func61, Tryd.ntmps61
  go_wp2_with (go_at_call 59; refine (HC.out _).mono ?_; rintro e w' ⟨rfl, rfl⟩)
  go_ret
  exact ⟨rfl, rfl⟩

theorem markDist_any (x y : Int) (hx : 0 ≤ x ∧ x ≤ 4095) (hy : 0 ≤ y ∧ y ≤ 4095) (w : World) :
    Calls Tryd.prog 44 #[.int .i64 x, .int .i64 y] w fun e w' => e = .returned (.int .i64 (df x y)) ∧ w = w' := by
  obtain ⟨m, hm, hl, hp⟩ := xor_mask hx hy
  rw [← hp]
  have HC := Lib.hid (fun W => onesCount_any m hl W)
  obtain ⟨z, hz⟩ : ∃ z, popc 12 m = z := ⟨_, rfl⟩
  have hz12 : z ≤ 12 := by rw [← hz]; exact popc_le 12 m
  rw [hz] at HC ⊢
  clear hz hp hx hy
  have hw : IntKind.u64.wrap (m : Int) = m := by simp [IntKind.wrap, IntKind.bits, IntKind.signed]; omega
  go_enter Tryd.func44, Tryd.ntmps44
  go_wp2_with (go_at_call 61; refine (HC.out _).mono ?_; rintro e w' ⟨rfl, rfl⟩)
  go_ret
  exact ⟨rfl, rfl⟩

theorem colsDist_any (A A' : Option Addr) (c c' : Nat) (xs ys : List Int) (B B' : Nat) (w : World) (h : Ints w B A xs) (h' : Ints w B' A' ys) (hn : xs.length ≤ 1048576) (hl : xs.length = ys.length) (hv : legalB xs = true) (hv' : legalB ys = true) :
    Calls Tryd.prog 23 #[.slice A xs.length c, .slice A' ys.length c'] w fun e w' => e = .returned (.int .i64 (distN xs ys)) ∧ w = w' := by
  obtain ⟨n, hN⟩ : ∃ n, xs.length = n := ⟨_, rfl⟩
  have hM : ys.length = n := by rw [← hl, hN]
  obtain ⟨p, hp⟩ : ∃ p, distN xs ys = p := ⟨_, rfl⟩
  have hp2 : p ≤ 12582912 := by have := distN_le xs ys; omega
  rw [hp]
  rw [hN] at hn ⊢
  rw [hM]
  have H := Lib.hid h
  have H' := Lib.hid h'
  have HN := Lib.hid hN
  have HM := Lib.hid hM
  have HP := Lib.hid hp
  have HL := Lib.hid hv
  have HL' := Lib.hid hv'
  clear h h' hN hM hp hv hv' hl
  go_enter Tryd.func23, Tryd.ntmps23
  go_wp2
  go_loop [5, 10] (fun a i => ∃ j k : Nat, j ≤ n ∧ i = .int .i64 j ∧ a = .int .i64 k ∧ k ≤ 12582912 ∧ Hid (k + distN (xs.drop j) (ys.drop j) = p)) (fun _ i => n - (intOf i).toNat)
  case atStart => exact ⟨0, 0, Nat.zero_le _, rfl, rfl, by omega, by show _ = _; simpa using HP.out⟩
  case round =>
    obtain ⟨j, k, hj, rfl, rfl, hk, HK⟩ := hrel
    by_cases hlt : j < n
    · have hx : j < xs.length := by rw [HN.out]; exact hlt
      have hy : j < ys.length := by rw [HM.out]; exact hlt
      obtain ⟨b, off, rfl, hb, hcell⟩ := H.out (by omega)
      obtain ⟨b', off', rfl, hb', hcell'⟩ := H'.out (by omega)
      have h1 := hcell j hx
      have h2 := hcell' j hy
      have hm := legal_at HL.out hx
      have hm' := legal_at HL'.out hy
      have HK1 : Hid (k + df (xs[j]?.getD 0) (ys[j]?.getD 0) + distN (xs.drop (j + 1)) (ys.drop (j + 1)) = p) := by
        have := HK.out
        rw [distN_drop xs ys j hx hy] at this
        show _ = _
        omega
      obtain ⟨x, hxx⟩ : ∃ x, xs[j]?.getD 0 = x := ⟨_, rfl⟩
      obtain ⟨y, hyy⟩ : ∃ y, ys[j]?.getD 0 = y := ⟨_, rfl⟩
      rw [hxx] at h1 hm HK1
      rw [hyy] at h2 hm' HK1
      have HC := Lib.hid (markDist_any x y hm hm')
      have hkk : k + df x y ≤ 12582912 := by have := HK1.out; omega
      have hpx := df_le x y
      obtain ⟨z, hz⟩ : ∃ z, df x y = z := ⟨_, rfl⟩
      rw [hz] at HC HK1 hkk hpx
      have hj0 : (0 : Int) ≤ (j : Int) := Int.natCast_nonneg _
      have hj1 : (j : Int) < (n : Int) := by omega
      clear hcell hcell' hxx hyy hx hy H H' hm hm' hz
      go_wp2_with (go_at_call 44; refine (HC.out _).mono ?_; rintro e w' ⟨rfl, rfl⟩)
      go_round
      case rel => exact ⟨j + 1, k + z, by omega, by go_num, by go_num, hkk, HK1⟩
      case measure => simp [intOf]; omega
    · obtain rfl : j = n := by omega
      obtain rfl : k = p := by
        have := HK.out
        rw [List.drop_of_length_le (by rw [HN.out]; omega), List.drop_of_length_le (by rw [HM.out]; omega)] at this
        simpa [distN] using this
      have hj1 : ¬ (j : Int) < (j : Int) := by omega
      go_wp2
      go_ret
      exact ⟨rfl, rfl⟩
end Go.Proofs.YthkfdfocghmmeabDoor
