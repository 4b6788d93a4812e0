/- spec.l10Plain, l10Ok and ValidCopies answer whether copies are valid: contracts. -/
import Derived.Test.YtamookdlbmbncaaDoorCopyMem
import Derived.Test.YtamookdlbmbncaaDoorCopyMath
namespace Go.Proofs.YtamookdlbmbncaaDoor
open Go.ChangeShapes Go.WideShapes Go.ChangeAt Go.RowKit

/-- the target ahead of copy t -/
def lastT (P : List (Int × Int)) (t : Nat) : Int := if t = 0 then -1 else (P[t - 1]?.getD (0, 0)).2
theorem lastT_succ {P : List (Int × Int)} {t : Nat} {x : Int × Int} (h : P[t]? = some x) : lastT P (t + 1) = x.2 := by simp [lastT, h]

set_option maxHeartbeats 2000000 in
theorem l10Plain_any (A : Option Addr) (c : Nat) (P : List (Int × Int)) (B : Nat) (w : World) (h : Copies w B A P) (hB : B ≤ w.heap.size) (hn : P.length ≤ 1048576) :
    Calls Tryd.prog 41 #[.slice A P.length c] w fun e w' => e = .returned (.bool (validTo 20 20 P (-1))) ∧ Below w.heap.size w w' := by
  obtain ⟨n, hN⟩ : ∃ n, P.length = n := ⟨_, rfl⟩
  obtain ⟨r, hr⟩ : ∃ r, validTo 20 20 P (-1) = r := ⟨_, rfl⟩
  rw [hN] at hn
  rw [hN, hr]
  have H := Lib.hid h
  have HN := Lib.hid hN
  have HR := Lib.hid hr
  have HI := Lib.hid in_any
  clear h hN hr
  go_enter Tryd.func41, Tryd.ntmps41
  go_wp2
  go_loopw [3] (fun i wr => ∃ t : Nat, ∃ u : Int, t ≤ n ∧ i = .int .i64 u ∧ Hid (u = t) ∧ Hid (Below w.heap.size w wr) ∧ Hid (validTo 20 20 (P.drop t) (lastT P t) = r)) (fun i _ => n - (intOf i).toNat)
  case atStart => exact ⟨0, 0, Nat.zero_le _, rfl, rfl, Below.refl _ _, HR⟩
  case round =>
    obtain ⟨t, u, ht, rfl, hu, HB, HK⟩ := hrel
    by_cases hlt : t < n
    · obtain ⟨x, hx⟩ : ∃ x, P[t]? = some x := ⟨P[t]'(by rw [HN.out]; exact hlt), List.getElem?_eq_getElem _⟩
      obtain ⟨b, off, rfl, hb, hcell⟩ := (H.out.below (HB.out.mono hB)) (by rw [HN.out]; omega)
      obtain ⟨c1, c2⟩ := hcell t x hx
      have hk := HK.out
      rw [drop_one hx] at hk
      have HL := Lib.hid (lastT_succ hx)
      obtain ⟨x1, x2⟩ := x
      simp only at c1 c2 HL
      have hi1 : ∀ m, Calls Tryd.prog 27 #[.int .i64 x1, .int .i64 0, .int .i64 19] (wr.drewN m) fun e w' => e = .returned (.bool (inB x1 0 19)) ∧ w' = wr.drewN m := fun m => (HI.out x1 0 19 (wr.drewN m)).mono fun _ _ hh => ⟨hh.1, hh.2.symm⟩
      have hi2 : ∀ m, Calls Tryd.prog 27 #[.int .i64 x2, .int .i64 0, .int .i64 19] (wr.drewN m) fun e w' => e = .returned (.bool (inB x2 0 19)) ∧ w' = wr.drewN m := fun m => (HI.out x2 0 19 (wr.drewN m)).mono fun _ _ hh => ⟨hh.1, hh.2.symm⟩
      by_cases hs : 0 ≤ x1 ∧ x1 < 20 ∧ 0 ≤ x2 ∧ x2 < 20 ∧ lastT P t < x2
      · rw [validTo_step hs] at hk
        have HK1 : Hid (validTo 20 20 (P.drop (t + 1)) (lastT P (t + 1)) = r) := by rw [HL.out]; exact hk
        have e1 : inB x1 0 19 = true := by simp only [inB, Bool.and_eq_true, decide_eq_true_eq]; omega
        have e2 : inB x2 0 19 = true := by simp only [inB, Bool.and_eq_true, decide_eq_true_eq]; omega
        simp only [e1] at hi1
        simp only [e2] at hi2
        have HI1 := Lib.hid hi1
        have HI2 := Lib.hid hi2
        cases t with
        | zero =>
          obtain rfl : u = 0 := hu.out
          have k1 : (0 : Int) < (n : Int) := by omega
          simp only [Nat.zero_mul, Nat.add_zero] at c1 c2
          clear hk hx hi1 hi2 e1 e2 hs hcell HL hu
          go_wp2
          go_quiet ((go_at_call 27; first | (with_reducible exact Calls.quiet_of_same (HI1.out _)) | (with_reducible exact Calls.quiet_of_same (HI2.out _))))
          go_wp2
          go_roundw
          case rel => exact ⟨1, 1, by omega, by go_num, rfl, below_drewN HB.out _, HK1⟩
          case measure => simp [intOf]; omega
        | succ s =>
          obtain rfl : u = (s : Int) + 1 := by rw [hu.out]; exact Int.natCast_succ s
          obtain ⟨y, hy⟩ : ∃ y, P[s]? = some y := ⟨P[s]'(by rw [HN.out]; omega), List.getElem?_eq_getElem _⟩
          obtain ⟨_, d2⟩ := hcell s y hy
          have k2 : ¬ y.2 ≥ x2 := by
            have := hs.2.2.2.2
            rw [lastT_succ hy] at this
            omega
          have k0 : (0 : Int) ≤ (s : Int) := Int.natCast_nonneg _
          have k1 : (s : Int) + 1 < (n : Int) := by omega
          have k3 : (0 : Int) < (s : Int) + 1 := by omega
          clear hk hx hi1 hi2 e1 e2 hs hcell HL hu hy
          go_wp2
          go_quiet ((go_at_call 27; first | (with_reducible exact Calls.quiet_of_same (HI1.out _)) | (with_reducible exact Calls.quiet_of_same (HI2.out _))))
          go_wp2
          go_roundw
          case rel => exact ⟨s + 2, (s : Int) + 1 + 1, by omega, by go_num, by show _ = _; omega, below_drewN HB.out _, HK1⟩
          case measure => simp [intOf]; omega
      · rw [validTo_stop hs] at hk
        obtain rfl : false = r := hk
        have kt : (t : Int) < (n : Int) := by omega
        have kt0 : (0 : Int) ≤ (t : Int) := Int.natCast_nonneg _
        cases e1 : inB x1 0 19
        · simp only [e1] at hi1
          have HI1 := Lib.hid hi1
          have HI2 := Lib.hid hi2
          obtain rfl : u = (t : Int) := hu.out
          clear hx hi1 hi2 e1 hs hcell HL hu
          go_wp2
          go_quiet ((go_at_call 27; first | (with_reducible exact Calls.quiet_of_same (HI1.out _)) | (with_reducible exact Calls.quiet_of_same (HI2.out _))))
          go_wp2
          go_ret
          exact ⟨rfl, below_drewN HB.out _⟩
        · cases e2 : inB x2 0 19
          · simp only [e1] at hi1
            simp only [e2] at hi2
            have HI1 := Lib.hid hi1
            have HI2 := Lib.hid hi2
            obtain rfl : u = (t : Int) := hu.out
            clear hx hi1 hi2 e1 e2 hs hcell HL hu
            go_wp2
            go_quiet ((go_at_call 27; first | (with_reducible exact Calls.quiet_of_same (HI1.out _)) | (with_reducible exact Calls.quiet_of_same (HI2.out _))))
            go_wp2
            go_ret
            exact ⟨rfl, below_drewN HB.out _⟩
          · simp only [inB, Bool.and_eq_true, decide_eq_true_eq] at e1 e2
            cases t with
            | zero =>
              exfalso
              apply hs
              have : lastT P 0 = -1 := rfl
              rw [this]
              omega
            | succ s =>
              obtain rfl : u = (s : Int) + 1 := by rw [hu.out]; exact Int.natCast_succ s
              obtain ⟨y, hy⟩ : ∃ y, P[s]? = some y := ⟨P[s]'(by rw [HN.out]; omega), List.getElem?_eq_getElem _⟩
              obtain ⟨_, d2⟩ := hcell s y hy
              have k2 : y.2 ≥ x2 := by
                rw [lastT_succ hy] at hs
                omega
              have f1 : inB x1 0 19 = true := by simp only [inB, Bool.and_eq_true, decide_eq_true_eq]; omega
              have f2 : inB x2 0 19 = true := by simp only [inB, Bool.and_eq_true, decide_eq_true_eq]; omega
              simp only [f1] at hi1
              simp only [f2] at hi2
              have HI1 := Lib.hid hi1
              have HI2 := Lib.hid hi2
              have k0 : (0 : Int) ≤ (s : Int) := Int.natCast_nonneg _
              have k1 : (s : Int) + 1 < (n : Int) := by omega
              have k3 : (0 : Int) < (s : Int) + 1 := by omega
              clear hx hi1 hi2 e1 e2 hs hcell HL hu hy f1 f2 kt kt0
              go_wp2
              go_quiet ((go_at_call 27; first | (with_reducible exact Calls.quiet_of_same (HI1.out _)) | (with_reducible exact Calls.quiet_of_same (HI2.out _))))
              go_wp2
              go_ret
              exact ⟨rfl, below_drewN HB.out _⟩
    · obtain rfl : u = (t : Int) := hu.out
      have htn : t = n := by omega
      have hk := HK.out
      rw [List.drop_of_length_le (by rw [HN.out]; omega)] at hk
      obtain rfl : true = r := hk
      have k1 : ¬ (t : Int) < (n : Int) := by omega
      clear hu htn
      go_wp2
      go_ret
      exact ⟨rfl, HB.out⟩

end Go.Proofs.YtamookdlbmbncaaDoor