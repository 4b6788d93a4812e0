/- impl.ValidCopies and isPlain, and spec.ValidCopies answer whether copies are valid: contracts. -/
import Derived.Test.YtamookdlbmbncaaDoorCopyS
import Derived.Test.YtamookdlbmbncaaDoorValid
import Derived.Test.YtamookdlbmbncaaDoorHoles
import Derived.Test.YtamookdlbmbncaaDoorPairs
import Derived.Test.YtamookdlbmbncaaDoorPairI
namespace Go.Proofs.YtamookdlbmbncaaDoor
open Go.ChangeShapes Go.WideShapes Go.ChangeAt Go.RowKit

theorem colB_false {n m : Int} (h : ¬ (0 ≤ n ∧ n < m)) : (decide (0 ≤ n) && decide (n < m)) = false := by
  rw [Bool.and_eq_false_iff, decide_eq_false_iff_not, decide_eq_false_iff_not]
  omega
theorem colB_true {n m : Int} (h : 0 ≤ n ∧ n < m) : (decide (0 ≤ n) && decide (n < m)) = true := by
  simp [h.1, h.2]

set_option maxHeartbeats 2000000 in
theorem implValidCopies_any (A : Option Addr) (c : Nat) (P : List (Int × Int)) (f t : Int) (B : Nat) (w : World) (h : Copies w B A P) (hB : B ≤ w.heap.size) (hn : P.length ≤ 1048576) :
    Calls Tryd.prog 68 #[.slice A P.length c, .int .i64 f, .int .i64 t] w fun e w' => e = .returned (.bool (validP P f t)) ∧ Below w.heap.size w w' := by
  have hi1 := fun W => isWidth_any f W
  have hi2 := fun W => isWidth_any t W
  unfold validP
  cases e1 : inB f 1 20
  · simp only [e1] at hi1
    obtain ⟨n, hN⟩ : ∃ n, P.length = n := ⟨_, rfl⟩
    rw [hN]
    rw [Bool.false_and]
    have HI1 := Lib.hid hi1
    clear hi1 hi2 e1 h hN hn
    go_enter Tryd.func68, Tryd.ntmps68
    go_wp2_with (go_at_call 79; refine (HI1.out _).mono ?_; rintro e w' ⟨rfl, rfl⟩)
    go_ret
    exact ⟨rfl, Below.refl _ _⟩
  · cases e2 : inB t 1 20
    · simp only [e1] at hi1
      simp only [e2] at hi2
      obtain ⟨n, hN⟩ : ∃ n, P.length = n := ⟨_, rfl⟩
      rw [hN, Bool.false_and, Bool.and_false]
      have HI1 := Lib.hid hi1
      have HI2 := Lib.hid hi2
      clear hi1 hi2 e1 e2 h hN hn
      go_enter Tryd.func68, Tryd.ntmps68
      go_wp2_with (go_at_call 79; first | (with_reducible refine (HI1.out _).mono ?_; rintro e w' ⟨rfl, rfl⟩) | (with_reducible refine (HI2.out _).mono ?_; rintro e w' ⟨rfl, rfl⟩))
      go_ret
      exact ⟨rfl, Below.refl _ _⟩
    · simp only [e1] at hi1
      simp only [e2] at hi2
      rw [Bool.true_and, Bool.true_and]
      obtain ⟨n, hN⟩ : ∃ n, P.length = n := ⟨_, rfl⟩
      obtain ⟨r, hr⟩ : ∃ r, validTo f t P (-1) = r := ⟨_, rfl⟩
      rw [hN] at hn
      rw [hN, hr]
      have HI1 := Lib.hid hi1
      have HI2 := Lib.hid hi2
      have H := Lib.hid h
      have HN := Lib.hid hN
      have HR := Lib.hid hr
      have HC := Lib.hid isColumnOf_any
      clear hi1 hi2 h hN hr e1 e2
      go_enter Tryd.func68, Tryd.ntmps68
      go_wp2_with (go_at_call 79; first | (with_reducible refine (HI1.out _).mono ?_; rintro e w' ⟨rfl, rfl⟩) | (with_reducible refine (HI2.out _).mono ?_; rintro e w' ⟨rfl, rfl⟩))
      go_loopw [7, 20] (fun la i wr => ∃ k : Nat, ∃ u : Int, k ≤ n ∧ i = .int .i64 k ∧ la = .int .i64 u ∧ Hid (Below w.heap.size w wr) ∧ Hid (validTo f t (P.drop k) u = r)) (fun _ i _ => n - (intOf i).toNat)
      case atStart => exact ⟨0, -1, Nat.zero_le _, rfl, rfl, Below.refl _ _, HR⟩
      case round =>
        obtain ⟨k, u, hk, rfl, rfl, HB, HK⟩ := hrel
        by_cases hlt : k < n
        · obtain ⟨x, hx⟩ : ∃ x, P[k]? = some x := ⟨P[k]'(by rw [HN.out]; exact hlt), List.getElem?_eq_getElem _⟩
          obtain ⟨b, off, rfl, hb, hcell⟩ := (H.out.below (HB.out.mono hB)) (by rw [HN.out]; omega)
          obtain ⟨c1, c2⟩ := hcell k x hx
          have hk1 := HK.out
          rw [drop_one hx] at hk1
          obtain ⟨x1, x2⟩ := x
          simp only at c1 c2
          have hc1 := fun W => HC.out x1 f W
          have hc2 := fun W => HC.out x2 t W
          obtain ⟨s5, s6⟩ := copy_box wr x1 x2
          have HBX := Lib.hid (below_step HB.out (below_box wr (.cells #[.int .i64 x1, .int .i64 x2] 70)))
          obtain ⟨W1, hW1⟩ : ∃ W1, wr.alloc (.cells #[.int .i64 x1, .int .i64 x2] 70) = W1 := ⟨_, rfl⟩
          rw [hW1] at s5 s6 HBX
          have k0 : (0 : Int) ≤ (k : Int) := Int.natCast_nonneg _
          have k1 : (k : Int) < (n : Int) := by omega
          by_cases h1 : 0 ≤ x1 ∧ x1 < f
          · simp only [colB_true h1] at hc1
            by_cases h2 : 0 ≤ x2 ∧ x2 < t
            · simp only [colB_true h2] at hc2
              by_cases h3 : u < x2
              · rw [validTo_step (by simp only; omega)] at hk1
                have HK1 := Lib.hid hk1
                have m1 : ¬ x2 ≤ u := by omega
                have HC1 := Lib.hid hc1
                have HC2 := Lib.hid hc2
                clear hk1 hcell hx h1 h2 h3 hc1 hc2
                go_wp2_with (go_at_call 90; first | (with_reducible refine (HC1.out _).mono ?_; rintro e w' ⟨rfl, rfl⟩) | (with_reducible refine (HC2.out _).mono ?_; rintro e w' ⟨rfl, rfl⟩))
                go_roundw
                case rel => exact ⟨k + 1, x2, by omega, by go_num, rfl, HBX, HK1⟩
                case measure => simp [intOf]; omega
              · rw [validTo_stop (by simp only; omega)] at hk1
                obtain rfl : false = r := hk1
                have m1 : x2 ≤ u := by omega
                have HC1 := Lib.hid hc1
                have HC2 := Lib.hid hc2
                clear hcell hx h1 h2 h3 hc1 hc2
                go_wp2_with (go_at_call 90; first | (with_reducible refine (HC1.out _).mono ?_; rintro e w' ⟨rfl, rfl⟩) | (with_reducible refine (HC2.out _).mono ?_; rintro e w' ⟨rfl, rfl⟩))
                go_ret
                exact ⟨rfl, HBX.out⟩
            · simp only [colB_false h2] at hc2
              rw [validTo_stop (by simp only; omega)] at hk1
              obtain rfl : false = r := hk1
              have HC1 := Lib.hid hc1
              have HC2 := Lib.hid hc2
              clear hcell hx h1 h2 hc1 hc2
              go_wp2_with (go_at_call 90; first | (with_reducible refine (HC1.out _).mono ?_; rintro e w' ⟨rfl, rfl⟩) | (with_reducible refine (HC2.out _).mono ?_; rintro e w' ⟨rfl, rfl⟩))
              go_ret
              exact ⟨rfl, HBX.out⟩
          · simp only [colB_false h1] at hc1
            rw [validTo_stop (by simp only; omega)] at hk1
            obtain rfl : false = r := hk1
            have HC1 := Lib.hid hc1
            clear hcell hx h1 hc1 hc2
            go_wp2_with (go_at_call 90; refine (HC1.out _).mono ?_; rintro e w' ⟨rfl, rfl⟩)
            go_ret
            exact ⟨rfl, HBX.out⟩
        · have hkn : k = n := by omega
          have hk1 := HK.out
          rw [List.drop_of_length_le (by rw [HN.out]; omega)] at hk1
          obtain rfl : true = r := hk1
          have k1 : ¬ (k : Int) < (n : Int) := by omega
          clear hkn
          go_wp2
          go_ret
          exact ⟨rfl, HB.out⟩

theorem isPlain_any (A : Option Addr) (c : Nat) (P : List (Int × Int)) (B : Nat) (w : World) (h : Copies w B A P) (hB : B ≤ w.heap.size) (hn : P.length ≤ 1048576) :
    Calls Tryd.prog 44 #[.slice A P.length c] w fun e w' => e = .returned (.bool (validTo 20 20 P (-1))) ∧ Below w.heap.size w w' := by
  have hv := implValidCopies_any A c P 20 20 B w h hB hn
  have e : validP P 20 20 = validTo 20 20 P (-1) := rfl
  rw [e] at hv
  obtain ⟨n, hN⟩ : ∃ n, P.length = n := ⟨_, rfl⟩
  obtain ⟨r, hr⟩ : ∃ r, validTo 20 20 P (-1) = r := ⟨_, rfl⟩
  rw [hN, hr] at hv
  rw [hN, hr]
  have HV := Lib.hid hv
  clear hv h hN hn hr e
  go_enter Tryd.func44, Tryd.ntmps44
  go_wp2_with (go_at_call 68; refine HV.out.mono ?_; rintro e w' ⟨rfl, hb⟩; have B1 := Lib.hid hb; clear hb)
  go_ret
  exact ⟨rfl, B1.out⟩
end Go.Proofs.YtamookdlbmbncaaDoor
