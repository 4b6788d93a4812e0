/- spec.ValidCounter and impl.ValidCounter answer whether a counter has 1 to 12 digits from 0 to 9, for every counter of at most 1048576 digits: contracts, of the functions that they call too. -/
import Derived.Test.YtkiphejkgpfjjaaDoorInts
import Derived.Test.YtkiphejkgpfjjaaDoorBits
import Derived.Test.YtkiphejkgpfjjaaDoorCntMath
import Derived.Outline
namespace Go.Proofs.YtkiphejkgpfjjaaDoor
open Go.ChangeShapes Go.WideShapes Go.ChangeAt Go.RowKit

theorem l11Ok_any (A : Option Addr) (c : Nat) (xs : List Int) (B : Nat) (p o : Nat) (w : World) (hp : w.cell? ⟨p, o, none⟩ = some (.slice A xs.length c)) (h : Ints w B A xs) (hn : xs.length ≤ 1048576) :
    Calls Tryd.prog 50 #[.pointer (some ⟨p, o, none⟩)] w fun e w' => e = .returned (.bool (okK xs)) ∧ w = w' := by
  obtain ⟨n, hN⟩ : ∃ n, xs.length = n := ⟨_, rfl⟩
  obtain ⟨r, hr⟩ : ∃ r, okK xs = r := ⟨_, rfl⟩
  rw [hr]
  rw [hN] at hn hp
  have H := Lib.hid h
  have HN := Lib.hid hN
  have HR := Lib.hid hr
  clear h hN hr
  go_enter Tryd.func50, Tryd.ntmps50
  go_wp2
  go_loop [3] (fun i => ∃ k : Nat, k ≤ n ∧ i = .int .i64 k ∧ Hid (wheelsB (xs.take k) = true)) (fun i => n - (intOf i).toNat)
  case atStart => exact ⟨0, Nat.zero_le _, rfl, rfl⟩
  case round =>
    obtain ⟨k, hk, rfl, HK⟩ := hrel
    by_cases hlt : k < n
    · have hx : k < xs.length := by rw [HN.out]; exact hlt
      obtain ⟨b, off, rfl, hb, hcell⟩ := H.out (by omega)
      have h1 := hcell k hx
      obtain ⟨x, hxx⟩ : ∃ x, xs[k]?.getD 0 = x := ⟨_, rfl⟩
      rw [hxx] at h1
      have Hx := Lib.hid hxx
      have hx' := Lib.hid hx
      clear hcell hxx hx H
      cases hm : inB x 0 9
      · have hin : ∀ W, Calls Tryd.prog 28 #[.int .i64 x, .int .i64 0, .int .i64 9] W fun e w' => e = .returned (.bool false) ∧ W = w' := fun W => by have := in_any x 0 9 W; rwa [hm] at this
        have HI := Lib.hid hin
        obtain rfl : r = false := by rw [← HR.out, okK, wheelsB_bad xs k hx'.out (by rw [Hx.out]; exact hm)]; rfl
        clear hin hm
        go_wp2_with (go_at_call 28; refine (HI.out _).mono ?_; rintro e w' ⟨rfl, rfl⟩)
        go_ret
        exact ⟨rfl, rfl⟩
      · have hin : ∀ W, Calls Tryd.prog 28 #[.int .i64 x, .int .i64 0, .int .i64 9] W fun e w' => e = .returned (.bool true) ∧ W = w' := fun W => by have := in_any x 0 9 W; rwa [hm] at this
        have HI := Lib.hid hin
        have HK1 : Hid (wheelsB (xs.take (k + 1)) = true) := by
          show wheelsB (xs.take (k + 1)) = true
          rw [wheelsB_take xs k hx'.out, HK.out, Hx.out, digB, hm]; rfl
        clear hin hm
        go_wp2_with (go_at_call 28; refine (HI.out _).mono ?_; rintro e w' ⟨rfl, rfl⟩)
        go_round
        case rel => exact ⟨k + 1, by omega, by go_num, HK1⟩
        case measure => simp [intOf]; omega
    · obtain rfl : k = n := by omega
      obtain rfl : r = inB k 1 12 := by
        rw [← HR.out, okK, HN.out]
        have := HK.out
        rw [List.take_of_length_le (by rw [HN.out]; omega)] at this
        rw [this, Bool.true_and]
      have HI := Lib.hid (in_any (k : Int) 1 12)
      go_wp2_with (go_at_call 28; refine (HI.out _).mono ?_; rintro e w' ⟨rfl, rfl⟩)
      go_ret
      exact ⟨rfl, rfl⟩

theorem isWheels_any (n : Int) (w : World) :
    Calls Tryd.prog 55 #[.int .i64 n] w fun e w' => e = .returned (.bool (inB n 1 12)) ∧ w = w' := by
  by_cases h1 : 1 ≤ n
  · by_cases h2 : n ≤ 12
    · have e : inB n 1 12 = true := by simp [inB, h1, h2]
      rw [e]
      clear e
      go_enter Tryd.func55, Tryd.ntmps55
      go_wp2
      go_ret
      exact ⟨rfl, rfl⟩
    · have e : inB n 1 12 = false := by simp [inB, h2]
      rw [e]
      clear e
      go_enter Tryd.func55, Tryd.ntmps55
      go_wp2
      go_ret
      exact ⟨rfl, rfl⟩
  · have e : inB n 1 12 = false := by simp [inB, h1]
    rw [e]
    clear e
    go_enter Tryd.func55, Tryd.ntmps55
    go_wp2
    go_ret
    exact ⟨rfl, rfl⟩

theorem isNoWheel_any (n : Int) (w : World) :
    Calls Tryd.prog 68 #[.int .i64 n] w fun e w' => e = .returned (.bool (!digB n)) ∧ w = w' := by
  by_cases h1 : n < 0
  · have e : (!digB n) = true := by simp [digB, inB]; omega
    rw [e]
    clear e
    go_enter Tryd.func68, Tryd.ntmps68
    go_wp2
    go_ret
    exact ⟨rfl, rfl⟩
  · by_cases h2 : 9 < n
    · have e : (!digB n) = true := by simp [digB, inB]; omega
      rw [e]
      clear e
      go_enter Tryd.func68, Tryd.ntmps68
      go_wp2
      go_ret
      exact ⟨rfl, rfl⟩
    · have e : (!digB n) = false := by simp [digB, inB]; omega
      rw [e]
      clear e
      go_enter Tryd.func68, Tryd.ntmps68
      go_wp2
      go_ret
      exact ⟨rfl, rfl⟩

theorem indexWheel_any (A : Option Addr) (c : Nat) (xs : List Int) (B : Nat) (w : World) (h : Ints w B A xs) (hn : xs.length ≤ 1048576) :
    Calls Tryd.prog 80 #[.slice A xs.length c, .func (.func 68) #[] #[]] w fun e w' =>
      (∃ r : Int, e = .returned (.int .i64 r) ∧ decide (0 ≤ r) = !wheelsB xs) ∧ w = w' := by
  obtain ⟨n, hN⟩ : ∃ n, xs.length = n := ⟨_, rfl⟩
  rw [hN] at hn ⊢
  have H := Lib.hid h
  have HN := Lib.hid hN
  clear h hN
  go_enter Tryd.func80, Tryd.ntmps80
  go_wp2
  go_loop [8] (fun x => ∃ k : Nat, k ≤ n ∧ x = .int .i64 k ∧ Hid (wheelsB (xs.take k) = true)) (fun x => n - (intOf x).toNat)
  case atStart => exact ⟨0, Nat.zero_le _, rfl, rfl⟩
  case round =>
    obtain ⟨k, hk, rfl, HK⟩ := hrel
    by_cases hlt : k < n
    · have hx : k < xs.length := by rw [HN.out]; exact hlt
      obtain ⟨b, off, rfl, hb, hcell⟩ := H.out (by omega)
      have h1 := hcell k hx
      obtain ⟨x, hxx⟩ : ∃ x, xs[k]?.getD 0 = x := ⟨_, rfl⟩
      rw [hxx] at h1
      have Hx := Lib.hid hxx
      have hx' := Lib.hid hx
      have hk0 : (0 : Int) ≤ (k : Int) := Int.natCast_nonneg _
      have hk1 : (k : Int) < (n : Int) := by omega
      clear hcell hxx hx H
      cases hm : digB x
      · have hT := fun W => isNoWheel_any x W
        rw [hm] at hT
        simp only [Bool.not_false] at hT
        have HT := Lib.hid hT
        have HM := Lib.hid (wheelsB_bad xs k hx'.out (by rw [Hx.out]; exact hm))
        clear hT hm
        go_wp2_with (go_at_call 68; refine (HT.out _).mono ?_; rintro e w1 ⟨rfl, rfl⟩)
        go_ret
        exact ⟨⟨_, rfl, by rw [HM.out]; simp⟩, rfl⟩
      · have hT := fun W => isNoWheel_any x W
        rw [hm] at hT
        simp only [Bool.not_true] at hT
        have HT := Lib.hid hT
        have HK1 : Hid (wheelsB (xs.take (k + 1)) = true) := by
          show wheelsB (xs.take (k + 1)) = true
          rw [wheelsB_take xs k hx'.out, HK.out, Hx.out, hm]; rfl
        clear hT hm HK
        go_wp2_with (go_at_call 68; refine (HT.out _).mono ?_; rintro e w1 ⟨rfl, rfl⟩)
        go_round
        case rel => exact ⟨k + 1, by omega, by go_num, HK1⟩
        case measure => simp [intOf]; omega
    · have hk1 : ¬ (k : Int) < (n : Int) := by omega
      obtain rfl : k = n := by omega
      have HM : Hid (wheelsB xs = true) := by
        have := HK.out
        rwa [List.take_of_length_le (by rw [HN.out]; omega)] at this
      go_wp2
      go_ret
      exact ⟨⟨_, rfl, by rw [HM.out]; simp⟩, rfl⟩

theorem containsWheel_any (A : Option Addr) (c : Nat) (xs : List Int) (B : Nat) (w : World) (h : Ints w B A xs) (hn : xs.length ≤ 1048576) :
    Calls Tryd.prog 67 #[.slice A xs.length c, .func (.func 68) #[] #[]] w fun e w' =>
      e = .returned (.bool (!wheelsB xs)) ∧ w = w' := by
  have HI := Lib.hid (indexWheel_any A c xs B w h hn)
  obtain ⟨n, hN⟩ : ∃ n, xs.length = n := ⟨_, rfl⟩
  obtain ⟨r0, hr0⟩ : ∃ r, (!wheelsB xs) = r := ⟨_, rfl⟩
  rw [hN, hr0] at HI ⊢
  clear h hN hn hr0
  go_enter Tryd.func67, Tryd.ntmps67
  go_wp2_with fail
  refine HI.out.mono ?_
  rintro e w1 ⟨⟨r, rfl, hr⟩, rfl⟩
  have HR := Lib.hid hr
  clear hr
  go_wp2
  go_ret
  exact ⟨by first | exact ret_bool HR.out | (congr 2; rw [← HR.out]; simp), rfl⟩

theorem implValidCounter_any (A : Option Addr) (c : Nat) (xs : List Int) (B : Nat) (w : World) (h : Ints w B A xs) (hB : B ≤ w.heap.size) (hn : xs.length ≤ 1048576) :
    Calls Tryd.prog 52 #[.agg #[.slice A xs.length c]] w fun e w' => e = .returned (.bool (okK xs)) ∧ Below w.heap.size w w' := by
  have hc := containsWheel_any A c xs B (w.alloc (.cells #[.slice A xs.length c] 24)) (h.alloc hB _) hn
  have hw := fun W => isWheels_any (xs.length : Int) W
  obtain ⟨n, hN⟩ : ∃ n, xs.length = n := ⟨_, rfl⟩
  obtain ⟨r, hr⟩ : ∃ r, okK xs = r := ⟨_, rfl⟩
  have hr' := hr
  rw [okK] at hr'
  rw [hr]
  rw [hN] at hn hc hr' hw ⊢
  cases h1 : inB (n : Int) 1 12
  · rw [h1] at hw hr'
    obtain rfl : r = false := by rw [← hr', Bool.and_false]
    have HW := Lib.hid hw
    clear h hN hn hc hw hr hr' h1
    go_enter Tryd.func52, Tryd.ntmps52
    go_wp2_with (go_at_call 55; refine (HW.out _).mono ?_; rintro e w1 ⟨rfl, rfl⟩)
    go_ret
    exact ⟨rfl, below_box w _⟩
  · rw [h1] at hw hr'
    rw [Bool.and_true] at hr'
    rw [hr'] at hc
    have HW := Lib.hid hw
    have HC := Lib.hid hc
    clear h hN hn hc hw hr hr' h1
    cases r
    · simp only [Bool.not_false] at HC
      go_enter Tryd.func52, Tryd.ntmps52
      go_wp2_with (first | (go_at_call 55; refine (HW.out _).mono ?_; rintro e w1 ⟨rfl, rfl⟩) | (go_at_call 67; refine HC.out.mono ?_; rintro e w1 ⟨rfl, rfl⟩))
      go_ret
      exact ⟨rfl, below_box w _⟩
    · simp only [Bool.not_true] at HC
      go_enter Tryd.func52, Tryd.ntmps52
      go_wp2_with (first | (go_at_call 55; refine (HW.out _).mono ?_; rintro e w1 ⟨rfl, rfl⟩) | (go_at_call 67; refine HC.out.mono ?_; rintro e w1 ⟨rfl, rfl⟩))
      go_ret
      exact ⟨rfl, below_box w _⟩

end Go.Proofs.YtkiphejkgpfjjaaDoor
