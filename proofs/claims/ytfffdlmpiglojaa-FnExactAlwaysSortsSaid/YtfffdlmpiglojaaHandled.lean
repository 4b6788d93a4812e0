/- How many cards are handled: spec.l08Passes, HandledCards and impl.HandledCards answer alike for every number and every list of at most 1048576 passes: contracts. -/
import Derived.Test.YtfffdlmpiglojaaPasses
namespace Go.Proofs.Ytfffdlmpiglojaa
open Go.ChangeShapes Go.WideShapes Go.ChangeAt Go.RowKit

/-- whether passes are some without a deck -/
def passes20 (P : List (Int × Int)) : Bool := passesB P 20 && decide (P.length ≤ 40)
theorem passesC_nil (P : List (Int × Int)) : passesC [] P = if passes20 P = true then 0 else 2 := by
  have e : deckB [] = true := by decide
  have ez : widthH [] = 20 := rfl
  rw [passesC, e, if_neg (by simp), ez]
  unfold passes20
  by_cases h : 40 < P.length
  · rw [if_pos h, if_neg]
    simp only [Bool.and_eq_true, decide_eq_true_eq]
    omega
  · rw [if_neg h, decide_eq_true (by omega : P.length ≤ 40), Bool.and_true]
    cases passesB P 20 <;> rfl

theorem l08Passes_any (A : Option Addr) (c : Nat) (P : List (Int × Int)) (B : Nat) (w : World) (h : Passes w B A P) (hB : B ≤ w.heap.size) (hn : P.length ≤ 1048576) :
    Calls Try.prog 42 #[.slice A P.length c] w fun e w' => e = .returned (.bool (passes20 P)) ∧ Below w.heap.size w w' := by
  obtain ⟨n, hN⟩ : ∃ n, P.length = n := ⟨_, rfl⟩
  obtain ⟨r, hr⟩ : ∃ r, passes20 P = r := ⟨_, rfl⟩
  rw [hN] at hn
  rw [hN, hr]
  have H := Lib.hid h
  have HN := Lib.hid hN
  have HR := Lib.hid hr
  clear h hN hr
  go_enter Try.func42, Try.ntmps42
  go_wp2
  go_loopw [3] (fun i wr => ∃ k : Nat, k ≤ n ∧ i = .int .i64 k ∧ Hid (Below w.heap.size w wr) ∧ Hid (passesB (P.take k) 20 = true)) (fun i _ => n - (intOf i).toNat)
  case atStart => exact ⟨0, Nat.zero_le _, rfl, Below.refl _ _, by show _ = _; simp [passesB]⟩
  case round =>
    obtain ⟨k, hk, rfl, HB, HK⟩ := hrel
    by_cases hlt : k < n
    · obtain ⟨q, hq⟩ : ∃ q, P[k]? = some q := ⟨P[k]'(by rw [HN.out]; exact hlt), List.getElem?_eq_getElem _⟩
      obtain ⟨b, off, rfl, hb, hcell⟩ := (H.out.below (HB.out.mono hB)) (by rw [HN.out]; omega)
      obtain ⟨c1, c2⟩ := hcell k q hq
      obtain ⟨q1, q2⟩ := q
      simp only at c1 c2
      have k0 : (0 : Int) ≤ (k : Int) := Int.natCast_nonneg _
      have k1 : (k : Int) < (n : Int) := by omega
      obtain ⟨t, ht⟩ : ∃ t, passB q1 q2 20 = t := ⟨_, rfl⟩
      have hf : ∀ W : World, Calls Try.prog 49 #[.agg #[.int .i64 q1, .int .i64 q2], .int .i64 20] W fun e w' => e = .returned (.bool (passB q1 q2 20)) ∧ Below W.heap.size W w' := fun W => l07Pass_any q1 q2 20 (by omega) W
      simp only [ht] at hf
      have HF := Lib.hid hf
      have Hq := Lib.hid hq
      have Ht := Lib.hid ht
      clear hcell hq ht hb hf
      cases t
      · obtain rfl : r = false := by
          rw [← HR.out, passes20, passesB, all_bad _ _ k _ Hq.out Ht.out]
          rfl
        go_wp2_with fail
        refine (HF.out _).mono ?_
        rintro e w2 ⟨rfl, hb⟩
        have B2 := Lib.hid (below_step HB.out hb)
        clear hb
        go_wp2
        go_ret
        exact ⟨rfl, B2.out⟩
      · have HK1 : Hid (passesB (P.take (k + 1)) 20 = true) := all_more _ _ k _ Hq.out HK.out Ht.out
        go_wp2_with fail
        refine (HF.out _).mono ?_
        rintro e w2 ⟨rfl, hb⟩
        have B2 := Lib.hid (below_step HB.out hb)
        clear hb
        go_wp2
        go_roundw
        case rel => exact ⟨k + 1, by omega, by go_num, B2, HK1⟩
        case measure => simp [intOf]; omega
    · have hkm : k = n := by omega
      have k1 : ¬ (k : Int) < (n : Int) := by omega
      have hv : r = decide (n ≤ 40) := by
        have := HK.out
        rw [List.take_of_length_le (by rw [HN.out]; omega)] at this
        rw [← HR.out, passes20, this, HN.out, Bool.true_and]
      by_cases h40 : n ≤ 40
      · have i1 : (n : Int) ≤ 40 := by omega
        rw [decide_eq_true h40] at hv
        subst hv
        clear hkm
        go_wp2
        go_ret
        exact ⟨rfl, HB.out⟩
      · have i1 : ¬ (n : Int) ≤ 40 := by omega
        rw [decide_eq_false h40] at hv
        subst hv
        clear hkm
        go_wp2
        go_ret
        exact ⟨rfl, HB.out⟩

def handledC (n : Int) (P : List (Int × Int)) : Int := if (inB n 0 1000000 && passes20 P) = true then 0 else 2
def handledV (n : Int) (P : List (Int × Int)) : Int := if (inB n 0 1000000 && passes20 P) = true then n * P.length else 0
theorem passes20_len {P : List (Int × Int)} (h : passes20 P = true) : P.length ≤ 40 := by
  unfold passes20 at h
  simp only [Bool.and_eq_true, decide_eq_true_eq] at h
  exact h.2
theorem mul_bound {n k : Int} (h0 : 0 ≤ n) (h1 : n ≤ 1000000) (h2 : 0 ≤ k) (h3 : k ≤ 40) : 0 ≤ n * k ∧ n * k ≤ 40000000 := by
  refine ⟨Int.mul_nonneg h0 h2, ?_⟩
  have h4 := Int.mul_le_mul h1 h3 h2 (by omega)
  omega

theorem specHandled_any (x : Int) (A : Option Addr) (c : Nat) (P : List (Int × Int)) (B : Nat) (w : World) (h : Passes w B A P) (hB : B ≤ w.heap.size) (hn : P.length ≤ 1048576) :
    Calls Try.prog 26 #[.int .i64 x, .slice A P.length c] w fun e w' => e = .returned (.tuple #[.int .i64 (handledV x P), .int .i64 (handledC x P)]) ∧ Below w.heap.size w w' := by
  have hi := fun W => in_any x 0 1000000 W
  have hp := l08Passes_any A c P B w h hB hn
  unfold handledV handledC
  obtain ⟨n, hN⟩ : ∃ n, P.length = n := ⟨_, rfl⟩
  cases h1 : inB x 0 1000000
  · simp only [h1] at hi
    rw [hN, if_neg (by simp), if_neg (by simp)]
    have HI := Lib.hid hi
    clear hi hp h1 h hN hn
    go_enter Try.func26, Try.ntmps26
    go_wp2_with (go_at_call 46; refine (HI.out _).mono ?_; rintro e w' ⟨rfl, rfl⟩)
    go_ret2
    exact ⟨rfl, Below.refl _ _⟩
  · cases h2 : passes20 P
    · simp only [h1] at hi
      rw [h2, hN] at hp
      rw [hN, if_neg (by simp), if_neg (by simp)]
      have HI := Lib.hid hi
      have HP := Lib.hid hp
      clear hi hp h1 h2 h hN hn
      go_enter Try.func26, Try.ntmps26
      go_wp2_with (first | (go_at_call 46; refine (HI.out _).mono ?_; rintro e w' ⟨rfl, rfl⟩) | (go_at_call 42; refine HP.out.mono ?_; rintro e w' ⟨rfl, hb⟩; have B1 := Lib.hid hb; clear hb))
      go_ret2
      exact ⟨rfl, B1.out⟩
    · simp only [h1] at hi
      have h40 := passes20_len h2
      rw [hN] at h40
      rw [h2, hN] at hp
      rw [hN, if_pos (by simp), if_pos (by simp)]
      have hx : 0 ≤ x ∧ x ≤ 1000000 := by simpa [inB] using h1
      obtain ⟨y0, y1⟩ := mul_bound hx.1 hx.2 (Int.natCast_nonneg n) (by omega)
      have hwr : IntKind.i64.wrap (x * (n : Int)) = x * n := IntWalk.i64_in _ (by omega)
      have HI := Lib.hid hi
      have HP := Lib.hid hp
      clear hi hp h1 h2 h hN hn hx
      go_enter Try.func26, Try.ntmps26
      go_wp2_with (first | (go_at_call 46; refine (HI.out _).mono ?_; rintro e w' ⟨rfl, rfl⟩) | (go_at_call 42; refine HP.out.mono ?_; rintro e w' ⟨rfl, hb⟩; have B1 := Lib.hid hb; clear hb))
      go_ret2
      exact ⟨rfl, B1.out⟩

theorem implHandled_any (x : Int) (A : Option Addr) (c : Nat) (P : List (Int × Int)) (B : Nat) (w : World) (h : Passes w B A P) (hB : B ≤ w.heap.size) (hn : P.length ≤ 1048576) :
    Calls Try.prog 27 #[.int .i64 x, .slice A P.length c] w fun e w' => e = .returned (.tuple #[.int .i64 (handledV x P), .int .i64 (handledC x P)]) ∧ Below w.heap.size w w' := by
  have hp : Calls Try.prog 39 #[.slice none 0 0, .slice A P.length c] w fun e w' => e = .returned (.int .i64 (passesC [] P)) ∧ Below w.heap.size w w' := checkPasses_any none A 0 c [] P B B w Deck.nil h hB hB (by simp) (by simp) hn
  rw [passesC_nil] at hp
  unfold handledV handledC
  obtain ⟨n, hN⟩ : ∃ n, P.length = n := ⟨_, rfl⟩
  cases h2 : passes20 P
  · rw [h2, hN, if_neg (by simp)] at hp
    rw [hN, Bool.and_false, if_neg (by simp), if_neg (by simp)]
    have HP := Lib.hid hp
    clear hp h2 h hN hn
    go_enter Try.func27, Try.ntmps27
    go_wp2_with (go_at_call 39; refine HP.out.mono ?_; rintro e w' ⟨rfl, hb⟩; have B1 := Lib.hid hb; clear hb)
    go_ret2
    exact ⟨rfl, B1.out⟩
  · have h40 := passes20_len h2
    rw [hN] at h40
    rw [h2, hN, if_pos rfl] at hp
    rw [hN, Bool.and_true]
    have HP := Lib.hid hp
    clear hp h2 h hN hn
    have hc : (inB x 0 1000000 = false ∧ x < 0) ∨ (inB x 0 1000000 = false ∧ ¬ x < 0 ∧ 1000000 < x) ∨ (inB x 0 1000000 = true ∧ ¬ x < 0 ∧ ¬ 1000000 < x) := by
      simp only [inB, Bool.and_eq_true, Bool.and_eq_false_iff, decide_eq_true_eq, decide_eq_false_iff_not]
      omega
    rcases hc with ⟨e, x0⟩ | ⟨e, x0, x1⟩ | ⟨e, x0, x1⟩
    · rw [e, if_neg (by simp), if_neg (by simp)]
      clear e
      go_enter Try.func27, Try.ntmps27
      go_wp2_with (go_at_call 39; refine HP.out.mono ?_; rintro e w' ⟨rfl, hb⟩; have B1 := Lib.hid hb; clear hb)
      go_ret2
      exact ⟨rfl, B1.out⟩
    · rw [e, if_neg (by simp), if_neg (by simp)]
      clear e
      go_enter Try.func27, Try.ntmps27
      go_wp2_with (go_at_call 39; refine HP.out.mono ?_; rintro e w' ⟨rfl, hb⟩; have B1 := Lib.hid hb; clear hb)
      go_ret2
      exact ⟨rfl, B1.out⟩
    · rw [e, if_pos rfl, if_pos rfl]
      obtain ⟨y0, y1⟩ := mul_bound (by omega : 0 ≤ x) (by omega : x ≤ 1000000) (Int.natCast_nonneg n) (by omega)
      have hwr : IntKind.i64.wrap (x * (n : Int)) = x * n := IntWalk.i64_in _ (by omega)
      clear e
      go_enter Try.func27, Try.ntmps27
      go_wp2_with (go_at_call 39; refine HP.out.mono ?_; rintro e w' ⟨rfl, hb⟩; have B1 := Lib.hid hb; clear hb)
      go_ret2
      exact ⟨rfl, B1.out⟩
end Go.Proofs.Ytfffdlmpiglojaa
