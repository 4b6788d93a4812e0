/- spec.l11Power, spec.l11Nines and spec.l11Code: contracts. -/
import Derived.Test.YtkiphejkgpfjjaaDoorCntOk
namespace Go.Proofs.YtkiphejkgpfjjaaDoor
open Go.ChangeShapes Go.WideShapes Go.ChangeAt Go.RowKit

theorem l11Power_any (k : Nat) (w : World) (hk : k ≤ 12) :
    Calls Tryd.prog 29 #[.int .i64 k] w fun e w' => e = .returned (.int .i64 (p10 k)) ∧ w = w' := by
  obtain ⟨r, hr⟩ : ∃ r, p10 k = r := ⟨_, rfl⟩
  rw [hr]
  have HR := Lib.hid hr
  clear hr
  go_enter Tryd.func29, Tryd.ntmps29
  go_wp2
  go_loop [0, 3] (fun n v => ∃ t j : Nat, t + j = k ∧ n = .int .i64 t ∧ v = .int .i64 (p10 j)) (fun n _ => (intOf n).toNat)
  case atStart => exact ⟨k, 0, rfl, rfl, rfl⟩
  case round =>
    obtain ⟨t, j, htj, rfl, rfl⟩ := hrel
    rcases Nat.eq_zero_or_pos t with rfl | hpos
    · obtain rfl : j = k := by omega
      rw [HR.out]
      go_wp2
      go_ret
      exact ⟨rfl, rfl⟩
    · obtain ⟨s, rfl⟩ : ∃ s, t = s + 1 := ⟨t - 1, by omega⟩
      have hp := p10_mono (show j + 1 ≤ 12 by omega)
      rw [p10_12, p10_succ] at hp
      have hp0 := p10_pos j
      have hst := p10_succ j
      obtain ⟨v, hv⟩ : ∃ v, p10 j = v := ⟨_, rfl⟩
      rw [hv] at hp hp0 hst ⊢
      have HST := Lib.hid hst
      have w1 : IntKind.i64.wrap (v * 10) = v * 10 := IntWalk.i64_in _ (by omega)
      have w2 : IntKind.i64.wrap (((s + 1 : Nat) : Int) - 1) = (s : Int) := by rw [IntWalk.i64_in _ (by omega)]; omega
      have j1 : (0 : Int) < ((s + 1 : Nat) : Int) := by omega
      clear hst hv
      go_wp2
      go_round
      case rel => exact ⟨s, j + 1, by omega, rfl, by rw [HST.out, Int.mul_comm]⟩
      case measure => first | (simp [intOf]; done) | (simp [intOf]; omega)

/-- the code of a counter and a number -/
def numC (xs : List Int) (n : Int) : Int := if okK xs = false then 1 else if inB n 0 (p10 xs.length - 1) = true then 0 else 2
theorem numC_cases (xs : List Int) (n : Int) : (numC xs n = 1 ∧ okK xs = false) ∨ (numC xs n = 2 ∧ okK xs = true ∧ inB n 0 (p10 xs.length - 1) = false) ∨ (numC xs n = 0 ∧ okK xs = true ∧ inB n 0 (p10 xs.length - 1) = true) := by
  unfold numC
  cases okK xs <;> cases inB n 0 (p10 xs.length - 1) <;> simp

theorem l11Nines_any (A : Option Addr) (c n : Nat) (x : Int) (p o : Nat) (w : World) (hp : w.cell? ⟨p, o, none⟩ = some (.slice A n c)) (hn : n ≤ 12) (h0 : 0 ≤ x) (h1 : x < p10 n) :
    Calls Tryd.prog 45 #[.pointer (some ⟨p, o, none⟩), .int .i64 x] w fun e w' => e = .returned (.int .i64 (p10 n - 1 - x)) ∧ w = w' := by
  have hpw := l11Power_any n w hn
  have hm := p10_mono hn
  rw [p10_12] at hm
  obtain ⟨v, hv⟩ : ∃ v, p10 n = v := ⟨_, rfl⟩
  rw [hv] at hm hpw h1 ⊢
  have w1 : IntKind.i64.wrap (v - 1) = v - 1 := IntWalk.i64_in _ (by omega)
  have w2 : IntKind.i64.wrap (v - 1 - x) = v - 1 - x := IntWalk.i64_in _ (by omega)
  have HP := Lib.hid hpw
  clear hpw hv
  go_enter Tryd.func45, Tryd.ntmps45
  go_wp2_with (go_at_call 29; refine HP.out.mono ?_; rintro e w9 ⟨rfl, rfl⟩)
  go_ret
  exact ⟨rfl, rfl⟩

theorem l11Code_any (A : Option Addr) (c : Nat) (xs : List Int) (B p o : Nat) (x : Int) (w : World) (hp : w.cell? ⟨p, o, none⟩ = some (.slice A xs.length c)) (h : Ints w B A xs) (hn : xs.length ≤ 1048576) :
    Calls Tryd.prog 38 #[.pointer (some ⟨p, o, none⟩), .int .i64 x] w fun e w' => e = .returned (.int .i64 (numC xs x)) ∧ w = w' := by
  have hc := l11Ok_any A c xs B p o w hp h hn
  rcases numC_cases xs x with ⟨e', hv⟩ | ⟨e', hv, hi⟩ | ⟨e', hv, hi⟩
  · rw [hv] at hc
    rw [e']
    obtain ⟨n, hN⟩ : ∃ n, xs.length = n := ⟨_, rfl⟩
    rw [hN] at hp hn
    have HC := Lib.hid hc
    clear hc hv e' h hN hp
    go_enter Tryd.func38, Tryd.ntmps38
    go_wp2_with (go_at_call 50; refine HC.out.mono ?_; rintro e w1 ⟨rfl, rfl⟩)
    go_ret
    exact ⟨rfl, rfl⟩
  all_goals
    rw [hv] at hc
    obtain ⟨_, h1, h12⟩ := okK_parts hv
    have hpw := l11Power_any xs.length w h12
    have hm := p10_mono h12
    rw [p10_12] at hm
    have hm1 := p10_pos xs.length
    have hin := in_any x 0 (p10 xs.length - 1) w
    rw [hi] at hin
    rw [e']
    obtain ⟨n, hN⟩ : ∃ n, xs.length = n := ⟨_, rfl⟩
    rw [hN] at hp hn hpw hm hm1 hin
    obtain ⟨v, hv'⟩ : ∃ v, p10 n = v := ⟨_, rfl⟩
    rw [hv'] at hm hm1 hpw hin
    have w1 : IntKind.i64.wrap (v - 1) = v - 1 := IntWalk.i64_in _ (by omega)
    have HC := Lib.hid hc
    have HP := Lib.hid hpw
    have HI := Lib.hid hin
    clear hc hv e' h hN hv' hpw hin hi h1 h12
    go_enter Tryd.func38, Tryd.ntmps38
    go_wp2_with (first
      | (go_at_call 50; refine HC.out.mono ?_; rintro e w1 ⟨rfl, rfl⟩)
      | (go_at_call 29; refine HP.out.mono ?_; rintro e w1 ⟨rfl, rfl⟩)
      | (go_at_call 28; refine HI.out.mono ?_; rintro e w1 ⟨rfl, rfl⟩))
    go_ret
    exact ⟨rfl, rfl⟩

end Go.Proofs.YtkiphejkgpfjjaaDoor
