/- The specification's functions of keys answer, for every program card, card and keys, the code of the cards, the code of the keys, and the card that is punched: contracts of spec.l05Code, spec.l05Check and spec.l05Punch. -/
import Derived.Test.YtjlgfgekiekenaaDoorKeyMath
namespace Go.Proofs.YtjlgfgekiekenaaDoor
open Go.ChangeShapes Go.WideShapes Go.ChangeAt Go.RowKit

def cardC (s : ByteArray) (bs : List Int) : Nat := if progB s = true then (if okB bs = true then (if bs.length = s.size then 0 else 2) else 1) else 1

theorem l05Code_any (s : ByteArray) (hs : s.size ≤ 1048576) (A : Option Addr) (c : Nat) (bs : List Int) (B p o : Nat) (w : World) (hp : w.cell? ⟨p, o, none⟩ = some (.slice A bs.length c)) (h : Ints w B A bs) (hn : bs.length ≤ 1048576) :
    Calls Tryd.prog 41 #[.string s, .pointer (some ⟨p, o, none⟩)] w fun e w' => e = .returned (.int .i64 (cardC s bs)) ∧ w = w' := by
  have HP := Lib.hid (fun W => l05Ok_any s hs W)
  have hO := l02Ok_any A c bs B p o w hp h hn
  cases hpg : progB s
  · have e1 : cardC s bs = 1 := by simp [cardC, hpg]
    rw [hpg] at HP
    rw [e1]
    clear e1 hpg hO h
    go_enter Tryd.func41, Tryd.ntmps41
    go_wp2_with (go_at_call 36; refine (HP.out _).mono ?_; rintro e w' ⟨rfl, rfl⟩)
    go_ret
    exact ⟨rfl, rfl⟩
  · rw [hpg] at HP
    have e1 : cardC s bs = if okB bs = true then (if bs.length = s.size then 0 else 2) else 1 := by simp [cardC, hpg]
    rw [e1]
    obtain ⟨n, hN⟩ : ∃ n, bs.length = n := ⟨_, rfl⟩
    rw [hN] at hn hp ⊢
    clear hpg e1 h
    cases hok : okB bs
    · rw [hok] at hO
      have HO := Lib.hid hO
      clear hok hO hN
      go_enter Tryd.func41, Tryd.ntmps41
      go_wp2_with (first | (go_at_call 36; refine (HP.out _).mono ?_; rintro e w' ⟨rfl, rfl⟩) | (go_at_call 71; refine HO.out.mono ?_; rintro e w' ⟨rfl, rfl⟩))
      go_ret
      exact ⟨rfl, rfl⟩
    · rw [hok] at hO
      have HO := Lib.hid hO
      clear hok hO hN
      by_cases hq : n = s.size
      · have hq2 : ((n : Int) != (s.size : Int)) = false := by rw [bne_eq_false_iff_eq]; omega
        rw [if_pos rfl, if_pos hq]
        clear hq
        go_enter Tryd.func41, Tryd.ntmps41
        go_wp2_with (first | (go_at_call 36; refine (HP.out _).mono ?_; rintro e w' ⟨rfl, rfl⟩) | (go_at_call 71; refine HO.out.mono ?_; rintro e w' ⟨rfl, rfl⟩))
        go_ret
        exact ⟨rfl, rfl⟩
      · have hq2 : ((n : Int) != (s.size : Int)) = true := by rw [bne_iff_ne]; omega
        rw [if_pos rfl, if_neg hq]
        clear hq
        go_enter Tryd.func41, Tryd.ntmps41
        go_wp2_with (first | (go_at_call 36; refine (HP.out _).mono ?_; rintro e w' ⟨rfl, rfl⟩) | (go_at_call 71; refine HO.out.mono ?_; rintro e w' ⟨rfl, rfl⟩))
        go_ret
        exact ⟨rfl, rfl⟩

theorem digC_in (y : Nat) : inB (y : Int) 48 57 = digC y := by
  unfold inB digC
  congr 1 <;> exact decide_eq_decide.2 (by omega)
theorem key_two (l : Nat) (h : keyB l = true) : l = 109 ∨ l = 110 := by simpa [keyB] using h

set_option maxHeartbeats 2000000 in
theorem l05Check_any (s K : ByteArray) (hs : s.size ≤ 1048576) (hK : K.size ≤ 1048576) (w : World) :
    Calls Tryd.prog 42 #[.string s, .string K] w fun e w' => e = .returned (.int .i64 (keysC s K)) ∧ w = w' := by
  have HK := Lib.hid (fun W => l05Keys_any s hs W)
  have hb := keysTo_le s s.size
  by_cases he : K.size = keysTo s s.size
  · have e1 : keysC s K = badC s K s.size := by simp [keysC, he]
    rw [e1]
    obtain ⟨r, hr⟩ : ∃ r, badC s K s.size = r := ⟨_, rfl⟩
    rw [hr]
    have HR := Lib.hid hr
    rw [← he] at HK
    have HE := Lib.hid he
    have hq : ((K.size : Int) != (K.size : Int)) = false := by simp
    clear e1 hr he
    go_enter Tryd.func42, Tryd.ntmps42
    go_wp2_with (go_at_call 37; refine (HK.out _).mono ?_; rintro e w' ⟨rfl, rfl⟩)
    go_loop [5, 6] (fun a i => ∃ k j : Nat, k ≤ s.size ∧ j ≤ k ∧ i = .int .i64 k ∧ a = .int .i64 j ∧ Hid (keysTo s k = j) ∧ Hid (badC s K k = 0)) (fun a i => s.size - (intOf i).toNat)
    case atStart => exact ⟨0, 0, Nat.zero_le _, Nat.le_refl _, rfl, rfl, rfl, rfl⟩
    case round =>
      obtain ⟨k, j, hk, hj, rfl, rfl, HJ, HBAD⟩ := hrel
      by_cases hlt : k < s.size
      · have hge := byte_of s k hlt
        have hl := l05Keyed_any (s[k]'hlt).toNat
        obtain ⟨l, hll⟩ : ∃ l, (s[k]'hlt).toNat = l := ⟨_, rfl⟩
        have hgl : (s.get! k).toNat = l := by rw [hge, hll]
        rw [hll] at hl
        have HLL := Lib.hid hll
        have HGL := Lib.hid hgl
        clear hge
        cases hm : keyB l
        · rw [hm] at hl
          have HL := Lib.hid hl
          have HJ1 : Hid (keysTo s (k + 1) = j) := by show _ = _; rw [keysTo_no s k (by rw [HGL.out]; exact hm), HJ.out]
          have HB1 : Hid (badC s K (k + 1) = 0) := by show _ = _; rw [badC_step s K k HBAD.out]; unfold colBad; rw [HGL.out, hm]; rfl
          clear hl hm hgl
          go_wp2_with (go_at_call 53; refine (HL.out _).mono ?_; rintro e w' ⟨rfl, rfl⟩)
          go_round
          case rel => exact ⟨k + 1, j, by omega, by omega, by go_num, rfl, HJ1, HB1⟩
          case measure => simp [intOf]; omega
        · have hm2 := key_two l hm
          rw [hm] at hl
          have HL := Lib.hid hl
          have hjK : j < K.size := by rw [HE.out, ← HJ.out]; exact keysTo_lt s k hlt (by rw [HGL.out]; exact hm)
          have HJ1 : Hid (keysTo s (k + 1) = j + 1) := by show _ = _; rw [keysTo_key s k (by rw [HGL.out]; exact hm), HJ.out]
          have hgk := byte_of K j hjK
          obtain ⟨y, hy⟩ : ∃ y, (K[j]'hjK).toNat = y := ⟨_, rfl⟩
          have hyb : y ≤ 255 := by have := (K[j]'hjK).toNat_lt; omega
          have hky : (K.get! j).toNat = y := by rw [hgk, hy]
          have HCB : Hid (colBad s K k = if codeS (y : Int) < 0 then 7 else if l = 110 then (if digC y then 0 else 10) else 0) := by
            show _ = _; unfold colBad; rw [HGL.out, HJ.out, hky, hm]; rfl
          have hc := fun W => l03Code_any (y : Int) (by omega) (by omega) W
          have hd := fun W => l01Digit_any (y : Int) W
          rw [digC_in] at hd
          obtain ⟨m, hmm⟩ : ∃ m, codeS (y : Int) = m := ⟨_, rfl⟩
          rw [hmm] at hc HCB
          have HC := Lib.hid hc
          clear hl hm hgl hgk hky hc hmm
          by_cases hneg : m < 0
          · have HB1 : Hid (badC s K (k + 1) = 7) := by show _ = _; rw [badC_step s K k HBAD.out, HCB.out, if_pos hneg]
            obtain rfl : r = 7 := by rw [← HR.out, badC_stay s K (k + 1) (by rw [HB1.out]; decide) s.size hlt, HB1.out]
            clear hd
            go_wp2_with (first | (go_at_call 53; refine (HL.out _).mono ?_; rintro e w' ⟨rfl, rfl⟩) | (go_at_call 72; refine (HC.out _).mono ?_; rintro e w' ⟨rfl, rfl⟩))
            go_ret
            exact ⟨rfl, rfl⟩
          · rw [if_neg hneg] at HCB
            rcases hm2 with rfl | rfl
            · have HB1 : Hid (badC s K (k + 1) = 0) := by show _ = _; rw [badC_step s K k HBAD.out, HCB.out, if_neg (by decide)]
              clear hd
              go_wp2_with (first | (go_at_call 53; refine (HL.out _).mono ?_; rintro e w' ⟨rfl, rfl⟩) | (go_at_call 72; refine (HC.out _).mono ?_; rintro e w' ⟨rfl, rfl⟩))
              go_round
              case rel => exact ⟨k + 1, j + 1, by omega, by omega, by go_num, by go_num, HJ1, HB1⟩
              case measure => simp [intOf]; omega
            · cases hdc : digC y
              · rw [hdc] at hd
                have HD := Lib.hid hd
                have HB1 : Hid (badC s K (k + 1) = 10) := by show _ = _; rw [badC_step s K k HBAD.out, HCB.out, if_pos rfl, hdc]; rfl
                obtain rfl : r = 10 := by rw [← HR.out, badC_stay s K (k + 1) (by rw [HB1.out]; decide) s.size hlt, HB1.out]
                clear hd hdc
                go_wp2_with (first | (go_at_call 53; refine (HL.out _).mono ?_; rintro e w' ⟨rfl, rfl⟩) | (go_at_call 72; refine (HC.out _).mono ?_; rintro e w' ⟨rfl, rfl⟩) | (go_at_call 54; refine (HD.out _).mono ?_; rintro e w' ⟨rfl, rfl⟩))
                go_ret
                exact ⟨rfl, rfl⟩
              · rw [hdc] at hd
                have HD := Lib.hid hd
                have HB1 : Hid (badC s K (k + 1) = 0) := by show _ = _; rw [badC_step s K k HBAD.out, HCB.out, if_pos rfl, hdc]; rfl
                clear hd hdc
                go_wp2_with (first | (go_at_call 53; refine (HL.out _).mono ?_; rintro e w' ⟨rfl, rfl⟩) | (go_at_call 72; refine (HC.out _).mono ?_; rintro e w' ⟨rfl, rfl⟩) | (go_at_call 54; refine (HD.out _).mono ?_; rintro e w' ⟨rfl, rfl⟩))
                go_round
                case rel => exact ⟨k + 1, j + 1, by omega, by omega, by go_num, by go_num, HJ1, HB1⟩
                case measure => simp [intOf]; omega
      · have hks : k = s.size := by omega
        obtain rfl : r = 0 := by rw [← HR.out, ← hks]; exact HBAD.out
        have hk1 : ¬ (k : Int) < (s.size : Int) := by omega
        clear hks
        go_wp2
        go_ret
        exact ⟨rfl, rfl⟩
  · have e1 : keysC s K = 5 := by simp [keysC, he]
    rw [e1]
    obtain ⟨n, hn⟩ : ∃ n, keysTo s s.size = n := ⟨_, rfl⟩
    rw [hn] at HK he hb
    have hq : ((K.size : Int) != (n : Int)) = true := by rw [bne_iff_ne]; omega
    clear e1 hn he
    go_enter Tryd.func42, Tryd.ntmps42
    go_wp2_with (go_at_call 37; refine (HK.out _).mono ?_; rintro e w' ⟨rfl, rfl⟩)
    go_ret
    exact ⟨rfl, rfl⟩
end Go.Proofs.YtjlgfgekiekenaaDoor
