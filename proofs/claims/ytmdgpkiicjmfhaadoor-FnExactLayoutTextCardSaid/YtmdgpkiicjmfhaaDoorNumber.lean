/- spec.l03Number and (columns).number answer the number that at most twelve columns have, or that there is none: contracts. -/
import Derived.Test.YtmdgpkiicjmfhaaDoorNumMath
import Derived.Test.YtmdgpkiicjmfhaaDoorMem
import Derived.Test.YtmdgpkiicjmfhaaDoorSent
import Derived.Deep.QuietTactic
import Derived.BigQuiet
namespace Go.Proofs.YtmdgpkiicjmfhaaDoor
open Go.ChangeShapes Go.WideShapes Go.ChangeAt Go.RowKit

/-- what is known of the spec's loop at round k -/
def numAt (ys : List Int) (n k : Nat) (v : Int) (b m : Bool) : Prop :=
  (k < n ∧ m = false ∧ numTo ys k = some (v, b)) ∨
  (k = n ∧ numStep (numTo ys (n - 1)) (bits .andNot .i64 (ys[n - 1]?.getD 0) 2) = some (v, b) ∧ m = decide (bits .and .i64 (ys[n - 1]?.getD 0) 2 ≠ 0))

theorem digI_none {m : Int} (h : digM m = none) : digI m = -1 := by simp [digI, h]
theorem digI_some {m : Int} {d : Nat} (h : digM m = some d) : digI m = d := by simp [digI, h]

/-- what the spec's loop does in a round that ends with a digit or without one -/
theorem numAt_step {ys : List Int} {n k : Nat} {v v' : Int} {b b' : Bool} (hn : ys.length = n) (h : numTo ys k = some (v, b)) (hl : k + 1 < n) (hs : numStep (some (v, b)) (ys[k]?.getD 0) = some (v', b')) : numAt ys n (k + 1) v' b' false := by
  refine Or.inl ⟨hl, rfl, ?_⟩
  rw [numTo_step ys k (by omega), h, hs]
theorem numAt_end {ys : List Int} {n k : Nat} {v v' : Int} {b b' m : Bool} (hk : k + 1 = n) (h : numTo ys k = some (v, b)) (hs : numStep (some (v, b)) (bits .andNot .i64 (ys[k]?.getD 0) 2) = some (v', b')) (hm : m = decide (bits .and .i64 (ys[k]?.getD 0) 2 ≠ 0)) : numAt ys n (k + 1) v' b' m := by
  have e : n - 1 = k := by omega
  exact Or.inr ⟨hk, by rw [e, h, hs], by rw [e, hm]⟩

theorem numOf_mid {ys : List Int} {n k : Nat} {v x : Int} {b : Bool} (hn : ys.length = n) (hl : k + 1 < n) (h : numTo ys k = some (v, b)) (hx : ys[k]?.getD 0 = x) (hd : digM x = none) (h' : b = true ∨ x ≠ 0) : numOf ys = none :=
  numOf_bad (k := k + 1) (by omega) (by rw [numTo_step ys k (by omega), h, hx]; exact numStep_bad hd h')
theorem numOf_end {ys : List Int} {n k : Nat} {v x : Int} {b : Bool} (hn : ys.length = n) (hl : k + 1 = n) (h : numTo ys k = some (v, b)) (hx : ys[k]?.getD 0 = x) (hd : digM (bits .andNot .i64 x 2) = none) (h' : b = true ∨ bits .andNot .i64 x 2 ≠ 0) : numOf ys = none := by
  rw [numOf_last (k := k) (by omega), h, hx, numEnd, numStep_bad hd h']
theorem numOf_sign {ys : List Int} {n k : Nat} {v x : Int} {b : Bool} (hn : ys.length = n) (hl : k + 1 = n) (h : numTo ys k = some (v, b)) (hx : ys[k]?.getD 0 = x) (hu : bits .andNot .i64 x 2 = 0) (ha : bits .and .i64 x 2 = 2) : numOf ys = none := by
  rw [numOf_last (k := k) (by omega), h, hx, numEnd, hu, ha]
  have hb := numTo_bd ys k v b (by omega) h
  cases b
  · rw [numStep_blank]
    simp [hb.2.2 rfl]
  · rw [numStep_bad digM_zero (Or.inl rfl)]
theorem numOf_fin {ys : List Int} {n : Nat} {v : Int} {b m : Bool} (hn : ys.length = n) (h0 : 0 < n) (h : numAt ys n n v b m) : numOf ys = if m = false then some v else if v = 0 then none else some (-v) := by
  rcases h with ⟨h, _⟩ | ⟨_, h, rfl⟩
  · omega
  · rw [numOf_last (k := n - 1) (by omega), numEnd, h]
    simp

set_option maxHeartbeats 1000000 in
theorem l03Number_any (b off c : Nat) (ys : List Int) (B : Nat) (w : World) (h : Ints w B (some ⟨b, off, none⟩) ys) (h0 : 0 < ys.length) (hn : ys.length ≤ 12) (hleg : legalB ys = true) :
    Calls Tryd.prog 18 #[.slice (some ⟨b, off, none⟩) ys.length c] w fun e w' => e = .returned (.tuple #[.int .i64 (numV (numOf ys)), .bool (numOf ys).isSome]) ∧ w = w' := by
  obtain ⟨n, hN⟩ : ∃ n, ys.length = n := ⟨_, rfl⟩
  obtain ⟨r, hr⟩ : ∃ r, numOf ys = r := ⟨_, rfl⟩
  rw [hr]
  rw [hN] at hn h0 ⊢
  have H := Lib.hid h
  have HN := Lib.hid hN
  have HR := Lib.hid hr
  have HD := Lib.hid l03Digit_any
  have HL := Lib.hid hleg
  clear h hN hr hleg
  go_enter Tryd.func18, Tryd.ntmps18
  go_wp2
  go_loop [4, 5, 6, 7] (fun sv sb sm i => ∃ k : Nat, ∃ v : Int, ∃ b m : Bool, k ≤ n ∧ i = .int .i64 k ∧ sv = .int .i64 v ∧ sb = .bool b ∧ sm = .bool m ∧ 0 ≤ v ∧ v < 1000000000000 ∧ Hid (numAt ys n k v b m)) (fun _ _ _ i => n - (intOf i).toNat)
  case atStart => exact ⟨0, 0, false, false, Nat.zero_le _, rfl, rfl, rfl, rfl, by omega, by omega, Or.inl ⟨h0, rfl, rfl⟩⟩
  case round =>
    obtain ⟨k, v, bg, mn, hk, rfl, rfl, rfl, rfl, hv0, hv1, HK⟩ := hrel
    by_cases hlt : k < n
    · have hx : k < ys.length := by rw [HN.out]; exact hlt
      obtain ⟨b', off', e, hb, hcell⟩ := H.out (by omega)
      injection e with e
      injection e with e1 e2
      subst e1 e2
      have h1 := hcell k hx
      have hxb := legal_at HL.out hx
      obtain ⟨x, hxx⟩ : ∃ x, ys[k]?.getD 0 = x := ⟨_, rfl⟩
      rw [hxx] at h1 hxb
      obtain ⟨hx0, hx1⟩ := hxb
      obtain ⟨rfl, HT⟩ : mn = false ∧ Hid (numTo ys k = some (v, bg)) := by
        rcases HK.out with ⟨_, e1, e2⟩ | ⟨e1, _⟩
        · exact ⟨e1, e2⟩
        · omega
      have hbd := numTo_bd ys k v bg (by omega) HT.out
      have hp := pow_12 (k := k + 1) (by omega)
      have hbb : 10 * v + 9 < 1000000000000 := by
        have : (10 : Int) ^ (k + 1) = 10 * 10 ^ k := by rw [Int.pow_succ, Int.mul_comm]
        omega
      have Hx := Lib.hid hxx
      have hk0 : (0 : Int) ≤ (k : Int) := Int.natCast_nonneg _
      have hk1 : (k : Int) < (n : Int) := by omega
      clear hcell hxx hx H hb hbd hp HK
      by_cases hl : k + 1 = n
      · have hq : ((k : Int) == (n : Int) - 1) = true := by simp; omega
        rcases minus_cases x hx0 hx1 with ⟨ha, hu⟩ | ⟨ha, hu⟩
        · have HU := Lib.hid hu
          clear hu
          have HM : Hid (false = decide (bits .and .i64 (ys[k]?.getD 0) 2 ≠ 0)) := by
            show false = _
            rw [Hx.out, ha]
            rfl
          by_cases hz : x = 0 ∧ bg = false
          · obtain ⟨rfl, rfl⟩ := hz
            have HP : Hid (numAt ys n (k + 1) v false false) := numAt_end hl HT.out (by rw [Hx.out, HU.out]; exact numStep_blank) HM.out
            clear ha
            go_wp2
            go_round
            case rel => exact ⟨k + 1, v, false, false, by omega, by go_num, rfl, rfl, rfl, hv0, hv1, HP⟩
            case measure => simp [intOf]; omega
          · have hor : bg = true ∨ x ≠ 0 := by
              by_cases hb : bg = true
              · exact Or.inl hb
              · exact Or.inr fun e => hz ⟨e, by simpa using hb⟩
            have hd := fun W => HD.out x W
            cases hm : digM x with
            | none =>
              obtain rfl : r = none := by rw [← HR.out]; exact numOf_end HN.out hl HT.out Hx.out (by rw [HU.out]; exact hm) (by rw [HU.out]; exact hor)
              rw [digI_none hm] at hd
              have HG := Lib.hid hd
              clear hd hm hor
              by_cases hx' : x = 0
              · subst hx'
                obtain rfl : bg = true := by cases bg <;> simp_all
                clear hz ha
                go_wp2_with (go_at_call 37; refine (HG.out _).mono ?_; rintro e w' ⟨rfl, rfl⟩)
                go_ret2
                exact ⟨rfl, rfl⟩
              · have hne : (x == 0) = false := neq_b hx'
                clear hz hx'
                go_wp2_with (go_at_call 37; refine (HG.out _).mono ?_; rintro e w' ⟨rfl, rfl⟩)
                go_ret2
                exact ⟨rfl, rfl⟩
            | some d =>
              have HP : Hid (numAt ys n (k + 1) (10 * v + d) true false) := numAt_end hl HT.out (by rw [Hx.out, HU.out]; exact numStep_digit hm) HM.out
              obtain ⟨_, _, hd9⟩ := dig_char hm
              have hx' : x ≠ 0 := by rintro rfl; rw [digM_zero] at hm; cases hm
              have hne : (x == 0) = false := neq_b hx'
              rw [digI_some hm] at hd
              have HG := Lib.hid hd
              clear hd hm hor hz hx'
              go_wp2_with (go_at_call 37; refine (HG.out _).mono ?_; rintro e w' ⟨rfl, rfl⟩)
              go_round
              case rel => exact ⟨k + 1, 10 * v + d, true, false, by omega, by go_num, by go_num, rfl, rfl, by omega, by omega, HP⟩
              case measure => simp [intOf]; omega
        · have HU := Lib.hid hu
          have HA := Lib.hid ha
          have hne2 : ((2 : Int) != 0) = true := rfl
          clear hu
          have HM : Hid (true = decide (bits .and .i64 (ys[k]?.getD 0) 2 ≠ 0)) := by
            show true = _
            rw [Hx.out, ha]
            rfl
          have hd := fun W => HD.out (x - 2) W
          cases hm : digM (x - 2) with
          | none =>
            obtain rfl : r = none := by
              rw [← HR.out]
              by_cases hx2 : x - 2 = 0
              · exact numOf_sign HN.out hl HT.out Hx.out (by rw [HU.out, hx2]) HA.out
              · exact numOf_end HN.out hl HT.out Hx.out (by rw [HU.out]; exact hm) (by rw [HU.out]; exact Or.inr hx2)
            rw [digI_none hm] at hd
            have HG := Lib.hid hd
            clear hd hm
            by_cases hx2 : x = 2
            · subst hx2
              clear HT HM HU HA hx0 hx1 hv0 hv1
              cases bg
              all_goals
                go_wp2_with (go_at_call 37; refine (HG.out _).mono ?_; rintro e w' ⟨rfl, rfl⟩)
                go_ret2
                exact ⟨rfl, rfl⟩
            · have hx2' : x - 2 ≠ 0 := by omega
              have hne : (x - 2 == 0) = false := neq_b hx2'
              clear hx2' hx2
              go_wp2_with (go_at_call 37; refine (HG.out _).mono ?_; rintro e w' ⟨rfl, rfl⟩)
              go_ret2
              exact ⟨rfl, rfl⟩
          | some d =>
            have HP : Hid (numAt ys n (k + 1) (10 * v + d) true true) := numAt_end hl HT.out (by rw [Hx.out, HU.out]; exact numStep_digit hm) HM.out
            obtain ⟨_, _, hd9⟩ := dig_char hm
            have hx' : x - 2 ≠ 0 := by intro e; rw [e, digM_zero] at hm; cases hm
            have hne : (x - 2 == 0) = false := neq_b hx'
            rw [digI_some hm] at hd
            have HG := Lib.hid hd
            clear hd hm hx'
            go_wp2_with (go_at_call 37; refine (HG.out _).mono ?_; rintro e w' ⟨rfl, rfl⟩)
            go_round
            case rel => exact ⟨k + 1, 10 * v + d, true, true, by omega, by go_num, by go_num, rfl, rfl, by omega, by omega, HP⟩
            case measure => simp [intOf]; omega
      · have hq : ((k : Int) == (n : Int) - 1) = false := by simp; omega
        by_cases hz : x = 0 ∧ bg = false
        · obtain ⟨rfl, rfl⟩ := hz
          have HP : Hid (numAt ys n (k + 1) v false false) := numAt_step HN.out HT.out (by omega) (by rw [Hx.out]; exact numStep_blank)
          go_wp2
          go_round
          case rel => exact ⟨k + 1, v, false, false, by omega, by go_num, rfl, rfl, rfl, hv0, hv1, HP⟩
          case measure => simp [intOf]; omega
        · have hor : bg = true ∨ x ≠ 0 := by
            by_cases hb : bg = true
            · exact Or.inl hb
            · exact Or.inr fun e => hz ⟨e, by simpa using hb⟩
          have hd := fun W => HD.out x W
          cases hm : digM x with
          | none =>
            obtain rfl : r = none := by rw [← HR.out]; exact numOf_mid HN.out (by omega) HT.out Hx.out hm hor
            rw [digI_none hm] at hd
            have HG := Lib.hid hd
            clear hd hm hor
            by_cases hx' : x = 0
            · subst hx'
              obtain rfl : bg = true := by cases bg <;> simp_all
              clear hz
              go_wp2_with (go_at_call 37; refine (HG.out _).mono ?_; rintro e w' ⟨rfl, rfl⟩)
              go_ret2
              exact ⟨rfl, rfl⟩
            · have hne : (x == 0) = false := neq_b hx'
              clear hz hx'
              go_wp2_with (go_at_call 37; refine (HG.out _).mono ?_; rintro e w' ⟨rfl, rfl⟩)
              go_ret2
              exact ⟨rfl, rfl⟩
          | some d =>
            have HP : Hid (numAt ys n (k + 1) (10 * v + d) true false) := numAt_step HN.out HT.out (by omega) (by rw [Hx.out]; exact numStep_digit hm)
            obtain ⟨_, _, hd9⟩ := dig_char hm
            have hx' : x ≠ 0 := by rintro rfl; rw [digM_zero] at hm; cases hm
            have hne : (x == 0) = false := neq_b hx'
            rw [digI_some hm] at hd
            have HG := Lib.hid hd
            clear hd hm hor hz hx'
            go_wp2_with (go_at_call 37; refine (HG.out _).mono ?_; rintro e w' ⟨rfl, rfl⟩)
            go_round
            case rel => exact ⟨k + 1, 10 * v + d, true, false, by omega, by go_num, by go_num, rfl, rfl, by omega, by omega, HP⟩
            case measure => simp [intOf]; omega
    · obtain rfl : k = n := by omega
      have hf := numOf_fin HN.out h0 HK.out
      rw [HR.out] at hf
      have hk1 : ¬ (k : Int) < (k : Int) := by omega
      cases mn
      · obtain rfl : r = some v := hf
        clear HK
        go_wp2
        go_ret2
        exact ⟨rfl, rfl⟩
      · by_cases hv : v = 0
        · subst hv
          obtain rfl : r = none := hf
          clear HK
          go_wp2
          go_ret2
          exact ⟨rfl, rfl⟩
        · obtain rfl : r = some (-v) := by rw [hf]; simp [hv]
          have hne : (v != 0) = true := by simpa using hv
          clear HK hf
          go_wp2
          go_ret2
          exact ⟨rfl, rfl⟩

def implAt (ys : List Int) (n k : Nat) (v : Int) (b : Bool) : Prop := ∃ m, numAt ys n k v b m
theorem digV_none {m : Int} (h : digM m = none) : digV m = 0 := by simp [digV, h]
theorem digV_some {m : Int} {d : Nat} (h : digM m = some d) : digV m = d := by simp [digV, h]
theorem digOk_none {m : Int} (h : digM m = none) : digOk m = false := by simp [digOk, h]
theorem digOk_some {m : Int} {d : Nat} (h : digM m = some d) : digOk m = true := by simp [digOk, h]

/-- what (columns).number gives besides the number -/
def numErr (aM : Addr) (o : Option Int) : Value := match o with | some _ => .nilIface | none => .iface 172 (.pointer (some aM))

theorem number_long (A : Option Addr) (n c : Nat) (hn : 12 < n) (hn' : n ≤ 9223372036854775807) (w : World) {aL aF aM : Addr} (S : Sents w aL aF aM) :
    Calls Tryd.prog 43 #[.slice A n c] w fun e w' => e = .returned (.tuple #[.int .i64 0, .iface 172 (.pointer (some aL))]) ∧ ∃ m, w' = w.drewN m := by
  have hL := S.long.1
  clear S
  go_enter Tryd.func43, Tryd.ntmps43
  go_wp2
  go_quiet (fail)
  go_wp2
  go_ret2
  exact ⟨rfl, _, rfl⟩

set_option maxHeartbeats 1000000 in
theorem number_any (b off c : Nat) (ys : List Int) (B : Nat) (w : World) (h : Ints w B (some ⟨b, off, none⟩) ys) (h0 : 0 < ys.length) (hn : ys.length ≤ 12) (hleg : legalB ys = true) {aL aF aM : Addr} (S : Sents w aL aF aM) :
    Calls Tryd.prog 43 #[.slice (some ⟨b, off, none⟩) ys.length c] w fun e w' => e = .returned (.tuple #[.int .i64 (numV (numOf ys)), numErr aM (numOf ys)]) ∧ ∃ m, w' = w.drewN m := by
  obtain ⟨n, hN⟩ : ∃ n, ys.length = n := ⟨_, rfl⟩
  obtain ⟨r, hr⟩ : ∃ r, numOf ys = r := ⟨_, rfl⟩
  rw [hr]
  rw [hN] at hn h0 ⊢
  have H := Lib.hid h
  have HN := Lib.hid hN
  have HR := Lib.hid hr
  have HD := Lib.hid digitOf_any
  have HL := Lib.hid hleg
  have HM := Lib.hid S.mean.1
  clear h hN hr hleg S
  go_enter Tryd.func43, Tryd.ntmps43
  go_wp2
  go_loop [5, 6, 20] (fun sv sb i => ∃ k : Nat, ∃ v : Int, ∃ b : Bool, k ≤ n ∧ i = .int .i64 k ∧ sv = .int .i64 v ∧ sb = .bool b ∧ 0 ≤ v ∧ v < 1000000000000 ∧ Hid (implAt ys n k v b)) (fun _ _ i => n - (intOf i).toNat)
  case atStart => exact ⟨0, 0, false, Nat.zero_le _, rfl, rfl, rfl, by omega, by omega, false, Or.inl ⟨h0, rfl, rfl⟩⟩
  case round =>
    obtain ⟨k, v, bg, hk, rfl, rfl, rfl, hv0, hv1, HK⟩ := hrel
    by_cases hlt : k < n
    · have hx : k < ys.length := by rw [HN.out]; exact hlt
      obtain ⟨b', off', e, hb, hcell⟩ := H.out (by omega)
      injection e with e
      injection e with e1 e2
      subst e1 e2
      have h1 := hcell k hx
      have hxb := legal_at HL.out hx
      obtain ⟨x, hxx⟩ : ∃ x, ys[k]?.getD 0 = x := ⟨_, rfl⟩
      rw [hxx] at h1 hxb
      obtain ⟨hx0, hx1⟩ := hxb
      have HT : Hid (numTo ys k = some (v, bg)) := by
        obtain ⟨m, hm⟩ := HK.out
        rcases hm with ⟨_, _, e2⟩ | ⟨e1, _⟩
        · exact e2
        · omega
      have hbd := numTo_bd ys k v bg (by omega) HT.out
      have hp := pow_12 (k := k + 1) (by omega)
      have hbb : 10 * v + 9 < 1000000000000 := by
        have : (10 : Int) ^ (k + 1) = 10 * 10 ^ k := by rw [Int.pow_succ, Int.mul_comm]
        omega
      have Hx := Lib.hid hxx
      have hk0 : (0 : Int) ≤ (k : Int) := Int.natCast_nonneg _
      have hk1 : (k : Int) < (n : Int) := by omega
      clear hcell hxx hx H hb hbd hp HK
      by_cases hl : k + 1 = n
      · have hq : ((k : Int) == (n : Int) - 1) = true := by simp; omega
        rcases minus_cases x hx0 hx1 with ⟨ha, hu⟩ | ⟨ha, hu⟩
        · have HU := Lib.hid hu
          clear ha
          have hd := fun W => HD.out x W
          cases hm : digM x with
          | none =>
            rw [digV_none hm, digOk_none hm] at hd
            have HG := Lib.hid hd
            clear hd
            cases bg
            · by_cases hy : x = 0
              · have HP : Hid (implAt ys n (k + 1) v false) := ⟨_, numAt_end hl HT.out (by rw [Hx.out, HU.out]; rw [hy]; exact numStep_blank) rfl⟩
                have hne : (x != 0) = false := by rw [hy]; rfl
                clear hm hy HM
                go_wp2_with (go_at_call 66; refine (HG.out _).mono ?_; rintro e w' ⟨rfl, rfl⟩)
                go_round
                case rel => exact ⟨k + 1, v, false, by omega, by go_num, rfl, rfl, hv0, hv1, HP⟩
                case measure => simp [intOf]; omega
              · have hne : (x != 0) = true := by simpa using hy
                obtain rfl : r = none := by rw [← HR.out]; exact numOf_end HN.out hl HT.out Hx.out (by rw [HU.out]; exact hm) (by rw [HU.out]; exact Or.inr hy)
                have hM := HM.out
                clear hm hy HM
                go_wp2_with (go_at_call 66; refine (HG.out _).mono ?_; rintro e w' ⟨rfl, rfl⟩)
                go_quiet (fail)
                go_wp2
                go_ret2
                exact ⟨rfl, _, rfl⟩
            · obtain rfl : r = none := by rw [← HR.out]; exact numOf_end HN.out hl HT.out Hx.out (by rw [HU.out]; exact hm) (by rw [HU.out]; exact Or.inl rfl)
              have hM := HM.out
              clear hm HM
              go_wp2_with (go_at_call 66; refine (HG.out _).mono ?_; rintro e w' ⟨rfl, rfl⟩)
              go_quiet (fail)
              go_wp2
              go_ret2
              exact ⟨rfl, _, rfl⟩
          | some d =>
            have HP : Hid (implAt ys n (k + 1) (10 * v + d) true) := ⟨_, numAt_end hl HT.out (by rw [Hx.out, HU.out]; exact numStep_digit hm) rfl⟩
            obtain ⟨_, _, hd9⟩ := dig_char hm
            rw [digV_some hm, digOk_some hm] at hd
            have HG := Lib.hid hd
            clear hd hm HM
            go_wp2_with (go_at_call 66; refine (HG.out _).mono ?_; rintro e w' ⟨rfl, rfl⟩)
            go_round
            case rel => exact ⟨k + 1, 10 * v + d, true, by omega, by go_num, by go_num, rfl, by omega, by omega, HP⟩
            case measure => simp [intOf]; omega
        · have HU := Lib.hid hu
          clear ha
          have hd := fun W => HD.out (x - 2) W
          cases hm : digM (x - 2) with
          | none =>
            rw [digV_none hm, digOk_none hm] at hd
            have HG := Lib.hid hd
            clear hd
            cases bg
            · by_cases hy : x - 2 = 0
              · have HP : Hid (implAt ys n (k + 1) v false) := ⟨_, numAt_end hl HT.out (by rw [Hx.out, HU.out]; rw [hy]; exact numStep_blank) rfl⟩
                have hne : (x - 2 != 0) = false := by rw [hy]; rfl
                clear hm hy HM
                go_wp2_with (go_at_call 66; refine (HG.out _).mono ?_; rintro e w' ⟨rfl, rfl⟩)
                go_round
                case rel => exact ⟨k + 1, v, false, by omega, by go_num, rfl, rfl, hv0, hv1, HP⟩
                case measure => simp [intOf]; omega
              · have hne : (x - 2 != 0) = true := by simpa using hy
                obtain rfl : r = none := by rw [← HR.out]; exact numOf_end HN.out hl HT.out Hx.out (by rw [HU.out]; exact hm) (by rw [HU.out]; exact Or.inr hy)
                have hM := HM.out
                clear hm hy HM
                go_wp2_with (go_at_call 66; refine (HG.out _).mono ?_; rintro e w' ⟨rfl, rfl⟩)
                go_quiet (fail)
                go_wp2
                go_ret2
                exact ⟨rfl, _, rfl⟩
            · obtain rfl : r = none := by rw [← HR.out]; exact numOf_end HN.out hl HT.out Hx.out (by rw [HU.out]; exact hm) (by rw [HU.out]; exact Or.inl rfl)
              have hM := HM.out
              clear hm HM
              go_wp2_with (go_at_call 66; refine (HG.out _).mono ?_; rintro e w' ⟨rfl, rfl⟩)
              go_quiet (fail)
              go_wp2
              go_ret2
              exact ⟨rfl, _, rfl⟩
          | some d =>
            have HP : Hid (implAt ys n (k + 1) (10 * v + d) true) := ⟨_, numAt_end hl HT.out (by rw [Hx.out, HU.out]; exact numStep_digit hm) rfl⟩
            obtain ⟨_, _, hd9⟩ := dig_char hm
            rw [digV_some hm, digOk_some hm] at hd
            have HG := Lib.hid hd
            clear hd hm HM
            go_wp2_with (go_at_call 66; refine (HG.out _).mono ?_; rintro e w' ⟨rfl, rfl⟩)
            go_round
            case rel => exact ⟨k + 1, 10 * v + d, true, by omega, by go_num, by go_num, rfl, by omega, by omega, HP⟩
            case measure => simp [intOf]; omega
      · have hq : ((k : Int) == (n : Int) - 1) = false := by simp; omega
        have hd := fun W => HD.out x W
        cases hm : digM x with
        | none =>
          rw [digV_none hm, digOk_none hm] at hd
          have HG := Lib.hid hd
          clear hd
          cases bg
          · by_cases hy : x = 0
            · have HP : Hid (implAt ys n (k + 1) v false) := ⟨_, numAt_step HN.out HT.out (by omega) (by rw [Hx.out]; rw [hy]; exact numStep_blank)⟩
              have hne : (x != 0) = false := by rw [hy]; rfl
              clear hm hy HM
              go_wp2_with (go_at_call 66; refine (HG.out _).mono ?_; rintro e w' ⟨rfl, rfl⟩)
              go_round
              case rel => exact ⟨k + 1, v, false, by omega, by go_num, rfl, rfl, hv0, hv1, HP⟩
              case measure => simp [intOf]; omega
            · have hne : (x != 0) = true := by simpa using hy
              obtain rfl : r = none := by rw [← HR.out]; exact numOf_mid HN.out (by omega) HT.out Hx.out hm (Or.inr hy)
              have hM := HM.out
              clear hm hy HM
              go_wp2_with (go_at_call 66; refine (HG.out _).mono ?_; rintro e w' ⟨rfl, rfl⟩)
              go_quiet (fail)
              go_wp2
              go_ret2
              exact ⟨rfl, _, rfl⟩
          · obtain rfl : r = none := by rw [← HR.out]; exact numOf_mid HN.out (by omega) HT.out Hx.out hm (Or.inl rfl)
            have hM := HM.out
            clear hm HM
            go_wp2_with (go_at_call 66; refine (HG.out _).mono ?_; rintro e w' ⟨rfl, rfl⟩)
            go_quiet (fail)
            go_wp2
            go_ret2
            exact ⟨rfl, _, rfl⟩
        | some d =>
          have HP : Hid (implAt ys n (k + 1) (10 * v + d) true) := ⟨_, numAt_step HN.out HT.out (by omega) (by rw [Hx.out]; exact numStep_digit hm)⟩
          obtain ⟨_, _, hd9⟩ := dig_char hm
          rw [digV_some hm, digOk_some hm] at hd
          have HG := Lib.hid hd
          clear hd hm HM
          go_wp2_with (go_at_call 66; refine (HG.out _).mono ?_; rintro e w' ⟨rfl, rfl⟩)
          go_round
          case rel => exact ⟨k + 1, 10 * v + d, true, by omega, by go_num, by go_num, rfl, by omega, by omega, HP⟩
          case measure => simp [intOf]; omega
    · obtain rfl : k = n := by omega
      obtain ⟨m, hm⟩ := HK.out
      have hf := numOf_fin HN.out h0 hm
      have hmm : m = decide (bits .and .i64 (ys[k - 1]?.getD 0) 2 ≠ 0) := by
        rcases hm with ⟨e, _⟩ | ⟨_, _, e⟩
        · omega
        · exact e
      have hx : k - 1 < ys.length := by rw [HN.out]; omega
      obtain ⟨b', off', e, hb, hcell⟩ := H.out (by omega)
      injection e with e
      injection e with e1 e2
      subst e1 e2
      have h1 := hcell (k - 1) hx
      have hxb := legal_at HL.out hx
      obtain ⟨x, hxx⟩ : ∃ x, ys[k - 1]?.getD 0 = x := ⟨_, rfl⟩
      rw [hxx] at h1 hxb hmm
      rw [HR.out] at hf
      have hk1 : ¬ (k : Int) < (k : Int) := by omega
      have hkz : (0 : Int) ≤ (k : Int) - 1 := by omega
      have hkz' : (k : Int) - 1 < (k : Int) := by omega
      have hkt : ((k : Int) - 1).toNat = k - 1 := by omega
      rcases minus_cases x hxb.1 hxb.2 with ⟨ha, _⟩ | ⟨ha, _⟩
      · obtain rfl : m = false := by rw [hmm, ha]; rfl
        obtain rfl : r = some v := hf
        clear HK hcell hxx hx H hb hm hmm HM HR HD HL HN hxb
        go_wp2
        go_ret2
        exact ⟨rfl, 0, rfl⟩
      · obtain rfl : m = true := by rw [hmm, ha]; rfl
        have h2 : ((2 : Int) == 0) = false := rfl
        by_cases hv : v = 0
        · subst hv
          obtain rfl : r = none := hf
          have hM := HM.out
          clear HK hcell hxx hx H hb hm hmm HM HR HD HL HN hxb
          go_wp2
          go_quiet (fail)
          go_wp2
          go_ret2
          exact ⟨rfl, _, rfl⟩
        · obtain rfl : r = some (-v) := by rw [hf]; simp [hv]
          have hne : (v == 0) = false := by simpa using hv
          clear HK hcell hxx hx H hb hm hmm hf HM HR HD HL HN hxb
          go_wp2
          go_ret2
          exact ⟨rfl, 0, rfl⟩
end Go.Proofs.YtmdgpkiicjmfhaaDoor
