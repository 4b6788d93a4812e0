/- spec.l01Number and spec.ReadDecimal read the decimal form of a number of at most 18 digits, or tell that there is none, for every text of at most 1048576 bytes: contracts. -/
import Derived.Test.YtfjokjdfekkbiacDoorReadMath
import Derived.WalkSpells
import Derived.Lib.IndexBytes
namespace Go.Proofs.YtfjokjdfekkbiacDoor
open Go.ChangeShapes Go.WideShapes Go.ChangeAt Go.RowKit

theorem dig_yes (c : Int) (h1 : 48 ≤ c) (h2 : c ≤ 57) (w : World) : Calls Tryd.prog 68 #[.int .u8 c] w fun e w' => e = .returned (.bool true) ∧ w = w' := by
  go_enter Tryd.func68, Tryd.ntmps68
  go_wp2
  go_ret
  exact ⟨rfl, rfl⟩
theorem dig_none (c : Int) (h : c < 48 ∨ 57 < c) (w : World) : Calls Tryd.prog 68 #[.int .u8 c] w fun e w' => e = .returned (.bool false) ∧ w = w' := by
  by_cases h1 : 48 ≤ c
  · have h2 : ¬ c ≤ 57 := by omega
    clear h
    go_enter Tryd.func68, Tryd.ntmps68
    go_wp2
    go_ret
    exact ⟨rfl, rfl⟩
  · clear h
    go_enter Tryd.func68, Tryd.ntmps68
    go_wp2
    go_ret
    exact ⟨rfl, rfl⟩

/-- the numerals that are read -/
def Reads (s : ByteArray) (n : Int) : Prop := s.data.toList = Lib.itoa n ∧ -999999999999999999 ≤ n ∧ n ≤ 999999999999999999
/-- the number of a numeral, or none -/
def ReadsTo (s : ByteArray) (w : World) (e : Ending) (w' : World) : Prop :=
  ((∃ n, Reads s n ∧ e = .returned (.tuple #[.int .i64 n, .bool true])) ∨ ((∀ n, ¬ Reads s n) ∧ e = .returned (.tuple #[.int .i64 0, .bool false]))) ∧ Below w.heap.size w w'
theorem reads_one {s : ByteArray} {n m : Int} (h : Reads s n) (h' : Reads s m) : n = m := by
  have h1 := parse_itoa n h.2.1 h.2.2
  have h2 := parse_itoa m h'.2.1 h'.2.2
  rw [← h.1] at h1
  rw [← h'.1, h1] at h2
  injection h2
theorem bytes_of {x : ByteArray} {l : List UInt8} (h : x.data.toList = l) : x = ⟨l.toArray⟩ := by
  subst h
  rfl
theorem bytes_eq {x y : ByteArray} (h : x.toList = y.toList) : x = y := by
  rw [ByteArray.toList_eq, ByteArray.toList_eq] at h
  obtain ⟨⟨x⟩⟩ := x
  obtain ⟨⟨y⟩⟩ := y
  simpa using h

/-- what may be behind the sign -/
def Cand (s : ByteArray) (tl : List UInt8) (sg : Int) : Prop := ∀ n, Reads s n → ∃ u : Nat, tl = Lib.decDigits u ∧ n = sg * u ∧ u < 1000000000000000000
theorem cand_len {s : ByteArray} {tl : List UInt8} {sg : Int} (h : Cand s tl sg) (hl : tl.length < 1 ∨ 18 < tl.length) : ∀ n, ¬ Reads s n := fun n hn => by
  obtain ⟨u, rfl, _, hu⟩ := h n hn
  have := dec_len u hu
  omega
theorem cand_dig {s : ByteArray} {tl : List UInt8} {sg : Int} (h : Cand s tl sg) {k : Nat} (hk : k < tl.length) (hd : ¬ isDig (tl[k]'hk)) : ∀ n, ¬ Reads s n := fun n hn => by
  obtain ⟨u, rfl, _, hu⟩ := h n hn
  exact hd (dec_digits u _ (List.getElem_mem _))
theorem cand_val {s : ByteArray} {tl : List UInt8} {sg : Int} (h : Cand s tl sg) (hne : s.data.toList ≠ Lib.itoa (sg * (valD tl : Nat))) : ∀ n, ¬ Reads s n := fun n hn => by
  obtain ⟨u, rfl, e, hu⟩ := h n hn
  rw [valD_dec, ← e] at hne
  exact hne hn.1
theorem cand_pos {s : ByteArray} (h : ∀ r, s.data.toList ≠ 45 :: r) : Cand s s.data.toList 1 := fun n hn => by
  obtain ⟨h1, h2, h3⟩ := hn
  by_cases hneg : n < 0
  · obtain ⟨u, rfl⟩ : ∃ u : Nat, n = -(u : Int) := ⟨n.natAbs, by omega⟩
    rw [Lib.itoa_neg u (by omega)] at h1
    exact absurd h1 (h _)
  · obtain ⟨u, rfl⟩ : ∃ u : Nat, n = u := ⟨n.natAbs, by omega⟩
    rw [Lib.itoa_nonneg] at h1
    exact ⟨u, h1, by omega, by omega⟩
theorem cand_neg {s : ByteArray} {r : List UInt8} (h : s.data.toList = 45 :: r) : Cand s r (-1) := fun n hn => by
  obtain ⟨h1, h2, h3⟩ := hn
  by_cases hneg : n < 0
  · obtain ⟨u, rfl⟩ : ∃ u : Nat, n = -(u : Int) := ⟨n.natAbs, by omega⟩
    rw [Lib.itoa_neg u (by omega), h] at h1
    injection h1 with _ h1
    exact ⟨u, h1, by omega, by omega⟩
  · obtain ⟨u, rfl⟩ : ∃ u : Nat, n = u := ⟨n.natAbs, by omega⟩
    rw [Lib.itoa_nonneg, h] at h1
    obtain ⟨c, q, e, hc⟩ := dec_cons u
    rw [e] at h1
    injection h1 with h1 _
    subst h1
    exact absurd hc (by unfold isDig; decide)

theorem empty_of {s : ByteArray} (h : s.size = 0) : s = ByteArray.empty := by
  apply ByteArray.ext
  apply Array.eq_empty_of_size_eq_zero
  exact h
theorem nonempty {s : ByteArray} (h0 : 0 < s.size) : s.toList.isEmpty = false := by
  rw [ByteArray.toList_eq]
  cases e : s.data.toList with
  | nil =>
    have : s.data.toList.length = 0 := by rw [e]; rfl
    rw [Array.length_toList] at this
    have h : s.data.size = s.size := rfl
    omega
  | cons c r => rfl

set_option maxRecDepth 100000 in
set_option maxHeartbeats 2000000 in
theorem l01Number_neg (s : ByteArray) (r : List UInt8) (hs : s.size ≤ 1048576) (h : s.data.toList = 45 :: r) (w : World) :
    Calls Tryd.prog 62 #[.string s] w (ReadsTo s w) := by
  have hp : 0 < s.size := by
    have h2 : s.data.toList.length = r.length + 1 := by rw [h]; rfl
    rw [Array.length_toList] at h2
    show 0 < s.data.size
    omega
  have h45 : (((s[0]'hp).toNat : Int) == 45) = true := by
    have e : s.data.toList[0]'(by rw [h]; simp) = 45 := by simp only [h]; rfl
    have e2 : s[0]'hp = s.data.toList[0]'(by rw [h]; simp) := rfl
    rw [e2, e]
    rfl
  have hne1 : s.toList.isEmpty = false := nonempty hp
  obtain ⟨t, ht⟩ : ∃ t : ByteArray, s.extract 1 s.size = t := ⟨_, rfl⟩
  have htl : t.data.toList = r := by rw [← ht, Lib.extract_to_end, h]; rfl
  have hts : (t.size : Int) < (s.size : Int) := by
    have h1 : t.size = r.length := by rw [← htl]; simp
    have h2 : s.data.toList.length = r.length + 1 := by rw [h]; rfl
    rw [Array.length_toList] at h2
    have h3 : s.size = s.data.size := rfl
    omega
  have HC := Lib.hid (cand_neg h)
  obtain ⟨tl, hr⟩ : ∃ tl, r = tl := ⟨_, rfl⟩
  rw [hr] at HC htl
  have HTL := Lib.hid htl
  clear h htl hr
  have HLEN : Hid (tl.length = t.size) := by show tl.length = t.size; rw [← HTL.out]; simp
  by_cases hlen : t.size < 1 ∨ 18 < t.size
  · have HNO := Lib.hid (cand_len HC.out (by rw [HLEN.out]; exact hlen))
    clear HC HTL HLEN
    by_cases hl1 : (t.size : Int) < 1
    · clear hlen
      go_enter Tryd.func62, Tryd.ntmps62
      go_wp2
      go_ret2
      exact ⟨Or.inr ⟨HNO.out, rfl⟩, Below.refl _ _⟩
    · have hl2 : (18 : Int) < (t.size : Int) := by omega
      clear hlen
      go_enter Tryd.func62, Tryd.ntmps62
      go_wp2
      go_ret2
      exact ⟨Or.inr ⟨HNO.out, rfl⟩, Below.refl _ _⟩
  · have hl1 : ¬ (t.size : Int) < 1 := by omega
    have hl2 : ¬ (18 : Int) < (t.size : Int) := by omega
    have hl1' : decide (t.size < 1) = false := decide_eq_false (by omega)
    have hl2' : decide (18 < t.size) = false := decide_eq_false (by omega)
    obtain ⟨m, hm⟩ : ∃ m, t.size = m := ⟨_, rfl⟩
    have HM := Lib.hid hm
    have hm18 : m ≤ 18 := by omega
    clear hlen hm
    go_enter Tryd.func62, Tryd.ntmps62
    go_wp2
    go_loop [5, 6] (fun v i => ∃ k : Nat, ∃ x : Nat, k ≤ m ∧ i = .int .i64 k ∧ v = .int .i64 x ∧ x < 1000000000000000000 ∧ Hid (x = valD (tl.take k)) ∧ Hid (∀ c ∈ tl.take k, isDig c)) (fun _ i => m - (intOf i).toNat)
    case atStart => exact ⟨0, 0, Nat.zero_le _, rfl, rfl, by omega, rfl, by simp [Hid]⟩
    case round =>
      obtain ⟨k, x, hk, rfl, rfl, hx18, HX, HD⟩ := hrel
      by_cases hlt : k < m
      · have l1 : k < t.size := by rw [HM.out]; exact hlt
        have l1' : (k : Int) < (t.size : Int) := by omega
        have l2 : k < tl.length := by rw [HLEN.out]; exact l1
        have hg : t[k]'l1 = tl[k]'l2 := by simp only [← HTL.out]; rfl
        obtain ⟨c, hc⟩ : ∃ c : Nat, (t[k]'l1).toNat = c := ⟨_, rfl⟩
        have hci : ((t[k]'l1).toNat : Int) = c := by rw [hc]
        have HCT : Hid ((tl[k]'l2).toNat = c) := by show _ = c; rw [← hg]; exact hc
        have hc255 : c ≤ 255 := by have := (t[k]'l1).toNat_lt; omega
        have hx0 : (0 : Int) ≤ (x : Int) := Int.natCast_nonneg _
        clear hg hc
        by_cases hd : 48 ≤ c ∧ c ≤ 57
        · have HD1 : Hid (∀ q ∈ tl.take (k + 1), isDig q) := by
            show ∀ q ∈ tl.take (k + 1), isDig q
            rw [List.take_succ_eq_append_getElem l2]
            intro q hq
            rw [List.mem_append] at hq
            rcases hq with hq | hq
            · exact HD.out q hq
            · obtain rfl : q = tl[k]'l2 := by simpa using hq
              unfold isDig
              rw [HCT.out]
              exact hd
          have HX1 : Hid (10 * x + (c - 48) = valD (tl.take (k + 1))) := by
            show 10 * x + (c - 48) = valD (tl.take (k + 1))
            rw [valD_take tl k l2, HCT.out, HX.out]
          have hb : 10 * x + (c - 48) < 1000000000000000000 := by
            have h1 := valD_lt (tl.take (k + 1)) HD1.out (k + 1) (by rw [List.length_take]; omega)
            rw [List.take_of_length_le (by rw [List.length_take]; omega), ← HX1.out] at h1
            have h2 : (10 : Nat) ^ (k + 1) ≤ 10 ^ 18 := Nat.pow_le_pow_right (by omega) (by omega)
            have h3 : (10 : Nat) ^ 18 = 1000000000000000000 := by decide
            omega
          obtain ⟨d, rfl⟩ : ∃ d, c = 48 + d := ⟨c - 48, by omega⟩
          rw [show 48 + d - 48 = d by omega] at HX1 hb
          have hdy := fun W => dig_yes ((48 + d : Nat) : Int) (by omega) (by omega) W
          have HY := Lib.hid hdy
          have e1 : ((48 + d : Nat) : Int) - 48 = (d : Int) := by omega
          have hd9 : d ≤ 9 := by omega
          clear hdy hd
          go_wp2_with (go_at_call 68; refine (HY.out _).mono ?_; rintro e w' ⟨rfl, rfl⟩)
          go_round
          case rel => exact ⟨k + 1, 10 * x + d, by omega, by go_num, by go_num, hb, HX1, HD1⟩
          case measure => simp [intOf]; omega
        · have HNO := Lib.hid (cand_dig HC.out l2 (by unfold isDig; rw [HCT.out]; exact hd))
          have hdn := fun W => dig_none (c : Int) (by omega) W
          have HY := Lib.hid hdn
          clear hdn hd HC HX HD HCT
          go_wp2_with (go_at_call 68; refine (HY.out _).mono ?_; rintro e w' ⟨rfl, rfl⟩)
          go_ret2
          exact ⟨Or.inr ⟨HNO.out, rfl⟩, Below.refl _ _⟩
      · have hkm : k = m := by omega
        have hk1 : ¬ (k : Int) < (t.size : Int) := by rw [HM.out]; omega
        have hv : valD tl = x := by
          have := HX.out
          rw [List.take_of_length_le (by rw [HLEN.out, HM.out]; omega)] at this
          exact this.symm
        have HV := Lib.hid hv
        have hdc := fun W => l01Dec_any (-(x : Int)) (by omega) (by omega) W
        obtain ⟨z, hz⟩ : ∃ z : ByteArray, (⟨(Lib.itoa (-(x : Int))).toArray⟩ : ByteArray) = z := ⟨_, rfl⟩
        rw [hz] at hdc
        have HZ := Lib.hid hz
        have HDC := Lib.hid hdc
        have hx0 : (0 : Int) ≤ (x : Int) := Int.natCast_nonneg _
        have hsi : (t.size : Int) < (s.size : Int) := by omega
        have hsi' : decide (t.size < s.size) = true := by simp; omega
        clear hkm hv hdc hz HX HD
        by_cases hzs : z = s
        · have HR : Hid (Reads s (-(x : Int))) := ⟨by rw [← hzs, ← HZ.out], by omega, by omega⟩
          have hq1 : (z.toList == s.toList) = true := by rw [hzs]; simp
          have hq2 : (z.toList != s.toList) = false := by rw [hzs]; simp
          clear hzs HZ HC HV
          go_wp2_with fail
          refine (HDC.out _).mono ?_
          rintro e w1 ⟨rfl, hb⟩
          have B1 := Lib.hid hb
          clear hb
          go_wp2
          go_ret2
          exact ⟨Or.inl ⟨_, HR.out, rfl⟩, B1.out⟩
        · have HNO : Hid (∀ n, ¬ Reads s n) := cand_val HC.out (by
            rw [HV.out]
            intro e
            exact hzs (by rw [← HZ.out, bytes_of e]; congr 3; omega))
          have hq1 : (z.toList == s.toList) = false := beq_eq_false_iff_ne.2 (fun e => hzs (bytes_eq e))
          have hq2 : (z.toList != s.toList) = true := bne_iff_ne.2 (fun e => hzs (bytes_eq e))
          clear hzs HZ HC HV
          go_wp2_with fail
          refine (HDC.out _).mono ?_
          rintro e w1 ⟨rfl, hb⟩
          have B1 := Lib.hid hb
          clear hb
          go_wp2
          go_ret2
          exact ⟨Or.inr ⟨HNO.out, rfl⟩, B1.out⟩

set_option maxRecDepth 100000 in
set_option maxHeartbeats 2000000 in
theorem l01Number_pos (t : ByteArray) (hs : t.size ≤ 1048576) (h : ∀ r, t.data.toList ≠ 45 :: r) (h0 : ∀ (e : 0 < t.size), (((t[0]'e).toNat : Int) == 45) = false) (w : World) :
    Calls Tryd.prog 62 #[.string t] w (ReadsTo t w) := by
  obtain ⟨tl, htl⟩ : ∃ tl, t.data.toList = tl := ⟨_, rfl⟩
  have hc := cand_pos h
  rw [htl] at hc
  have HC := Lib.hid hc
  have HTL := Lib.hid htl
  have H0 := Lib.hid h0
  clear hc htl h h0
  have HLEN : Hid (tl.length = t.size) := by show tl.length = t.size; rw [← HTL.out]; simp
  by_cases hlen : t.size < 1 ∨ 18 < t.size
  · have HNO := Lib.hid (cand_len HC.out (by rw [HLEN.out]; exact hlen))
    clear HC HTL HLEN
    by_cases hl1 : (t.size : Int) < 1
    · clear hlen
      obtain rfl : t = ByteArray.empty := empty_of (by omega)
      clear H0
      go_enter Tryd.func62, Tryd.ntmps62
      go_wp2
      go_ret2
      exact ⟨Or.inr ⟨HNO.out, rfl⟩, Below.refl _ _⟩
    · have hl2 : (18 : Int) < (t.size : Int) := by omega
      clear hlen
      have hne1 := nonempty (show 0 < t.size by omega)
      have h45 := H0.out (by omega)
      clear H0
      go_enter Tryd.func62, Tryd.ntmps62
      go_wp2
      go_ret2
      exact ⟨Or.inr ⟨HNO.out, rfl⟩, Below.refl _ _⟩
  · have hl1 : ¬ (t.size : Int) < 1 := by omega
    have hl2 : ¬ (18 : Int) < (t.size : Int) := by omega
    have hl1' : decide (t.size < 1) = false := decide_eq_false (by omega)
    have hl2' : decide (18 < t.size) = false := decide_eq_false (by omega)
    obtain ⟨m, hm⟩ : ∃ m, t.size = m := ⟨_, rfl⟩
    have HM := Lib.hid hm
    have hm18 : m ≤ 18 := by omega
    clear hlen hm
    have hne1 := nonempty (show 0 < t.size by omega)
    have h45 := H0.out (by omega)
    clear H0
    go_enter Tryd.func62, Tryd.ntmps62
    go_wp2
    go_loop [5, 6] (fun v i => ∃ k : Nat, ∃ x : Nat, k ≤ m ∧ i = .int .i64 k ∧ v = .int .i64 x ∧ x < 1000000000000000000 ∧ Hid (x = valD (tl.take k)) ∧ Hid (∀ c ∈ tl.take k, isDig c)) (fun _ i => m - (intOf i).toNat)
    case atStart => exact ⟨0, 0, Nat.zero_le _, rfl, rfl, by omega, rfl, by simp [Hid]⟩
    case round =>
      obtain ⟨k, x, hk, rfl, rfl, hx18, HX, HD⟩ := hrel
      by_cases hlt : k < m
      · have l1 : k < t.size := by rw [HM.out]; exact hlt
        have l1' : (k : Int) < (t.size : Int) := by omega
        have l2 : k < tl.length := by rw [HLEN.out]; exact l1
        have hg : t[k]'l1 = tl[k]'l2 := by simp only [← HTL.out]; rfl
        obtain ⟨c, hc⟩ : ∃ c : Nat, (t[k]'l1).toNat = c := ⟨_, rfl⟩
        have hci : ((t[k]'l1).toNat : Int) = c := by rw [hc]
        have HCT : Hid ((tl[k]'l2).toNat = c) := by show _ = c; rw [← hg]; exact hc
        have hc255 : c ≤ 255 := by have := (t[k]'l1).toNat_lt; omega
        have hx0 : (0 : Int) ≤ (x : Int) := Int.natCast_nonneg _
        clear hg hc
        by_cases hd : 48 ≤ c ∧ c ≤ 57
        · have HD1 : Hid (∀ q ∈ tl.take (k + 1), isDig q) := by
            show ∀ q ∈ tl.take (k + 1), isDig q
            rw [List.take_succ_eq_append_getElem l2]
            intro q hq
            rw [List.mem_append] at hq
            rcases hq with hq | hq
            · exact HD.out q hq
            · obtain rfl : q = tl[k]'l2 := by simpa using hq
              unfold isDig
              rw [HCT.out]
              exact hd
          have HX1 : Hid (10 * x + (c - 48) = valD (tl.take (k + 1))) := by
            show 10 * x + (c - 48) = valD (tl.take (k + 1))
            rw [valD_take tl k l2, HCT.out, HX.out]
          have hb : 10 * x + (c - 48) < 1000000000000000000 := by
            have h1 := valD_lt (tl.take (k + 1)) HD1.out (k + 1) (by rw [List.length_take]; omega)
            rw [List.take_of_length_le (by rw [List.length_take]; omega), ← HX1.out] at h1
            have h2 : (10 : Nat) ^ (k + 1) ≤ 10 ^ 18 := Nat.pow_le_pow_right (by omega) (by omega)
            have h3 : (10 : Nat) ^ 18 = 1000000000000000000 := by decide
            omega
          obtain ⟨d, rfl⟩ : ∃ d, c = 48 + d := ⟨c - 48, by omega⟩
          rw [show 48 + d - 48 = d by omega] at HX1 hb
          have hdy := fun W => dig_yes ((48 + d : Nat) : Int) (by omega) (by omega) W
          have HY := Lib.hid hdy
          have e1 : ((48 + d : Nat) : Int) - 48 = (d : Int) := by omega
          have hd9 : d ≤ 9 := by omega
          clear hdy hd
          go_wp2_with (go_at_call 68; refine (HY.out _).mono ?_; rintro e w' ⟨rfl, rfl⟩)
          go_round
          case rel => exact ⟨k + 1, 10 * x + d, by omega, by go_num, by go_num, hb, HX1, HD1⟩
          case measure => simp [intOf]; omega
        · have HNO := Lib.hid (cand_dig HC.out l2 (by unfold isDig; rw [HCT.out]; exact hd))
          have hdn := fun W => dig_none (c : Int) (by omega) W
          have HY := Lib.hid hdn
          clear hdn hd HC HX HD HCT
          go_wp2_with (go_at_call 68; refine (HY.out _).mono ?_; rintro e w' ⟨rfl, rfl⟩)
          go_ret2
          exact ⟨Or.inr ⟨HNO.out, rfl⟩, Below.refl _ _⟩
      · have hkm : k = m := by omega
        have hk1 : ¬ (k : Int) < (t.size : Int) := by rw [HM.out]; omega
        have hv : valD tl = x := by
          have := HX.out
          rw [List.take_of_length_le (by rw [HLEN.out, HM.out]; omega)] at this
          exact this.symm
        have HV := Lib.hid hv
        have hdc := fun W => l01Dec_any (x : Int) (by omega) (by omega) W
        obtain ⟨z, hz⟩ : ∃ z : ByteArray, (⟨(Lib.itoa (x : Int)).toArray⟩ : ByteArray) = z := ⟨_, rfl⟩
        rw [hz] at hdc
        have HZ := Lib.hid hz
        have HDC := Lib.hid hdc
        have hx0 : (0 : Int) ≤ (x : Int) := Int.natCast_nonneg _
        have hsi : ¬ (t.size : Int) < (t.size : Int) := by omega
        have hsi' : decide (t.size < t.size) = false := by simp
        clear hkm hv hdc hz HX HD
        by_cases hzs : z = t
        · have HR : Hid (Reads t (x : Int)) := ⟨by rw [← hzs, ← HZ.out], by omega, by omega⟩
          have hq1 : (z.toList == t.toList) = true := by rw [hzs]; simp
          have hq2 : (z.toList != t.toList) = false := by rw [hzs]; simp
          clear hzs HZ HC HV
          go_wp2_with fail
          refine (HDC.out _).mono ?_
          rintro e w1 ⟨rfl, hb⟩
          have B1 := Lib.hid hb
          clear hb
          go_wp2
          go_ret2
          exact ⟨Or.inl ⟨_, HR.out, rfl⟩, B1.out⟩
        · have HNO : Hid (∀ n, ¬ Reads t n) := cand_val HC.out (by
            rw [HV.out]
            intro e
            exact hzs (by rw [← HZ.out, bytes_of e]; congr 3; omega))
          have hq1 : (z.toList == t.toList) = false := beq_eq_false_iff_ne.2 (fun e => hzs (bytes_eq e))
          have hq2 : (z.toList != t.toList) = true := bne_iff_ne.2 (fun e => hzs (bytes_eq e))
          clear hzs HZ HC HV
          go_wp2_with fail
          refine (HDC.out _).mono ?_
          rintro e w1 ⟨rfl, hb⟩
          have B1 := Lib.hid hb
          clear hb
          go_wp2
          go_ret2
          exact ⟨Or.inr ⟨HNO.out, rfl⟩, B1.out⟩
end Go.Proofs.YtfjokjdfekkbiacDoor
