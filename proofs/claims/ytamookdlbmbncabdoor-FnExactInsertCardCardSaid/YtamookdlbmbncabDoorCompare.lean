/- The order of fields: spec.l03Compare, cmp.Compare, cmp.Or, impl.rankIn, spec.CompareFields and impl.CompareFields, for cards of at most 1048576 columns and every field: contracts. -/
import Derived.Test.YtamookdlbmbncabDoorRead
import Derived.Test.YtamookdlbmbncabDoorCmpC
import Derived.Test.YtamookdlbmbncabDoorPart
import Derived.Test.YtamookdlbmbncabDoorRank
namespace Go.Proofs.YtamookdlbmbncabDoor
open Go.ChangeShapes Go.WideShapes Go.ChangeAt Go.RowKit

def rkI (m : Int) : Int := match rankM m with | some j => (j : Int) | none => 0
/-- the first difference among the first k columns -/
def cmpTo (xs ys : List Int) : Nat → Int
  | 0 => 0
  | k + 1 => if cmpTo xs ys k ≠ 0 then cmpTo xs ys k else cmpI (rkI (xs[k]?.getD 0)) (rkI (ys[k]?.getD 0))
theorem cmpTo_step (xs ys : List Int) (k : Nat) : cmpTo xs ys (k + 1) = if cmpTo xs ys k ≠ 0 then cmpTo xs ys k else cmpI (rkI (xs[k]?.getD 0)) (rkI (ys[k]?.getD 0)) := rfl
theorem cmpTo_stays (xs ys : List Int) (k : Nat) (h : cmpTo xs ys k ≠ 0) : ∀ j, cmpTo xs ys (k + j) = cmpTo xs ys k
  | 0 => rfl
  | j + 1 => by rw [← Nat.add_assoc, cmpTo_step, cmpTo_stays xs ys k h j, if_pos h]
theorem cmpTo_le (xs ys : List Int) : ∀ k, -1 ≤ cmpTo xs ys k ∧ cmpTo xs ys k ≤ 1
  | 0 => by simp [cmpTo]
  | k + 1 => by
    have := cmpTo_le xs ys k
    rw [cmpTo_step]
    split
    · exact this
    · unfold cmpI
      split
      · omega
      · split <;> omega

theorem char_one : ∀ i j : Fin 40, charR i.val = charR j.val → i = j := by decide +kernel
theorem rank_of {m : Int} (h : charOk m = true) : ∃ n j : Nat, charV m = n ∧ n ≤ 255 ∧ j < 40 ∧ rankS n = j ∧ rkI m = j ∧ n < 91 ∧ placesL.getD n 0 = (j : Int) + 1 := by
  unfold charOk at h
  cases e : rankM m with
  | none => rw [e] at h; cases h
  | some j =>
    obtain ⟨hj, _, _⟩ := rankM_some e
    have hc := charR_le j
    have hn : ((charR j).toNat : Int) = charR j := by omega
    rcases rank_cases (charR j).toNat (by omega) with ⟨_, h2, _⟩ | ⟨i, hi, h1, h2, _, h4, h5⟩
    · exact absurd hn.symm (h2 j hj)
    · rw [hn] at h2
      have hij : (⟨i, hi⟩ : Fin 40) = ⟨j, hj⟩ := char_one ⟨i, hi⟩ ⟨j, hj⟩ h2
      have hij' : i = j := congrArg Fin.val hij
      subst hij'
      exact ⟨(charR i).toNat, i, by simp [charV, e, hn], by omega, hi, h1, by simp [rkI, e], h4, h5⟩

theorem rankIn_any (m : Int) (w : World) (hp : Places w) :
    Calls Tryd.prog 62 #[.int .i64 m] w fun e w' => e = .returned (.tuple #[.int .i64 (rkI m), .bool (charOk m)]) ∧ w = w' := by
  have hc := fun W => implCharOf_any m W
  cases ho : charOk m
  · have e1 : rkI m = 0 := by
      unfold charOk at ho
      cases e : rankM m with
      | none => simp [rkI, e]
      | some j => rw [e] at ho; cases ho
    rw [e1]
    rw [ho] at hc
    have HC := Lib.hid hc
    clear hc ho e1 hp
    go_enter Tryd.func62, Tryd.ntmps62
    go_wp2_with (go_at_call 67; refine (HC.out _).mono ?_; rintro e w' ⟨rfl, rfl⟩)
    go_ret2
    exact ⟨rfl, rfl⟩
  · obtain ⟨n, j, h1, h2, h3, h4, h5, h6, h7⟩ := rank_of ho
    rw [h5]
    rw [ho, h1] at hc
    have HC := Lib.hid hc
    have HR := Lib.hid (implRank_yes n j h6 h3 h7 w hp)
    clear hc ho h1 h2 h3 h4 h5 h6 h7 hp
    go_enter Tryd.func62, Tryd.ntmps62
    go_wp2_with (first | (go_at_call 67; refine (HC.out _).mono ?_; rintro e w' ⟨rfl, rfl⟩) | (go_at_call 68; refine HR.out.mono ?_; rintro e w' ⟨rfl, rfl⟩))
    go_ret2
    exact ⟨rfl, rfl⟩

theorem textOk_at {xs : List Int} (h : textOk xs = true) {k : Nat} (hk : k < xs.length) : charOk (xs[k]?.getD 0) = true := by
  rw [List.getElem?_eq_getElem hk]
  exact List.all_eq_true.1 h xs[k] (List.getElem_mem hk)
theorem textS_get (xs : List Int) (k : Nat) (h : k < (textS xs).size) : (((textS xs)[k]'h).toNat : Int) = charV (xs[k]?.getD 0) := by
  have h1 : k < (textL xs).length := h
  have h2 : k < xs.length := by rw [textL_length] at h1; exact h1
  have e : (textS xs)[k]'h = (textL xs)[k]'h1 := rfl
  rw [e, List.getElem?_eq_getElem h2]
  simp [textL, byteV_int]

theorem l03Compare_any (s t : ByteArray) (xs ys : List Int) (n : Nat) (hs : s.size = n) (ht : t.size = n) (hx : xs.length = n) (hy : ys.length = n) (gs : ∀ k (h : k < s.size), ((s[k]'h).toNat : Int) = charV (xs[k]?.getD 0)) (gt : ∀ k (h : k < t.size), ((t[k]'h).toNat : Int) = charV (ys[k]?.getD 0))
    (ox : textOk xs = true) (oy : textOk ys = true) (hn : n ≤ 1048576) (w : World) :
    Calls Tryd.prog 29 #[.string s, .string t] w fun e w' => e = .returned (.int .i64 (cmpTo xs ys n)) ∧ w = w' := by
  obtain ⟨r, hr⟩ : ∃ r, cmpTo xs ys n = r := ⟨_, rfl⟩
  rw [hr]
  have HR := Lib.hid hr
  have HS := Lib.hid hs
  have HT := Lib.hid ht
  have GS := Lib.hid gs
  have GT := Lib.hid gt
  have OX := Lib.hid ox
  have OY := Lib.hid oy
  have HX := Lib.hid hx
  have HY := Lib.hid hy
  have HK := Lib.hid l03Rank_any
  clear hr hs ht gs gt ox oy hx hy
  go_enter Tryd.func29, Tryd.ntmps29
  go_wp2
  go_loop [5] (fun i => ∃ k : Nat, k ≤ n ∧ i = .int .i64 k ∧ Hid (cmpTo xs ys k = 0)) (fun i => n - (intOf i).toNat)
  case atStart => exact ⟨0, Nat.zero_le _, rfl, rfl⟩
  case round =>
    obtain ⟨k, hk, rfl, HZ⟩ := hrel
    by_cases hlt : k < n
    · have l1 : k < s.size := by rw [HS.out]; exact hlt
      have l2 : k < t.size := by rw [HT.out]; exact hlt
      have l1' : (k : Int) < (s.size : Int) := by omega
      have l2' : (k : Int) < (t.size : Int) := by omega
      obtain ⟨n1, j1, a1, a2, a3, a4, a5, _, _⟩ := rank_of (textOk_at OX.out (k := k) (by rw [HX.out]; exact hlt))
      obtain ⟨n2, j2, b1, b2, b3, b4, b5, _, _⟩ := rank_of (textOk_at OY.out (k := k) (by rw [HY.out]; exact hlt))
      have g1 : ((s[k]'l1).toNat : Int) = n1 := by rw [GS.out k l1, a1]
      have g2 : ((t[k]'l2).toNat : Int) = n2 := by rw [GT.out k l2, b1]
      have k1 := fun W => HK.out n1 a2 W
      have k2 := fun W => HK.out n2 b2 W
      rw [a4] at k1
      rw [b4] at k2
      have K1 := Lib.hid k1
      have K2 := Lib.hid k2
      have HC : Hid (cmpTo xs ys (k + 1) = cmpI j1 j2) := by
        show cmpTo xs ys (k + 1) = _
        rw [cmpTo_step, HZ.out, if_neg (by simp), a5, b5]
      have hst : cmpI j1 j2 ≠ 0 → cmpTo xs ys n = cmpI j1 j2 := fun hne => by
        have := cmpTo_stays xs ys (k + 1) (by rw [HC.out]; exact hne) (n - (k + 1))
        rw [show k + 1 + (n - (k + 1)) = n by omega, HC.out] at this
        exact this
      rw [HR.out] at hst
      have HST := Lib.hid hst
      clear k1 k2 a1 a4 a5 b1 b4 b5 hst GS GT
      rcases Nat.lt_trichotomy j1 j2 with h | h | h
      · obtain rfl : r = -1 := by
          have e : cmpI j1 j2 = -1 := by unfold cmpI; rw [if_pos (by omega)]
          rw [HST.out (by rw [e]; decide), e]
        have h' : (j1 : Int) < (j2 : Int) := by omega
        go_wp2_with (go_at_call 39; (first | (with_reducible refine (K1.out _).mono ?_) | (with_reducible refine (K2.out _).mono ?_)); rintro e w' ⟨rfl, rfl⟩)
        go_ret
        exact ⟨rfl, rfl⟩
      · have HC1 : Hid (cmpTo xs ys (k + 1) = 0) := by
          show cmpTo xs ys (k + 1) = 0
          rw [HC.out]
          unfold cmpI
          rw [if_neg (by omega), if_neg (by omega)]
        subst h
        clear HC HST
        go_wp2_with (go_at_call 39; (first | (with_reducible refine (K1.out _).mono ?_) | (with_reducible refine (K2.out _).mono ?_)); rintro e w' ⟨rfl, rfl⟩)
        go_round
        case rel => exact ⟨k + 1, by omega, by go_num, HC1⟩
        case measure => simp [intOf]; omega
      · obtain rfl : r = 1 := by
          have e : cmpI j1 j2 = 1 := by unfold cmpI; rw [if_neg (by omega), if_pos (by omega)]
          rw [HST.out (by rw [e]; decide), e]
        have h' : (j2 : Int) < (j1 : Int) := by omega
        have h'' : ¬ (j1 : Int) < (j2 : Int) := by omega
        go_wp2_with (go_at_call 39; (first | (with_reducible refine (K1.out _).mono ?_) | (with_reducible refine (K2.out _).mono ?_)); rintro e w' ⟨rfl, rfl⟩)
        go_ret
        exact ⟨rfl, rfl⟩
    · have hkn : k = n := by omega
      have l1 : ¬ (k : Int) < (s.size : Int) := by rw [HS.out]; omega
      obtain rfl : r = 0 := by rw [← HR.out, ← hkn]; exact HZ.out
      clear hkn
      go_wp2
      go_ret
      exact ⟨rfl, rfl⟩

theorem l03Key_any (b off c : Nat) (xs : List Int) (p o i j B : Nat) (w : World) (hp : w.cell? ⟨p, o, none⟩ = some (.slice (some ⟨b, off, none⟩) xs.length c)) (h : Ints w B (some ⟨b, off, none⟩) xs) (hB : B ≤ w.heap.size) (hc : xs.length ≤ c) (hcm : xs.length ≤ 1048576 ∧ c ≤ 9223372036854775807) (hij : i < j) (hj : j ≤ xs.length) :
    Calls Tryd.prog 38 #[.pointer (some ⟨p, o, none⟩), .agg #[.int .i64 i, .int .i64 j]] w fun e w' => e = .returned (.tuple #[.string (if textOk (partOf xs i j) = true then textS (partOf xs i j) else ⟨#[]⟩), .bool (textOk (partOf xs i j))]) ∧ Below w.heap.size w w' := by
  have hp1 := cell_kept hp (below_box w (.cells #[.int .i64 i, .int .i64 j] 36))
  have hlen := partOf_length xs i j hj
  have HP := Lib.hid (h.part i j hij hj)
  obtain ⟨zs, hz⟩ : ∃ zs, partOf xs i j = zs := ⟨_, rfl⟩
  rw [hz] at HP hlen ⊢
  have HL := Lib.hid hlen
  have hpa := fun W hW => l02Part_any b off c xs p o i j W hW hc ⟨by omega, by omega⟩ hij hj
  have HPA := Lib.hid hpa
  obtain ⟨s, hs⟩ : ∃ s, (if textOk zs = true then textS zs else (⟨#[]⟩ : ByteArray)) = s := ⟨_, rfl⟩
  obtain ⟨r, hr⟩ : ∃ r, textOk zs = r := ⟨_, rfl⟩
  have HS := Lib.hid hs
  have HR := Lib.hid hr
  rw [hs, hr]
  clear hz hlen hpa hs hr h
  go_enter Tryd.func38, Tryd.ntmps38
  go_wp2_with fail
  refine (HPA.out _ hp1).mono ?_
  rintro e w1 ⟨rfl, hb⟩
  have B1 := Lib.hid (below_step (below_box w _) hb)
  have ht := l03Text_any (some ⟨b, off + i, none⟩) (c - i) zs B w1 (HP.out.below (B1.out.mono hB)) (Nat.le_trans hB B1.out.size) (by rw [HL.out]; omega) (by rw [HL.out]; omega)
  rw [HL.out, HS.out, HR.out] at ht
  have HT := Lib.hid ht
  clear hb ht HP HPA hp1 HL
  go_wp2_with fail
  refine HT.out.mono ?_
  rintro e w2 ⟨rfl, hb⟩
  have B2 := Lib.hid (below_step B1.out hb)
  clear hb
  go_wp2
  go_ret2
  exact ⟨rfl, B2.out⟩

def cfCode (xs ys : List Int) (a b : Int) : Int := if okB xs = false then 1 else if okB ys = false then 1 else if fieldB a b xs.length = false then 2 else if fieldB a b ys.length = false then 2 else 0

theorem fieldB_yes {i j n : Nat} (hij : i < j) (hj : j ≤ n) : fieldB i j n = true := by
  simp [fieldB]
  omega

theorem fieldB_min (a b : Int) (n m : Nat) : fieldB a b (min (n : Int) (m : Int)) = (fieldB a b n && fieldB a b m) := by
  simp only [fieldB]
  by_cases h0 : 0 ≤ a <;> by_cases h1 : a < b <;> by_cases h2 : b ≤ (n : Int) <;> by_cases h3 : b ≤ (m : Int) <;> simp [h0, h1, h2, h3] <;> omega

theorem part_get (xs : List Int) (i j k : Nat) (h : k < j - i) : (partOf xs i j)[k]?.getD 0 = xs[i + k]?.getD 0 := by
  rw [partOf, List.getElem?_take_of_lt h, List.getElem?_drop]

theorem textOk_bad2 {ps qs : List Int} {k n : Nat} (hp : ps.length = n) (hq : qs.length = n) (hk : k < n) (h : (charOk (ps[k]?.getD 0) && charOk (qs[k]?.getD 0)) = false) : (textOk ps && textOk qs) = false := by
  rw [Bool.and_eq_false_iff] at h ⊢
  rcases h with h | h
  · exact Or.inl (textOk_bad ps k (by omega) h)
  · exact Or.inr (textOk_bad qs k (by omega) h)

end Go.Proofs.YtamookdlbmbncabDoor