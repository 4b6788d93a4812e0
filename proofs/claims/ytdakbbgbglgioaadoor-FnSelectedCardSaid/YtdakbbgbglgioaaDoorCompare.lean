/- The order of fields: spec.l03Compare, cmp.Compare, cmp.Or, impl.rankIn, spec.CompareFields and impl.CompareFields, for cards of at most 1048576 columns and every field: contracts. -/
import Derived.Test.YtdakbbgbglgioaaDoorRead
import Derived.Test.YtdakbbgbglgioaaDoorCmpC
import Derived.Test.YtdakbbgbglgioaaDoorPart
import Derived.Test.YtdakbbgbglgioaaDoorRank
namespace Go.Proofs.YtdakbbgbglgioaaDoor
open Go.ChangeShapes Go.WideShapes Go.ChangeAt Go.RowKit

def rkI (m : Int) : Int := match rankM m with | some j => (j : Int) | none => 0
/-- the first difference among the first k columns -/
def cmpTo (xs ys : List Int) : Nat → Int
  | 0 => 0
  | k + 1 => if cmpTo xs ys k ≠ 0 then cmpTo xs ys k else cmpI (rkI (xs[k]?.getD 0)) (rkI (ys[k]?.getD 0))
theorem cmpTo_step (xs ys : List Int) (k : Nat) : cmpTo xs ys (k + 1) = if cmpTo xs ys k ≠ 0 then cmpTo xs ys k else cmpI (rkI (xs[k]?.getD 0)) (rkI (ys[k]?.getD 0)) := rfl
theorem cmpTo_stays (xs ys : List Int) (k : Nat) (h : cmpTo xs ys k ≠ 0) : ∀ j, cmpTo xs ys (k + j) = cmpTo xs ys k
  | 0 => rfl
  | j + 1 => by rw [← Nat.add_assoc, cmpTo_step, cmpTo_stays xs ys k h j, if_pos h]
theorem cmpTo_le (xs ys : List Int) : ∀ k, -1 ≤ cmpTo xs ys k ∧ cmpTo xs ys k ≤ 1
  | 0 => by simp [cmpTo]
  | k + 1 => by
    have := cmpTo_le xs ys k
    rw [cmpTo_step]
    split
    · exact this
    · unfold cmpI
      split
      · omega
      · split <;> omega

theorem char_one : ∀ i j : Fin 40, charR i.val = charR j.val → i = j := by decide +kernel
theorem rank_of {m : Int} (h : charOk m = true) : ∃ n j : Nat, charV m = n ∧ n ≤ 255 ∧ j < 40 ∧ rankS n = j ∧ rkI m = j ∧ n < 91 ∧ placesL.getD n 0 = (j : Int) + 1 := by
  unfold charOk at h
  cases e : rankM m with
  | none => rw [e] at h; cases h
  | some j =>
    obtain ⟨hj, _, _⟩ := rankM_some e
    have hc := charR_le j
    have hn : ((charR j).toNat : Int) = charR j := by omega
    rcases rank_cases (charR j).toNat (by omega) with ⟨_, h2, _⟩ | ⟨i, hi, h1, h2, _, h4, h5⟩
    · exact absurd hn.symm (h2 j hj)
    · rw [hn] at h2
      have hij : (⟨i, hi⟩ : Fin 40) = ⟨j, hj⟩ := char_one ⟨i, hi⟩ ⟨j, hj⟩ h2
      have hij' : i = j := congrArg Fin.val hij
      subst hij'
      exact ⟨(charR i).toNat, i, by simp [charV, e, hn], by omega, hi, h1, by simp [rkI, e], h4, h5⟩

theorem rankIn_any (m : Int) (w : World) (hp : Places w) :
    Calls Tryd.prog 95 #[.int .i64 m] w fun e w' => e = .returned (.tuple #[.int .i64 (rkI m), .bool (charOk m)]) ∧ w = w' := by
  have hc := fun W => implCharOf_any m W
  cases ho : charOk m
  · have e1 : rkI m = 0 := by
      unfold charOk at ho
      cases e : rankM m with
      | none => simp [rkI, e]
      | some j => rw [e] at ho; cases ho
    rw [e1]
    rw [ho] at hc
    have HC := Lib.hid hc
    clear hc ho e1 hp
    go_enter Tryd.func95, Tryd.ntmps95
    go_wp2_with (go_at_call 98; refine (HC.out _).mono ?_; rintro e w' ⟨rfl, rfl⟩)
    go_ret2
    exact ⟨rfl, rfl⟩
  · obtain ⟨n, j, h1, h2, h3, h4, h5, h6, h7⟩ := rank_of ho
    rw [h5]
    rw [ho, h1] at hc
    have HC := Lib.hid hc
    have HR := Lib.hid (implRank_yes n j h6 h3 h7 w hp)
    clear hc ho h1 h2 h3 h4 h5 h6 h7 hp
    go_enter Tryd.func95, Tryd.ntmps95
    go_wp2_with (first | (go_at_call 98; refine (HC.out _).mono ?_; rintro e w' ⟨rfl, rfl⟩) | (go_at_call 79; refine HR.out.mono ?_; rintro e w' ⟨rfl, rfl⟩))
    go_ret2
    exact ⟨rfl, rfl⟩

theorem textOk_at {xs : List Int} (h : textOk xs = true) {k : Nat} (hk : k < xs.length) : charOk (xs[k]?.getD 0) = true := by
  rw [List.getElem?_eq_getElem hk]
  exact List.all_eq_true.1 h xs[k] (List.getElem_mem hk)
theorem textS_get (xs : List Int) (k : Nat) (h : k < (textS xs).size) : (((textS xs)[k]'h).toNat : Int) = charV (xs[k]?.getD 0) := by
  have h1 : k < (textL xs).length := h
  have h2 : k < xs.length := by rw [textL_length] at h1; exact h1
  have e : (textS xs)[k]'h = (textL xs)[k]'h1 := rfl
  rw [e, List.getElem?_eq_getElem h2]
  simp [textL, byteV_int]

theorem l03Compare_any (s t : ByteArray) (xs ys : List Int) (n : Nat) (hs : s.size = n) (ht : t.size = n) (hx : xs.length = n) (hy : ys.length = n) (gs : ∀ k (h : k < s.size), ((s[k]'h).toNat : Int) = charV (xs[k]?.getD 0)) (gt : ∀ k (h : k < t.size), ((t[k]'h).toNat : Int) = charV (ys[k]?.getD 0))
    (ox : textOk xs = true) (oy : textOk ys = true) (hn : n ≤ 1048576) (w : World) :
    Calls Tryd.prog 49 #[.string s, .string t] w fun e w' => e = .returned (.int .i64 (cmpTo xs ys n)) ∧ w = w' := by
  obtain ⟨r, hr⟩ : ∃ r, cmpTo xs ys n = r := ⟨_, rfl⟩
  rw [hr]
  have HR := Lib.hid hr
  have HS := Lib.hid hs
  have HT := Lib.hid ht
  have GS := Lib.hid gs
  have GT := Lib.hid gt
  have OX := Lib.hid ox
  have OY := Lib.hid oy
  have HX := Lib.hid hx
  have HY := Lib.hid hy
  have HK := Lib.hid l03Rank_any
  clear hr hs ht gs gt ox oy hx hy
  go_enter Tryd.func49, Tryd.ntmps49
  go_wp2
  go_loop [5] (fun i => ∃ k : Nat, k ≤ n ∧ i = .int .i64 k ∧ Hid (cmpTo xs ys k = 0)) (fun i => n - (intOf i).toNat)
  case atStart => exact ⟨0, Nat.zero_le _, rfl, rfl⟩
  case round =>
    obtain ⟨k, hk, rfl, HZ⟩ := hrel
    by_cases hlt : k < n
    · have l1 : k < s.size := by rw [HS.out]; exact hlt
      have l2 : k < t.size := by rw [HT.out]; exact hlt
      have l1' : (k : Int) < (s.size : Int) := by omega
      have l2' : (k : Int) < (t.size : Int) := by omega
      obtain ⟨n1, j1, a1, a2, a3, a4, a5, _, _⟩ := rank_of (textOk_at OX.out (k := k) (by rw [HX.out]; exact hlt))
      obtain ⟨n2, j2, b1, b2, b3, b4, b5, _, _⟩ := rank_of (textOk_at OY.out (k := k) (by rw [HY.out]; exact hlt))
      have g1 : ((s[k]'l1).toNat : Int) = n1 := by rw [GS.out k l1, a1]
      have g2 : ((t[k]'l2).toNat : Int) = n2 := by rw [GT.out k l2, b1]
      have k1 := fun W => HK.out n1 a2 W
      have k2 := fun W => HK.out n2 b2 W
      rw [a4] at k1
      rw [b4] at k2
      have K1 := Lib.hid k1
      have K2 := Lib.hid k2
      have HC : Hid (cmpTo xs ys (k + 1) = cmpI j1 j2) := by
        show cmpTo xs ys (k + 1) = _
        rw [cmpTo_step, HZ.out, if_neg (by simp), a5, b5]
      have hst : cmpI j1 j2 ≠ 0 → cmpTo xs ys n = cmpI j1 j2 := fun hne => by
        have := cmpTo_stays xs ys (k + 1) (by rw [HC.out]; exact hne) (n - (k + 1))
        rw [show k + 1 + (n - (k + 1)) = n by omega, HC.out] at this
        exact this
      rw [HR.out] at hst
      have HST := Lib.hid hst
      clear k1 k2 a1 a4 a5 b1 b4 b5 hst GS GT
      rcases Nat.lt_trichotomy j1 j2 with h | h | h
      · obtain rfl : r = -1 := by
          have e : cmpI j1 j2 = -1 := by unfold cmpI; rw [if_pos (by omega)]
          rw [HST.out (by rw [e]; decide), e]
        have h' : (j1 : Int) < (j2 : Int) := by omega
        go_wp2_with (go_at_call 76; (first | (with_reducible refine (K1.out _).mono ?_) | (with_reducible refine (K2.out _).mono ?_)); rintro e w' ⟨rfl, rfl⟩)
        go_ret
        exact ⟨rfl, rfl⟩
      · have HC1 : Hid (cmpTo xs ys (k + 1) = 0) := by
          show cmpTo xs ys (k + 1) = 0
          rw [HC.out]
          unfold cmpI
          rw [if_neg (by omega), if_neg (by omega)]
        subst h
        clear HC HST
        go_wp2_with (go_at_call 76; (first | (with_reducible refine (K1.out _).mono ?_) | (with_reducible refine (K2.out _).mono ?_)); rintro e w' ⟨rfl, rfl⟩)
        go_round
        case rel => exact ⟨k + 1, by omega, by go_num, HC1⟩
        case measure => simp [intOf]; omega
      · obtain rfl : r = 1 := by
          have e : cmpI j1 j2 = 1 := by unfold cmpI; rw [if_neg (by omega), if_pos (by omega)]
          rw [HST.out (by rw [e]; decide), e]
        have h' : (j2 : Int) < (j1 : Int) := by omega
        have h'' : ¬ (j1 : Int) < (j2 : Int) := by omega
        go_wp2_with (go_at_call 76; (first | (with_reducible refine (K1.out _).mono ?_) | (with_reducible refine (K2.out _).mono ?_)); rintro e w' ⟨rfl, rfl⟩)
        go_ret
        exact ⟨rfl, rfl⟩
    · have hkn : k = n := by omega
      have l1 : ¬ (k : Int) < (s.size : Int) := by rw [HS.out]; omega
      obtain rfl : r = 0 := by rw [← HR.out, ← hkn]; exact HZ.out
      clear hkn
      go_wp2
      go_ret
      exact ⟨rfl, rfl⟩

theorem l03Key_any (b off c : Nat) (xs : List Int) (p o i j B : Nat) (w : World) (hp : w.cell? ⟨p, o, none⟩ = some (.slice (some ⟨b, off, none⟩) xs.length c)) (h : Ints w B (some ⟨b, off, none⟩) xs) (hB : B ≤ w.heap.size) (hc : xs.length ≤ c) (hcm : xs.length ≤ 1048576 ∧ c ≤ 9223372036854775807) (hij : i < j) (hj : j ≤ xs.length) :
    Calls Tryd.prog 48 #[.pointer (some ⟨p, o, none⟩), .agg #[.int .i64 i, .int .i64 j]] w fun e w' => e = .returned (.tuple #[.string (if textOk (partOf xs i j) = true then textS (partOf xs i j) else ⟨#[]⟩), .bool (textOk (partOf xs i j))]) ∧ Below w.heap.size w w' := by
  have hp1 := cell_kept hp (below_box w (.cells #[.int .i64 i, .int .i64 j] 26))
  have hlen := partOf_length xs i j hj
  have HP := Lib.hid (h.part i j hij hj)
  obtain ⟨zs, hz⟩ : ∃ zs, partOf xs i j = zs := ⟨_, rfl⟩
  rw [hz] at HP hlen ⊢
  have HL := Lib.hid hlen
  have hpa := fun W hW => l02Part_any b off c xs p o i j W hW hc ⟨by omega, by omega⟩ hij hj
  have HPA := Lib.hid hpa
  obtain ⟨s, hs⟩ : ∃ s, (if textOk zs = true then textS zs else (⟨#[]⟩ : ByteArray)) = s := ⟨_, rfl⟩
  obtain ⟨r, hr⟩ : ∃ r, textOk zs = r := ⟨_, rfl⟩
  have HS := Lib.hid hs
  have HR := Lib.hid hr
  rw [hs, hr]
  clear hz hlen hpa hs hr h
  go_enter Tryd.func48, Tryd.ntmps48
  go_wp2_with fail
  refine (HPA.out _ hp1).mono ?_
  rintro e w1 ⟨rfl, hb⟩
  have B1 := Lib.hid (below_step (below_box w _) hb)
  have ht := l03Text_any (some ⟨b, off + i, none⟩) (c - i) zs B w1 (HP.out.below (B1.out.mono hB)) (Nat.le_trans hB B1.out.size) (by rw [HL.out]; omega) (by rw [HL.out]; omega)
  rw [HL.out, HS.out, HR.out] at ht
  have HT := Lib.hid ht
  clear hb ht HP HPA hp1 HL
  go_wp2_with fail
  refine HT.out.mono ?_
  rintro e w2 ⟨rfl, hb⟩
  have B2 := Lib.hid (below_step B1.out hb)
  clear hb
  go_wp2
  go_ret2
  exact ⟨rfl, B2.out⟩

def cfCode (xs ys : List Int) (a b : Int) : Int := if okB xs = false then 1 else if okB ys = false then 1 else if fieldB a b xs.length = false then 2 else if fieldB a b ys.length = false then 2 else 0

theorem fieldB_yes {i j n : Nat} (hij : i < j) (hj : j ≤ n) : fieldB i j n = true := by
  simp [fieldB]
  omega

theorem specCmp_invalid (A A' : Option Addr) (c c' : Nat) (xs ys : List Int) (B B' : Nat) (a b : Int) (w : World) (h : Ints w B A xs) (h' : Ints w B' A' ys) (hB : B ≤ w.heap.size) (hB' : B' ≤ w.heap.size) (hn : xs.length ≤ 1048576) (hn' : ys.length ≤ 1048576) (e : okB xs = false ∨ okB ys = false) :
    Calls Tryd.prog 16 #[.agg #[.slice A xs.length c], .agg #[.slice A' ys.length c'], .agg #[.int .i64 a, .int .i64 b]] w fun e w' => e = .returned (.tuple #[.int .i64 0, .int .i64 1]) ∧ Below w.heap.size w w' := by
  have hb := ((below_box w (.cells #[.slice A xs.length c] 36)).alloc (by simp) (.cells #[.slice A' ys.length c'] 36)).alloc (by simp; omega) (.cells #[.int .i64 a, .int .i64 b] 26)
  have o1 := l02Ok_any A c xs B w.heap.size 0 (((w.alloc (.cells #[.slice A xs.length c] 36)).alloc (.cells #[.slice A' ys.length c'] 36)).alloc (.cells #[.int .i64 a, .int .i64 b] 26)) (by simp [go_sem]) (h.below (hb.mono hB)) hn
  have o2 := l02Ok_any A' c' ys B' (w.heap.size + 1) 0 (((w.alloc (.cells #[.slice A xs.length c] 36)).alloc (.cells #[.slice A' ys.length c'] 36)).alloc (.cells #[.int .i64 a, .int .i64 b] 26)) (by simp [go_sem]) (h'.below (hb.mono hB')) hn'
  have HB := Lib.hid hb
  cases hx : okB xs
  · rw [hx] at o1
    have O1 := Lib.hid o1
    clear o1 o2 hx e hb h h'
    go_enter Tryd.func16, Tryd.ntmps16
    go_wp2_with (go_at_call 46; (with_reducible refine O1.out.mono ?_); rintro e w' ⟨rfl, rfl⟩)
    go_ret2
    exact ⟨rfl, HB.out⟩
  · have hy : okB ys = false := by rcases e with e | e; · rw [hx] at e; cases e
                                   · exact e
    rw [hx] at o1
    rw [hy] at o2
    have O1 := Lib.hid o1
    have O2 := Lib.hid o2
    clear o1 o2 hx hy e hb h h'
    go_enter Tryd.func16, Tryd.ntmps16
    go_wp2_with (go_at_call 46; (first | (with_reducible refine O1.out.mono ?_) | (with_reducible refine O2.out.mono ?_)); rintro e w' ⟨rfl, rfl⟩)
    go_ret2
    exact ⟨rfl, HB.out⟩

theorem specCmp_range (A A' : Option Addr) (c c' : Nat) (xs ys : List Int) (B B' : Nat) (a b : Int) (w : World) (h : Ints w B A xs) (h' : Ints w B' A' ys) (hB : B ≤ w.heap.size) (hB' : B' ≤ w.heap.size) (hn : xs.length ≤ 1048576) (hn' : ys.length ≤ 1048576) (hx : okB xs = true) (hy : okB ys = true) (e : fieldB a b xs.length = false ∨ fieldB a b ys.length = false) :
    Calls Tryd.prog 16 #[.agg #[.slice A xs.length c], .agg #[.slice A' ys.length c'], .agg #[.int .i64 a, .int .i64 b]] w fun e w' => e = .returned (.tuple #[.int .i64 0, .int .i64 2]) ∧ Below w.heap.size w w' := by
  have hb := ((below_box w (.cells #[.slice A xs.length c] 36)).alloc (by simp) (.cells #[.slice A' ys.length c'] 36)).alloc (by simp; omega) (.cells #[.int .i64 a, .int .i64 b] 26)
  have o1 := l02Ok_any A c xs B w.heap.size 0 (((w.alloc (.cells #[.slice A xs.length c] 36)).alloc (.cells #[.slice A' ys.length c'] 36)).alloc (.cells #[.int .i64 a, .int .i64 b] 26)) (by simp [go_sem]) (h.below (hb.mono hB)) hn
  have o2 := l02Ok_any A' c' ys B' (w.heap.size + 1) 0 (((w.alloc (.cells #[.slice A xs.length c] 36)).alloc (.cells #[.slice A' ys.length c'] 36)).alloc (.cells #[.int .i64 a, .int .i64 b] 26)) (by simp [go_sem]) (h'.below (hb.mono hB')) hn'
  have HB := Lib.hid hb
  rw [hx] at o1
  rw [hy] at o2
  have O1 := Lib.hid o1
  have O2 := Lib.hid o2
  have f1 := fun W => l02Field_any a b xs.length W
  have f2 := fun W => l02Field_any a b ys.length W
  have E := Lib.hid e
  obtain ⟨n, hN⟩ : ∃ n, xs.length = n := ⟨_, rfl⟩
  obtain ⟨m, hM⟩ : ∃ m, ys.length = m := ⟨_, rfl⟩
  rw [hN] at O1 O2 f1 E HB ⊢
  rw [hM] at O1 O2 f2 E HB ⊢
  clear o1 o2 hx hy e hb h h' hN hM hn hn'
  cases h1 : fieldB a b n
  · rw [h1] at f1
    have F1 := Lib.hid f1
    clear f1 f2 h1 E
    go_enter Tryd.func16, Tryd.ntmps16
    go_wp2_with (go_at_call 46; (first | (with_reducible refine O1.out.mono ?_) | (with_reducible refine O2.out.mono ?_)); rintro e w' ⟨rfl, rfl⟩)
    refine (F1.out _).mono ?_
    rintro e w1 ⟨rfl, hb⟩
    have B1 := Lib.hid (below_step HB.out hb)
    clear hb
    go_wp2
    go_ret2
    exact ⟨rfl, B1.out⟩
  · have h2 : fieldB a b m = false := by
      rcases E.out with e | e
      · rw [h1] at e; cases e
      · exact e
    rw [h1] at f1
    rw [h2] at f2
    have F1 := Lib.hid f1
    have F2 := Lib.hid f2
    clear f1 f2 h1 h2 E
    go_enter Tryd.func16, Tryd.ntmps16
    go_wp2_with (go_at_call 46; (first | (with_reducible refine O1.out.mono ?_) | (with_reducible refine O2.out.mono ?_)); rintro e w' ⟨rfl, rfl⟩)
    refine (F1.out _).mono ?_
    rintro e w1 ⟨rfl, hb⟩
    have B1 := Lib.hid (below_step HB.out hb)
    have k1 := cell_kept (p := ⟨w.heap.size + 1, 0, none⟩) (v := .slice A' m c') (by simp [go_sem]) hb
    have k2 := cell_kept (p := ⟨w.heap.size + 2, 0, none⟩) (v := .int .i64 a) (by simp [go_sem]) hb
    have k3 := cell_kept (p := ⟨w.heap.size + 2, 1, none⟩) (v := .int .i64 b) (by simp [go_sem]) hb
    clear hb
    go_wp2_with fail
    refine (F2.out _).mono ?_
    rintro e w2 ⟨rfl, hb⟩
    have B2 := Lib.hid (below_step B1.out hb)
    clear hb
    go_wp2
    go_ret2
    exact ⟨rfl, B2.out⟩

theorem specCmp_good (b off c b' off' c' : Nat) (xs ys : List Int) (B B' i j : Nat) (w : World) (h : Ints w B (some ⟨b, off, none⟩) xs) (h' : Ints w B' (some ⟨b', off', none⟩) ys) (hB : B ≤ w.heap.size) (hB' : B' ≤ w.heap.size) (hc : xs.length ≤ c) (hcm : xs.length ≤ 1048576 ∧ c ≤ 9223372036854775807) (hc' : ys.length ≤ c') (hcm' : ys.length ≤ 1048576 ∧ c' ≤ 9223372036854775807)
    (hij : i < j) (hj : j ≤ xs.length) (hj' : j ≤ ys.length) (hx : okB xs = true) (hy : okB ys = true) :
    Calls Tryd.prog 16 #[.agg #[.slice (some ⟨b, off, none⟩) xs.length c], .agg #[.slice (some ⟨b', off', none⟩) ys.length c'], .agg #[.int .i64 i, .int .i64 j]] w fun e w' =>
      e = .returned (.tuple #[.int .i64 (if (textOk (partOf xs i j) && textOk (partOf ys i j)) = true then cmpTo (partOf xs i j) (partOf ys i j) (j - i) else 0), .int .i64 (if (textOk (partOf xs i j) && textOk (partOf ys i j)) = true then 0 else 8)]) ∧ Below w.heap.size w w' := by
  have hb := ((below_box w (.cells #[.slice (some ⟨b, off, none⟩) xs.length c] 36)).alloc (by simp) (.cells #[.slice (some ⟨b', off', none⟩) ys.length c'] 36)).alloc (by simp; omega) (.cells #[.int .i64 i, .int .i64 j] 26)
  have H0 := Lib.hid (h.below (hb.mono hB))
  have H0' := Lib.hid (h'.below (hb.mono hB'))
  have o1 := l02Ok_any (some ⟨b, off, none⟩) c xs B w.heap.size 0 (((w.alloc (.cells #[.slice (some ⟨b, off, none⟩) xs.length c] 36)).alloc (.cells #[.slice (some ⟨b', off', none⟩) ys.length c'] 36)).alloc (.cells #[.int .i64 i, .int .i64 j] 26)) (by simp [go_sem]) (h.below (hb.mono hB)) (by omega)
  have o2 := l02Ok_any (some ⟨b', off', none⟩) c' ys B' (w.heap.size + 1) 0 (((w.alloc (.cells #[.slice (some ⟨b, off, none⟩) xs.length c] 36)).alloc (.cells #[.slice (some ⟨b', off', none⟩) ys.length c'] 36)).alloc (.cells #[.int .i64 i, .int .i64 j] 26)) (by simp [go_sem]) (h'.below (hb.mono hB')) (by omega)
  have HB := Lib.hid hb
  rw [hx] at o1
  rw [hy] at o2
  have O1 := Lib.hid o1
  have O2 := Lib.hid o2
  have f1 := fun W => l02Field_any i j xs.length W
  have f2 := fun W => l02Field_any i j ys.length W
  rw [fieldB_yes hij hj] at f1
  rw [fieldB_yes hij hj'] at f2
  have F1 := Lib.hid f1
  have F2 := Lib.hid f2
  have L1 := Lib.hid (partOf_length xs i j hj)
  have L2 := Lib.hid (partOf_length ys i j hj')
  have hsz := hb.size
  have key1 := fun W hp hI hBW => l03Key_any b off c xs w.heap.size 0 i j B W hp hI hBW hc hcm hij hj
  have key2 := fun W hp hI hBW => l03Key_any b' off' c' ys (w.heap.size + 1) 0 i j B' W hp hI hBW hc' hcm' hij hj'
  obtain ⟨ps, hps⟩ : ∃ ps, partOf xs i j = ps := ⟨_, rfl⟩
  obtain ⟨qs, hqs⟩ : ∃ qs, partOf ys i j = qs := ⟨_, rfl⟩
  rw [hps] at L1 key1 ⊢
  rw [hqs] at L2 key2 ⊢
  obtain ⟨n, hn⟩ : ∃ n, j - i = n := ⟨_, rfl⟩
  rw [hn] at L1 L2 ⊢
  have hn1 : n ≤ 1048576 := by omega
  obtain ⟨r1, hr1⟩ : ∃ r1, textOk ps = r1 := ⟨_, rfl⟩
  obtain ⟨r2, hr2⟩ : ∃ r2, textOk qs = r2 := ⟨_, rfl⟩
  obtain ⟨s1, hs1⟩ : ∃ s1, (if r1 = true then textS ps else (⟨#[]⟩ : ByteArray)) = s1 := ⟨_, rfl⟩
  obtain ⟨s2, hs2⟩ : ∃ s2, (if r2 = true then textS qs else (⟨#[]⟩ : ByteArray)) = s2 := ⟨_, rfl⟩
  rw [hr1, hs1] at key1
  rw [hr2, hs2] at key2
  rw [hr1, hr2]
  have hcmp : r1 = true → r2 = true → ∀ W, Calls Tryd.prog 49 #[.string s1, .string s2] W fun e w' => e = .returned (.int .i64 (cmpTo ps qs n)) ∧ W = w' := by
    rintro rfl rfl W
    rw [if_pos rfl] at hs1 hs2
    subst hs1 hs2
    exact l03Compare_any (textS ps) (textS qs) ps qs n (by show (textL ps).length = n; rw [textL_length]; exact L1.out) (by show (textL qs).length = n; rw [textL_length]; exact L2.out) L1.out L2.out (textS_get ps) (textS_get qs) hr1 hr2 hn1 W
  obtain ⟨v, hv⟩ : ∃ v, cmpTo ps qs n = v := ⟨_, rfl⟩
  rw [hv] at hcmp ⊢
  have HC := Lib.hid hcmp
  have KEY1 := Lib.hid key1
  have KEY2 := Lib.hid key2
  clear o1 o2 hb h h' f1 f2 hx hy key1 key2 hps hqs hn hr1 hr2 hs1 hs2 hcmp hv L1 L2
  go_enter Tryd.func16, Tryd.ntmps16
  go_wp2_with (go_at_call 46; (first | (with_reducible refine O1.out.mono ?_) | (with_reducible refine O2.out.mono ?_)); rintro e w' ⟨rfl, rfl⟩)
  refine (F1.out _).mono ?_
  rintro e w1 ⟨rfl, hb⟩
  have B1 := Lib.hid (below_step HB.out hb)
  have k0 := cell_kept (p := ⟨w.heap.size, 0, none⟩) (v := .slice (some ⟨b, off, none⟩) xs.length c) (by simp [go_sem]) hb
  have k1 := cell_kept (p := ⟨w.heap.size + 1, 0, none⟩) (v := .slice (some ⟨b', off', none⟩) ys.length c') (by simp [go_sem]) hb
  have k2 := cell_kept (p := ⟨w.heap.size + 2, 0, none⟩) (v := .int .i64 i) (by simp [go_sem]) hb
  have k3 := cell_kept (p := ⟨w.heap.size + 2, 1, none⟩) (v := .int .i64 j) (by simp [go_sem]) hb
  have H1 := Lib.hid (H0.out.below (hb.mono (Nat.le_trans hB hsz)))
  have H1' := Lib.hid (H0'.out.below (hb.mono (Nat.le_trans hB' hsz)))
  clear hb H0 H0' O1 O2 HB
  go_wp2_with fail
  refine (F2.out _).mono ?_
  rintro e w2 ⟨rfl, hb⟩
  have B2 := Lib.hid (below_step B1.out hb)
  have m0 := cell_kept k0 hb
  have m1 := cell_kept k1 hb
  have m2 := cell_kept k2 hb
  have m3 := cell_kept k3 hb
  have H2 := Lib.hid (H1.out.below (hb.mono (Nat.le_trans hB B1.out.size)))
  have H2' := Lib.hid (H1'.out.below (hb.mono (Nat.le_trans hB' B1.out.size)))
  clear hb k0 k1 k2 k3 H1 H1' B1 F1 F2
  go_wp2_with fail
  refine (KEY1.out w2 m0 H2.out (Nat.le_trans hB B2.out.size)).mono ?_
  rintro e w3 ⟨rfl, hb⟩
  have B3 := Lib.hid (below_step B2.out hb)
  have n1 := cell_kept m1 hb
  have n2 := cell_kept m2 hb
  have n3 := cell_kept m3 hb
  have H3' := Lib.hid (H2'.out.below (hb.mono (Nat.le_trans hB' B2.out.size)))
  clear hb m0 m1 m2 m3 H2 H2' B2
  go_wp2_with fail
  refine (KEY2.out w3 n1 H3'.out (Nat.le_trans hB' B3.out.size)).mono ?_
  rintro e w4 ⟨rfl, hb⟩
  have B4 := Lib.hid (below_step B3.out hb)
  clear hb n1 n2 n3 H3' B3
  clear KEY1 KEY2
  cases r1
  · go_wp2
    go_ret2
    exact ⟨rfl, B4.out⟩
  · cases r2
    · go_wp2
      go_ret2
      exact ⟨rfl, B4.out⟩
    · have HC' := Lib.hid (HC.out rfl rfl)
      clear HC
      go_wp2_with (go_at_call 49; go_loud (refine (HC'.out _).mono ?_; rintro e w' ⟨rfl, rfl⟩))
      go_ret2
      exact ⟨rfl, B4.out⟩

theorem fieldB_min (a b : Int) (n m : Nat) : fieldB a b (min (n : Int) (m : Int)) = (fieldB a b n && fieldB a b m) := by
  simp only [fieldB]
  by_cases h0 : 0 ≤ a <;> by_cases h1 : a < b <;> by_cases h2 : b ≤ (n : Int) <;> by_cases h3 : b ≤ (m : Int) <;> simp [h0, h1, h2, h3] <;> omega

theorem part_get (xs : List Int) (i j k : Nat) (h : k < j - i) : (partOf xs i j)[k]?.getD 0 = xs[i + k]?.getD 0 := by
  rw [partOf, List.getElem?_take_of_lt h, List.getElem?_drop]

theorem textOk_bad2 {ps qs : List Int} {k n : Nat} (hp : ps.length = n) (hq : qs.length = n) (hk : k < n) (h : (charOk (ps[k]?.getD 0) && charOk (qs[k]?.getD 0)) = false) : (textOk ps && textOk qs) = false := by
  rw [Bool.and_eq_false_iff] at h ⊢
  rcases h with h | h
  · exact Or.inl (textOk_bad ps k (by omega) h)
  · exact Or.inr (textOk_bad qs k (by omega) h)

end Go.Proofs.YtdakbbgbglgioaaDoor