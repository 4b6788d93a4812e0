/- slices.swapRangeCmpFunc and rotateCmpFunc at int64 exchange two stretches of a list: contracts. -/
import Derived.Test.YtmmppflaacabbaaDoorSymMath
import Derived.Test.YtmmppflaacabbaaDoorM1
import Derived.IntWalk
import Derived.BigRegion
import Derived.Outline
namespace Go.Proofs.YtmmppflaacabbaaDoor
open Go.ChangeShapes Go.WideShapes Go.ChangeAt Go.RowKit

theorem Row.swap {w : World} {g : Nat} {A B C : List Int} {x y : Int} {ex : List Value} (h : Row w g (A ++ x :: (B ++ y :: C)) ex) :
    Row ((w.setCell ⟨g, A.length, none⟩ (.int .i64 y)).setCell ⟨g, A.length + 1 + B.length, none⟩ (.int .i64 x)) g (A ++ y :: (B ++ x :: C)) ex := by
  have h1 := h.set (i := A.length) (by simp) y
  have h2 := h1.set (i := A.length + 1 + B.length) (by simp; omega) x
  rw [swap_at] at h2
  exact h2
theorem Row.swap' {w : World} {g : Nat} {A B C : List Int} {x y : Int} {ex : List Value} (h : Row w g (A ++ x :: (B ++ y :: C)) ex) :
    Row ((w.setCell ⟨g, A.length + 1 + B.length, none⟩ (.int .i64 x)).setCell ⟨g, A.length, none⟩ (.int .i64 y)) g (A ++ y :: (B ++ x :: C)) ex := by
  have h1 := h.set (i := A.length + 1 + B.length) (by simp; omega) x
  have h2 := h1.set (i := A.length) (by simp) y
  have e : ((A ++ x :: (B ++ y :: C)).set (A.length + 1 + B.length) x).set A.length y = A ++ y :: (B ++ x :: C) := by
    rw [List.set_comm _ _ (by omega), swap_at]
  rw [e] at h2
  exact h2
theorem only_swap {w wr : World} {g : Nat} (h : w.grownBy wr (some g)) (i j : Nat) (u v : Value) : w.grownBy ((wr.setCell ⟨g, i, none⟩ u).setCell ⟨g, j, none⟩ v) (some g) := only_step h (only_step (only_set wr g i u) (only_set _ g j v))

theorem only_drew {a w : World} {row : Option Nat} (h : a.grownBy w row) : a.grownBy w.drew row := ⟨h.os, h.tape, h.output, h.size, h.block⟩
/-- what the stretch holds after i rounds -/
theorem stretch_step {U V : List Int} {i : Nat} {u v : Int} (hu : U[i]? = some u) (hv : V[i]? = some v) :
    V.take i ++ U.drop i = V.take i ++ u :: U.drop (i + 1) ∧ U.take i ++ V.drop i = U.take i ++ v :: V.drop (i + 1) ∧ V.take (i + 1) ++ U.drop (i + 1) = V.take i ++ v :: U.drop (i + 1) ∧ U.take (i + 1) ++ V.drop (i + 1) = U.take i ++ u :: V.drop (i + 1) := by
  obtain ⟨h1, e1⟩ := List.getElem?_eq_some_iff.1 hu
  obtain ⟨h2, e2⟩ := List.getElem?_eq_some_iff.1 hv
  refine ⟨?_, ?_, ?_, ?_⟩
  · rw [List.drop_eq_getElem_cons h1, e1]
  · rw [List.drop_eq_getElem_cons h2, e2]
  · rw [List.take_succ_eq_append_getElem h2, e2, List.append_assoc]; rfl
  · rw [List.take_succ_eq_append_getElem h1, e1, List.append_assoc]; rfl

set_option maxRecDepth 100000 in
set_option maxHeartbeats 2000000 in
theorem swapRange_any (g n c a b k : Nat) (fn : Value) (X U Y V Z : List Int) (ex : List Value) (w : World) (h : Row w g (X ++ (U ++ (Y ++ (V ++ Z)))) ex) (ha : X.length = a) (hb : X.length + U.length + Y.length = b) (hk : U.length = k) (hk' : V.length = k) (hn : X.length + U.length + Y.length + V.length + Z.length = n) (hn2 : n ≤ 1048576) :
    Calls Tryd.prog 158 #[.slice (some ⟨g, 0, none⟩) n c, .int .i64 a, .int .i64 b, .int .i64 k, fn] w fun e w' => e = .returned (.tuple #[]) ∧ w.grownBy w' (some g) ∧ Row w' g (X ++ (V ++ (Y ++ (U ++ Z)))) ex := by
  have H := Lib.hid h
  have HA := Lib.hid ha
  have HB := Lib.hid hb
  have HK := Lib.hid hk
  have HK' := Lib.hid hk'
  have HN := Lib.hid hn
  have b1 : a + k ≤ n := by omega
  have b2 : b + k ≤ n := by omega
  clear h ha hb hk hk' hn
  go_enter Tryd.func158, Tryd.ntmps158
  go_wp2
  go_loopw [10] (fun v wr => ∃ i : Nat, i ≤ k ∧ v = .int .i64 i ∧ Hid (w.grownBy wr (some g)) ∧ Hid (Row wr g (X ++ ((V.take i ++ U.drop i) ++ (Y ++ ((U.take i ++ V.drop i) ++ Z)))) ex)) (fun v _ => k - (intOf v).toNat)
  case atStart => exact ⟨0, Nat.zero_le _, rfl, World.grownBy.refl _ _, by show Row _ _ _ _; simpa using H.out⟩
  case round =>
    obtain ⟨i, hi, rfl, HG, HR⟩ := hrel
    have i0 : (0 : Int) ≤ (i : Int) := Int.natCast_nonneg _
    by_cases hlt : i < k
    · obtain ⟨u, hu⟩ : ∃ u, U[i]? = some u := ⟨U[i]'(by rw [HK.out]; exact hlt), List.getElem?_eq_getElem _⟩
      obtain ⟨v, hv⟩ : ∃ v, V[i]? = some v := ⟨V[i]'(by rw [HK'.out]; exact hlt), List.getElem?_eq_getElem _⟩
      obtain ⟨e1, e2, e3, e4⟩ := stretch_step hu hv
      have hr := HR.out
      rw [e1, e2] at hr
      have hlv : (V.take i).length = i := by rw [List.length_take, HK'.out]; omega
      have hlu : (U.take i).length = i := by rw [List.length_take, HK.out]; omega
      have hld : (U.drop (i + 1)).length = k - (i + 1) := by rw [List.length_drop, HK.out]
      have hr2 : Row wr g ((X ++ V.take i) ++ u :: ((U.drop (i + 1) ++ Y ++ U.take i) ++ v :: (V.drop (i + 1) ++ Z))) ex := by
        simpa [List.append_assoc] using hr
      have hsw := hr2.swap
      have hsw' := hr2.swap'
      have la : (X ++ V.take i).length = a + i := by rw [List.length_append, hlv, HA.out]
      have lb : (X ++ V.take i).length + 1 + (U.drop (i + 1) ++ Y ++ U.take i).length = b + i := by
        rw [la, List.length_append, List.length_append, hld, hlu]
        have h1 := HB.out
        have h2 := HK.out
        have h3 := HA.out
        omega
      have g1 := get_mid (X ++ V.take i) ((U.drop (i + 1) ++ Y ++ U.take i) ++ v :: (V.drop (i + 1) ++ Z)) u
      have g2 := get_mid2 (X ++ V.take i) (U.drop (i + 1) ++ Y ++ U.take i) (V.drop (i + 1) ++ Z) u v
      rw [lb] at hsw hsw' g2
      rw [la] at hsw hsw' g1
      have hll : ∀ L : List Int, ∀ j x, L[j]? = some x → j < L.length := fun L j x hx => (List.getElem?_eq_some_iff.1 hx).1
      have c1 := hr2.cell (hll _ _ _ g1)
      have c2 := hr2.cell (hll _ _ _ g2)
      rw [g1] at c1
      rw [g2] at c2
      have f1 := hr2.frozen (a + i)
      have f2 := hr2.frozen (b + i)
      have HE : Hid ((X ++ V.take i) ++ v :: ((U.drop (i + 1) ++ Y ++ U.take i) ++ u :: (V.drop (i + 1) ++ Z)) = X ++ ((V.take (i + 1) ++ U.drop (i + 1)) ++ (Y ++ ((U.take (i + 1) ++ V.drop (i + 1)) ++ Z)))) := by
        show _ = _
        rw [e3, e4]
        simp [List.append_assoc]
      rw [HE.out] at hsw hsw'
      have hpq : a + i < b + i := by
        have h1 := HB.out
        have h2 := HK.out
        have h3 := HA.out
        omega
      have x1 : IntKind.i64.wrap ((a : Int) + (i : Int)) = ((a + i : Nat) : Int) := by rw [IntWalk.i64_in _ (by omega)]; omega
      have x2 : IntKind.i64.wrap ((b : Int) + (i : Int)) = ((b + i : Nat) : Int) := by rw [IntWalk.i64_in _ (by omega)]; omega
      have y1 : a + i < n := by omega
      have y2 : b + i < n := by omega
      obtain ⟨p, hp⟩ : ∃ p, a + i = p := ⟨_, rfl⟩
      obtain ⟨q, hq⟩ : ∃ q, b + i = q := ⟨_, rfl⟩
      rw [hp] at x1 c1 f1 hsw hsw' y1 hpq
      rw [hq] at x2 c2 f2 hsw hsw' y2 hpq
      have c1' : wr.cell? ⟨g, p, none⟩ = some (.int .i64 u) := c1
      have c2' : wr.cell? ⟨g, q, none⟩ = some (.int .i64 v) := c2
      have n1 : ¬ p = q := by omega
      have n2 : ¬ q = p := by omega
      have HS := Lib.hid hsw
      have HS' := Lib.hid hsw'
      have z1 : (p : Int) < (n : Int) := by omega
      have z2 : (q : Int) < (n : Int) := by omega
      have z3 : (0 : Int) ≤ (p : Int) := Int.natCast_nonneg _
      have z4 : (0 : Int) ≤ (q : Int) := Int.natCast_nonneg _
      have k1 : (i : Int) < (k : Int) := by omega
      clear hp hq
      clear hu hv e1 e2 e3 e4 hr hlv hlu hld hr2 hsw hsw' la lb g1 g2 hll c1 c2
      go_wp2_with fail
      go_big_region
      all_goals
        go_wp2
        go_roundw
        case rel => exact ⟨i + 1, by omega, by go_num, only_drew (only_swap HG.out p q _ _), HS.out.drew⟩
        case measure => simp [intOf]; omega
    · have k1 : ¬ (i : Int) < (k : Int) := by omega
      have HF : Hid (Row wr g (X ++ (V ++ (Y ++ (U ++ Z)))) ex) := by
        show Row _ _ _ _
        have := HR.out
        rw [List.take_of_length_le (l := V) (by rw [HK'.out]; omega), List.take_of_length_le (l := U) (by rw [HK.out]; omega), List.drop_of_length_le (l := V) (by rw [HK'.out]; omega), List.drop_of_length_le (l := U) (by rw [HK.out]; omega), List.append_nil, List.append_nil] at this
        exact this
      go_wp2
      go_end0
      exact ⟨rfl, HG.out, HF.out⟩

theorem split_len {L : List Int} (k : Nat) (h : k ≤ L.length) : ∃ A B, L = A ++ B ∧ A.length = k ∧ B.length = L.length - k := ⟨L.take k, L.drop k, (List.take_append_drop k L).symm, by simp; omega, by simp⟩

set_option maxRecDepth 100000 in
set_option maxHeartbeats 2000000 in
theorem rotate_any (g n c a m b : Nat) (fn : Value) (X U V Z : List Int) (ex : List Value) (w : World) (h : Row w g (X ++ (U ++ (V ++ Z))) ex) (ha : X.length = a) (hm : a + U.length = m) (hb : m + V.length = b) (hu : 0 < U.length) (hv : 0 < V.length) (hn : b + Z.length = n) (hn2 : n ≤ 1048576) :
    Calls Tryd.prog 141 #[.slice (some ⟨g, 0, none⟩) n c, .int .i64 a, .int .i64 m, .int .i64 b, fn] w fun e w' => e = .returned (.tuple #[]) ∧ w.grownBy w' (some g) ∧ Row w' g (X ++ (V ++ (U ++ Z))) ex := by
  have H := Lib.hid h
  obtain ⟨T, hT⟩ : ∃ T, X ++ (V ++ (U ++ Z)) = T := ⟨_, rfl⟩
  rw [hT]
  have HT := Lib.hid hT
  have HM := Lib.hid hm
  have HB := Lib.hid hb
  have HA := Lib.hid ha
  have HN := Lib.hid hn
  obtain ⟨i0, hi0⟩ : ∃ i0, U.length = i0 := ⟨_, rfl⟩
  obtain ⟨j0, hj0⟩ : ∃ j0, V.length = j0 := ⟨_, rfl⟩
  have HI0 := Lib.hid hi0
  have HJ0 := Lib.hid hj0
  have e1 : (m : Int) - (a : Int) = (i0 : Int) := by omega
  have e2 : (b : Int) - (m : Int) = (j0 : Int) := by omega
  have w1 : IntKind.i64.wrap ((m : Int) - (a : Int)) = (i0 : Int) := by rw [IntWalk.i64_in _ (by omega)]; exact e1
  have w2 : IntKind.i64.wrap ((b : Int) - (m : Int)) = (j0 : Int) := by rw [IntWalk.i64_in _ (by omega)]; exact e2
  have p1 : 0 < i0 := by omega
  have p2 : 0 < j0 := by omega
  have b1 : m + j0 ≤ n := by omega
  have b2 : i0 ≤ m := by omega
  clear h hT ha hm hb hn hi0 hj0 e1 e2 hu hv
  go_enter Tryd.func141, Tryd.ntmps141
  go_wp2
  go_loopw [10, 11] (fun vi vj wr => ∃ X' U' V' Z' : List Int, ∃ i j : Nat, vi = .int .i64 i ∧ vj = .int .i64 j ∧ 0 < i ∧ 0 < j ∧ i ≤ m ∧ m + j ≤ n ∧ Hid (U'.length = i) ∧ Hid (V'.length = j) ∧ Hid (X'.length + i = m) ∧ Hid (m + j + Z'.length = n) ∧ Hid (X' ++ (V' ++ (U' ++ Z')) = T) ∧ Hid (w.grownBy wr (some g)) ∧ Hid (Row wr g (X' ++ (U' ++ (V' ++ Z'))) ex)) (fun vi vj _ => (intOf vi + intOf vj).toNat)
  case atStart => exact ⟨X, U, V, Z, i0, j0, rfl, rfl, p1, p2, b2, b1, HI0, HJ0, by show _ = _; have h1 := HM.out; have h2 := HA.out; have h3 := HI0.out; omega, by show _ = _; have h1 := HN.out; have h2 := HB.out; have h3 := HJ0.out; omega, HT, World.grownBy.refl _ _, H⟩
  case round =>
    obtain ⟨X', U', V', Z', i, j, rfl, rfl, hi, hj, him, hjn, HU, HV, HX, HZ, HE, HG, HR⟩ := hrel
    by_cases hij : i = j
    · subst hij
      have s1 : IntKind.i64.wrap ((m : Int) - (i : Int)) = ((m - i : Nat) : Int) := by rw [IntWalk.i64_in _ (by omega)]; omega
      have HS := Lib.hid (swapRange_any g n c (m - i) m i fn X' U' [] V' Z' ex wr HR.out (by have := HX.out; omega) (by have h1 := HX.out; have h2 := HU.out; simp; omega) HU.out HV.out (by have h1 := HX.out; have h2 := HU.out; have h3 := HV.out; have h4 := HZ.out; simp; omega) hn2)
      have HF : Hid (X' ++ (V' ++ ([] ++ (U' ++ Z'))) = T) := HE
      rw [HF.out] at HS
      have hw : (m : Int) - (i : Int) = ((m - i : Nat) : Int) := by omega
      go_wp2_with fail
      refine HS.out.mono ?_
      rintro e w1 ⟨rfl, hg, hr⟩
      have HG1 := Lib.hid (only_step HG.out hg)
      have HR1 := Lib.hid hr
      clear hg hr
      go_wp2
      go_end0
      exact ⟨rfl, HG1.out, HR1.out⟩
    · have ne1 : ((i : Int) != (j : Int)) = true := by simp only [bne_iff_ne, ne_eq]; omega
      by_cases hgt : j < i
      · have gt1 : (i : Int) > (j : Int) := by omega
        obtain ⟨U1, U2, hUU, l1, l2⟩ := split_len (L := U') j (by rw [HU.out]; omega)
        have hw : (m : Int) - (i : Int) = ((m - i : Nat) : Int) := by omega
        have hr0 := HR.out
        rw [hUU, List.append_assoc] at hr0
        have HS := Lib.hid (swapRange_any g n c (m - i) m j fn X' U1 U2 V' Z' ex wr hr0 (by have := HX.out; omega) (by have h1 := HX.out; have h2 := HU.out; rw [l1, l2]; omega) l1 HV.out (by have h1 := HX.out; have h2 := HU.out; have h3 := HV.out; have h4 := HZ.out; rw [l1, l2]; omega) hn2)
        have HF : Hid ((X' ++ V') ++ (U1 ++ (U2 ++ Z')) = T) := by
          show _ = _
          rw [← HE.out, hUU]
          simp [List.append_assoc]
        have HL1 := Lib.hid l1
        have HL2 := Lib.hid l2
        have sb : (i : Int) - (j : Int) = ((i - j : Nat) : Int) := by omega
        clear hUU l1 l2 hr0
        go_wp2_with fail
        refine HS.out.mono ?_
        rintro e w1 ⟨rfl, hg, hr⟩
        have HG1 := Lib.hid (only_step HG.out hg)
        have HR1 : Hid (Row w1 g ((X' ++ V') ++ (U2 ++ (U1 ++ Z'))) ex) := by
          show Row _ _ _ _
          rw [List.append_assoc]
          exact hr
        clear hg hr hw
        go_wp2
        go_roundw
        case rel => exact ⟨X' ++ V', U2, U1, Z', i - j, j, by rw [← sb], rfl, by omega, hj, by omega, hjn, by show _ = _; rw [HL2.out, HU.out], HL1, by show _ = _; have h1 := HX.out; have h2 := HV.out; simp; omega, HZ, HF, HG1, HR1⟩
        case measure => simp [intOf]; omega
      · have gt1 : ¬ (i : Int) > (j : Int) := by omega
        obtain ⟨V1, V2, hVV, l1, l2⟩ := split_len (L := V') (j - i) (by rw [HV.out]; omega)
        have hw : (m : Int) - (i : Int) = ((m - i : Nat) : Int) := by omega
        have hw2 : (m : Int) + (j : Int) - (i : Int) = ((m + j - i : Nat) : Int) := by omega
        have hr0 := HR.out
        rw [hVV, List.append_assoc] at hr0
        have HS := Lib.hid (swapRange_any g n c (m - i) (m + j - i) i fn X' U' V1 V2 Z' ex wr hr0 (by have := HX.out; omega) (by have h1 := HX.out; have h2 := HU.out; rw [l1]; omega) HU.out (by rw [l2, HV.out]; omega) (by have h1 := HX.out; have h2 := HU.out; have h3 := HV.out; have h4 := HZ.out; rw [l1, l2]; omega) hn2)
        have HF : Hid (X' ++ (V1 ++ (V2 ++ (U' ++ Z'))) = T) := by
          show _ = _
          rw [← HE.out, hVV]
          simp [List.append_assoc]
        have HL1 := Lib.hid l1
        have HL2 := Lib.hid l2
        have sb : (j : Int) - (i : Int) = ((j - i : Nat) : Int) := by omega
        clear hVV l1 l2 hr0
        go_wp2_with fail
        refine HS.out.mono ?_
        rintro e w1 ⟨rfl, hg, hr⟩
        have HG1 := Lib.hid (only_step HG.out hg)
        have HR1 := Lib.hid hr
        clear hg hr hw hw2
        go_wp2
        go_roundw
        case rel => exact ⟨X', V2, V1, U' ++ Z', i, j - i, rfl, by rw [← sb], hi, by omega, him, by omega, by show _ = _; rw [HL2.out, HV.out]; omega, HL1, HX, by show _ = _; have h1 := HZ.out; have h2 := HU.out; simp; omega, HF, HG1, HR1⟩
        case measure => simp [intOf]; omega
end Go.Proofs.YtmmppflaacabbaaDoor
