/- impl's pair.differences and spec.l10Differ answer the copies in which two cards differ: contracts. -/
import Derived.Test.YtamookdlbmbncaaPairI
import Derived.Test.YtamookdlbmbncaaIntsAt
import Derived.Test.YtamookdlbmbncaaOwnMem
import Derived.Test.YtamookdlbmbncaaFeed
import Derived.Deep.QuietTactic
import Derived.BigQuiet
namespace Go.Proofs.Ytamookdlbmbncaa
open Go.ChangeShapes Go.WideShapes Go.ChangeAt Go.RowKit

/-- A slice of numbers of new memory. -/
def GivesL (L : List Int) (w : World) (e : Ending) (w' : World) : Prop :=
  ∃ A cap, e = .returned (.slice A L.length cap) ∧ Below w.heap.size w w' ∧ IAt w' w.heap.size w'.heap.size A L
theorem own_list {w : World} {base n : Nat} {v : Value} {L : List Int} (h : w.ownsRow base 2 1 v n (L.map (Value.int .i64))) (hl : L.length = n) : ∃ A cap, v = .slice A L.length cap ∧ IAt w base w.heap.size A L := by
  rcases h.2 with ⟨hv, h0⟩ | ⟨g, cap, cur, hv, hb, hh, hn, _, hs, ht⟩
  · exact ⟨none, 0, by rw [hv, hl, h0], fun h => absurd h (by omega), Nat.le_refl _⟩
  · have hr : Row w g L (cur.toList.drop n) := by
      unfold Row
      rw [hh]
      congr 2
      apply Array.ext'
      rw [← List.take_append_drop n cur.toList, ← ht, Nat.mul_one]
      simp
    exact ⟨some ⟨g, 0, none⟩, cap, by rw [hv, hl], fun _ => ⟨g, _, rfl, hb, hr.lt, hr⟩, Nat.le_refl _⟩
theorem own_num {w w' W : World} {base B : Nat} {v v' : Value} {L : List Int} {k : Int} {ob : Obj}
    (hown : w'.ownsRow base 2 1 v' (L.length + 1) (L.map (Value.int .i64) ++ [.int .i64 k])) (hgrow : (w.alloc ob).grownBy w' v.ownBlock)
    (hold : w.ownsRow base 2 1 v L.length (L.map (Value.int .i64))) (hb : Below B W w) (hB : B ≤ base) (hs : B ≤ w.heap.size) :
    w'.ownsRow base 2 1 v' (L ++ [k]).length ((L ++ [k]).map (Value.int .i64)) ∧ Below B W w' := by
  refine ⟨by rw [List.length_append, List.map_append]; exact hown, ?_⟩
  exact (hb.alloc hs _).grown hgrow (by simp; omega) (fun k hk => Nat.le_trans hB (hold.lt k hk).1)
theorem one_new (W : World) (k : Int) : ∀ j u, [Value.int .i64 k][j]? = some u → (W.alloc (.cells #[.int .i64 k] 2)).cell? ((⟨W.heap.size, 0, none⟩ : Addr).add j) = some u := by
  intro j u hj
  match j, hj with
  | 0, hj => simp at hj; subst hj; simp [Addr.add]

set_option maxRecDepth 100000 in
set_option maxHeartbeats 2000000 in
theorem differences_any (A A' : Option Addr) (c c' : Nat) (xs ys : List Int) (B B' : Nat) (AP : Option Addr) (cP : Nat) (P : List (Int × Int)) (BP : Nat) (w : World)
    (hI : Ints w B A xs) (hI' : Ints w B' A' ys) (hP : Copies w BP AP P) (hB : B ≤ w.heap.size) (hB' : B' ≤ w.heap.size) (hBP : BP ≤ w.heap.size)
    (l : Int) (hv : validTo xs.length ys.length P l = true) (hn : P.length ≤ 20) :
    Calls Try.prog 71 #[.agg #[.slice A xs.length c, .slice A' ys.length c'], .slice AP P.length cP] w (GivesL (difL xs ys P) w) := by
  obtain ⟨i0, hi0, hz0, hz1, hz2⟩ := info_parts info_int
  obtain ⟨n, hN⟩ : ∃ n, P.length = n := ⟨_, rfl⟩
  obtain ⟨m, hM⟩ : ∃ m, ys.length = m := ⟨_, rfl⟩
  obtain ⟨z, hZ⟩ : ∃ z, xs.length = z := ⟨_, rfl⟩
  rw [hM, hZ] at hv
  rw [hN] at hn
  rw [hN, hM, hZ]
  have b0 := below_box w (.cells #[.slice A z c, .slice A' m c'] 94)
  obtain ⟨g0, g1⟩ := pair_box w (.slice A z c) (.slice A' m c')
  have B0 := Lib.hid b0
  obtain ⟨W0, hW0⟩ : ∃ W0, w.alloc (.cells #[.slice A z c, .slice A' m c'] 94) = W0 := ⟨_, rfl⟩
  have hs0 : W0.heap.size = w.heap.size + 1 := by rw [← hW0]; simp
  rw [hW0] at g0 g1 B0
  have HS0 := Lib.hid hs0
  have HI := Lib.hid hI
  have HJ := Lib.hid hI'
  have HP := Lib.hid hP
  have HN := Lib.hid hN
  have HM := Lib.hid hM
  have HZ := Lib.hid hZ
  have HV := Lib.hid hv
  clear hI hI' hP hN hM hZ hv
  clear b0 hs0
  go_enter Try.func71, Try.ntmps71
  go_wp2
  go_loopw [5, 10] (fun vo x wr => ∃ t : Nat, ∃ vv : Value, t ≤ n ∧ x = .int .i64 t ∧ vv = vo ∧ Hid (Below W0.heap.size W0 wr) ∧ Hid (wr.ownsRow (w.heap.size + 1) 2 1 vo (wherePl (difQ xs ys P) t).length ((wherePl (difQ xs ys P) t).map (Value.int .i64)))) (fun _ x _ => n - (intOf x).toNat)
  case atStart => exact ⟨0, _, Nat.zero_le _, rfl, rfl, Below.refl _ _, World.ownsRow_nil _ _ _ _⟩
  case round =>
    obtain ⟨t, vv, ht, rfl, rfl, HB, HO⟩ := hrel
    have hsz : w.heap.size + 1 ≤ wr.heap.size := (by have := HB.out.size; rw [HS0.out] at this; exact this)
    by_cases hlt : t < n
    · obtain ⟨x, hx⟩ : ∃ x, P[t]? = some x := ⟨P[t]'(by rw [HN.out]; exact hlt), List.getElem?_eq_getElem _⟩
      obtain ⟨x1, x2, x3, x4⟩ := validTo_at HV.out hx
      have BD := below_step B0.out HB.out
      obtain ⟨b, off, rfl, hb, hcell⟩ := (HP.out.below (BD.mono hBP)) (by rw [HN.out]; omega)
      obtain ⟨c1, c2⟩ := hcell t x hx
      obtain ⟨p, hp⟩ : ∃ p : Nat, x.1 = p := ⟨x.1.toNat, by omega⟩
      obtain ⟨q, hq⟩ : ∃ q : Nat, x.2 = q := ⟨x.2.toNat, by omega⟩
      rw [hp] at c1 x2
      rw [hq] at c2 x4
      obtain ⟨b2, off2, rfl, hb2, hcell2⟩ := (HI.out.below (BD.mono hB)) (by rw [HZ.out]; omega)
      obtain ⟨b3, off3, rfl, hb3, hcell3⟩ := (HJ.out.below (BD.mono hB')) (by rw [HM.out]; omega)
      have r3 := hcell2 p (by rw [HZ.out]; omega)
      have r4 := hcell3 q (by rw [HM.out]; omega)
      have hwl := wherePl_len (difQ xs ys P) t
      have g2 := cell_kept g0 HB.out
      have g3 := cell_kept g1 HB.out
      have hdq : difQ xs ys P t = decide (xs[p]?.getD 0 ≠ ys[q]?.getD 0) := by
        unfold difQ
        rw [hx]
        simp only [hp, hq, Int.toNat_natCast]
      obtain ⟨u, hu⟩ : ∃ u, xs[p]?.getD 0 = u := ⟨_, rfl⟩
      obtain ⟨v, hv⟩ : ∃ v, ys[q]?.getD 0 = v := ⟨_, rfl⟩
      rw [hu] at r3 hdq
      rw [hv] at r4 hdq
      have bw := below_box wr (.cells #[.int .i64 p, .int .i64 q] 70)
      obtain ⟨s5, s6⟩ := copy_box wr p q
      have y3 := cell_kept r3 bw
      have y4 := cell_kept r4 bw
      have y0 := cell_kept g2 bw
      have y1 := cell_kept g3 bw
      have HB1 := Lib.hid (below_step HB.out bw)
      have HO1 := Lib.hid (HO.out.alloc (.cells #[.int .i64 p, .int .i64 q] 70))
      obtain ⟨W1, hW1⟩ : ∃ W1, wr.alloc (.cells #[.int .i64 p, .int .i64 q] 70) = W1 := ⟨_, rfl⟩
      have hsz1 : w.heap.size + 1 ≤ W1.heap.size := by rw [← hW1, World.size_alloc]; omega
      rw [hW1] at s5 s6 y3 y4 y0 y1 HB1 HO1
      have k0 : (0 : Int) ≤ (t : Int) := Int.natCast_nonneg _
      have k1 : (t : Int) < (n : Int) := by omega
      have k2 : (0 : Int) ≤ (p : Int) := Int.natCast_nonneg _
      have k3 : (0 : Int) ≤ (q : Int) := Int.natCast_nonneg _
      have k4 : p < z := by omega
      have k5 : q < m := by omega
      by_cases huv : u = v
      · have hs := wherePl_no (n := t) (hdq.trans (by simp [huv]))
        have HS := Lib.hid hs
        have hne : (u != v) = false := by simp [huv]
        clear hcell hcell2 hcell3 hx hu hv x1 x3 hp hq hb hb2 hb3 hdq hs huv BD bw r3 r4 g2 g3 HO
        go_wp2
        go_quiet (fail)
        go_wp2
        go_roundw
        case rel =>
          refine ⟨t + 1, _, by omega, by go_num, rfl, below_drewN HB1.out _, ?_⟩
          show World.ownsRow _ _ _ _ _ _ _
          rw [HS.out]
          exact HO1.out
        case measure => simp [intOf]; omega
      · have hs := wherePl_yes (n := t) (hdq.trans (by simp [huv]))
        have HS := Lib.hid hs
        have hne : (u != v) = true := by simp [huv]
        obtain ⟨L, hL⟩ : ∃ L, wherePl (difQ xs ys P) t = L := ⟨_, rfl⟩
        rw [hL] at HO1 HS hwl
        clear hcell hcell2 hcell3 hx hu hv x1 x3 hp hq hb hb2 hb3 hdq hs huv hL BD bw r3 r4 g2 g3 HO
        go_wp2
        go_quiet (fail)
        go_wp2_with (at_builtin; refine wpList_append_own _ rfl _ _ 29 rfl (w.heap.size + 1) 2 i0 (.int .i64 0) 1 8 Try.underlying29 hi0 hz0 hz1 hz2 rfl (by decide) _ _ _ rfl (show World.ownsRow _ (w.heap.size + 1) 2 1 _ _ (L.map (Value.int .i64)) from HO1.out.alloc _) ⟨W1.heap.size, 0, none⟩ 1 1 [.int .i64 t] rfl rfl (one_new _ t) (by intro u hu; simp at hu; subst hu; rfl) ?c3 ?c4 ?c5 ?_; rotate_left 3; intro v9 w9 hown hgrow hiff; have HOWN := Lib.hid hown; have HGRW := Lib.hid hgrow; clear hown hgrow hiff)
        case c3 => unfold maxLen; omega
        case c4 => omega
        case c5 => first | omega | (simp; omega)
        go_roundw
        case rel =>
          obtain ⟨ho, hbb⟩ := own_num (L := L) (k := t) HOWN.out HGRW.out HO1.out (below_drewN HB1.out _) (by have := HS0.out; omega) (by have := HS0.out; show _ ≤ W1.heap.size; omega)
          refine ⟨t + 1, _, by omega, by go_num, rfl, Lib.hid hbb, ?_⟩
          show World.ownsRow _ _ _ _ _ _ _
          rw [HS.out]
          exact ho
        case measure => simp [intOf]; omega
    · obtain rfl : t = n := by omega
      have k1 : ¬ (t : Int) < (t : Int) := by omega
      obtain ⟨A9, c9, e9, hat⟩ := own_list HO.out rfl
      subst e9
      have HAT := Lib.hid (hat.wide (show w.heap.size ≤ w.heap.size + 1 by omega) (Nat.le_refl _) (Nat.le_refl _))
      have BB := Lib.hid (below_step B0.out HB.out)
      clear hat HO
      go_wp2
      go_ret
      exact ⟨A9, c9, by unfold difL; rw [HN.out]; rfl, BB.out, by show IAt _ _ _ _ _; unfold difL; rw [HN.out]; exact HAT.out⟩

set_option maxRecDepth 100000 in
set_option maxHeartbeats 2000000 in
theorem l10Differ_any (pc oc po oo : Nat) (A A' : Option Addr) (c c' : Nat) (xs ys : List Int) (B B' : Nat) (AP : Option Addr) (cP : Nat) (P : List (Int × Int)) (BP : Nat) (w : World)
    (h1 : w.cell? ⟨pc, oc, none⟩ = some (.slice A xs.length c)) (h2 : w.cell? ⟨po, oo, none⟩ = some (.slice A' ys.length c'))
    (hI : Ints w B A xs) (hI' : Ints w B' A' ys) (hP : Copies w BP AP P) (hB : B ≤ w.heap.size) (hB' : B' ≤ w.heap.size) (hBP : BP ≤ w.heap.size)
    (l : Int) (hv : validTo xs.length ys.length P l = true) (hn : P.length ≤ 20) :
    Calls Try.prog 70 #[.pointer (some ⟨pc, oc, none⟩), .pointer (some ⟨po, oo, none⟩), .slice AP P.length cP] w (GivesL (difL xs ys P) w) := by
  obtain ⟨i0, hi0, hz0, hz1, hz2⟩ := info_parts info_int
  obtain ⟨n, hN⟩ : ∃ n, P.length = n := ⟨_, rfl⟩
  obtain ⟨m, hM⟩ : ∃ m, ys.length = m := ⟨_, rfl⟩
  obtain ⟨z, hZ⟩ : ∃ z, xs.length = z := ⟨_, rfl⟩
  rw [hM, hZ] at hv
  rw [hN] at hn
  rw [hN]
  rw [hZ] at h1
  rw [hM] at h2
  have HE0 := Lib.hid (empty_owned w)
  have HI := Lib.hid hI
  have HJ := Lib.hid hI'
  have HP := Lib.hid hP
  have HN := Lib.hid hN
  have HM := Lib.hid hM
  have HZ := Lib.hid hZ
  have HV := Lib.hid hv
  clear hI hI' hP hN hM hZ hv
  go_enter Try.func70, Try.ntmps70
  go_wp2
  go_loopw [7, 8] (fun vo x wr => ∃ t : Nat, ∃ vv : Value, t ≤ n ∧ x = .int .i64 t ∧ vv = vo ∧ Hid (Below w.heap.size w wr) ∧ Hid (wr.ownsRow (w.heap.size) 2 1 vo (wherePl (difQ xs ys P) t).length ((wherePl (difQ xs ys P) t).map (Value.int .i64)))) (fun _ x _ => n - (intOf x).toNat)
  case atStart => exact ⟨0, _, Nat.zero_le _, rfl, rfl, below_box w _, HE0⟩
  case round =>
    obtain ⟨t, vv, ht, rfl, rfl, HB, HO⟩ := hrel
    have hsz : w.heap.size ≤ wr.heap.size := HB.out.size
    by_cases hlt : t < n
    · obtain ⟨x, hx⟩ : ∃ x, P[t]? = some x := ⟨P[t]'(by rw [HN.out]; exact hlt), List.getElem?_eq_getElem _⟩
      obtain ⟨x1, x2, x3, x4⟩ := validTo_at HV.out hx
      have BD := HB.out
      obtain ⟨b, off, rfl, hb, hcell⟩ := (HP.out.below (BD.mono hBP)) (by rw [HN.out]; omega)
      obtain ⟨c1, c2⟩ := hcell t x hx
      obtain ⟨p, hp⟩ : ∃ p : Nat, x.1 = p := ⟨x.1.toNat, by omega⟩
      obtain ⟨q, hq⟩ : ∃ q : Nat, x.2 = q := ⟨x.2.toNat, by omega⟩
      rw [hp] at c1 x2
      rw [hq] at c2 x4
      obtain ⟨b2, off2, rfl, hb2, hcell2⟩ := (HI.out.below (BD.mono hB)) (by rw [HZ.out]; omega)
      obtain ⟨b3, off3, rfl, hb3, hcell3⟩ := (HJ.out.below (BD.mono hB')) (by rw [HM.out]; omega)
      have r3 := hcell2 p (by rw [HZ.out]; omega)
      have r4 := hcell3 q (by rw [HM.out]; omega)
      have hwl := wherePl_len (difQ xs ys P) t
      have g2 := cell_kept h1 HB.out
      have g3 := cell_kept h2 HB.out
      have hdq : difQ xs ys P t = decide (xs[p]?.getD 0 ≠ ys[q]?.getD 0) := by
        unfold difQ
        rw [hx]
        simp only [hp, hq, Int.toNat_natCast]
      obtain ⟨u, hu⟩ : ∃ u, xs[p]?.getD 0 = u := ⟨_, rfl⟩
      obtain ⟨v, hv⟩ : ∃ v, ys[q]?.getD 0 = v := ⟨_, rfl⟩
      rw [hu] at r3 hdq
      rw [hv] at r4 hdq
      have HO1 := HO
      have HB1 := HB
      have k0 : (0 : Int) ≤ (t : Int) := Int.natCast_nonneg _
      have k1 : (t : Int) < (n : Int) := by omega
      have k2 : (0 : Int) ≤ (p : Int) := Int.natCast_nonneg _
      have k3 : (0 : Int) ≤ (q : Int) := Int.natCast_nonneg _
      have k4 : p < z := by omega
      have k5 : q < m := by omega
      by_cases huv : u = v
      · have hs := wherePl_no (n := t) (hdq.trans (by simp [huv]))
        have HS := Lib.hid hs
        have hne : (u != v) = false := by simp [huv]
        clear hcell hcell2 hcell3 hx hu hv x1 x3 hp hq hb hb2 hb3 hdq hs huv BD HO
        go_wp2
        go_quiet (fail)
        go_wp2
        go_roundw
        case rel =>
          refine ⟨t + 1, _, by omega, by go_num, rfl, below_drewN HB1.out _, ?_⟩
          show World.ownsRow _ _ _ _ _ _ _
          rw [HS.out]
          exact HO1.out
        case measure => simp [intOf]; omega
      · have hs := wherePl_yes (n := t) (hdq.trans (by simp [huv]))
        have HS := Lib.hid hs
        have hne : (u != v) = true := by simp [huv]
        obtain ⟨L, hL⟩ : ∃ L, wherePl (difQ xs ys P) t = L := ⟨_, rfl⟩
        rw [hL] at HO1 HS hwl
        clear hcell hcell2 hcell3 hx hu hv x1 x3 hp hq hb hb2 hb3 hdq hs huv hL BD HO
        go_wp2
        go_quiet (fail)
        go_wp2_with (at_builtin; refine wpList_append_own _ rfl _ _ 29 rfl (w.heap.size) 2 i0 (.int .i64 0) 1 8 Try.underlying29 hi0 hz0 hz1 hz2 rfl (by decide) _ _ _ rfl (show World.ownsRow _ (w.heap.size) 2 1 _ _ (L.map (Value.int .i64)) from HO1.out.alloc _) ⟨wr.heap.size, 0, none⟩ 1 1 [.int .i64 t] rfl rfl (one_new _ t) (by intro u hu; simp at hu; subst hu; rfl) ?c3 ?c4 ?c5 ?_; rotate_left 3; intro v9 w9 hown hgrow hiff; have HOWN := Lib.hid hown; have HGRW := Lib.hid hgrow; clear hown hgrow hiff)
        case c3 => unfold maxLen; omega
        case c4 => omega
        case c5 => first | omega | (simp; omega)
        go_roundw
        case rel =>
          obtain ⟨ho, hbb⟩ := own_num (L := L) (k := t) HOWN.out HGRW.out HO1.out (below_drewN HB1.out _) (by omega) (by show _ ≤ wr.heap.size; omega)
          refine ⟨t + 1, _, by omega, by go_num, rfl, Lib.hid hbb, ?_⟩
          show World.ownsRow _ _ _ _ _ _ _
          rw [HS.out]
          exact ho
        case measure => simp [intOf]; omega
    · obtain rfl : t = n := by omega
      have k1 : ¬ (t : Int) < (t : Int) := by omega
      obtain ⟨A9, c9, e9, hat⟩ := own_list HO.out rfl
      subst e9
      have HAT := Lib.hid (hat.wide (show w.heap.size ≤ w.heap.size by omega) (Nat.le_refl _) (Nat.le_refl _))
      have BB := Lib.hid (HB.out)
      clear hat HO
      go_wp2
      go_ret
      exact ⟨A9, c9, by unfold difL; rw [HN.out]; rfl, BB.out, by show IAt _ _ _ _ _; unfold difL; rw [HN.out]; exact HAT.out⟩
end Go.Proofs.Ytamookdlbmbncaa
