/- impl.JoinCopies answers the joined copies: a contract. -/
import Derived.Test.YtamookdlbmbncaaJoinC
namespace Go.Proofs.Ytamookdlbmbncaa
open Go.ChangeShapes Go.WideShapes Go.ChangeAt Go.RowKit

theorem box_two {w : World} {q : Nat} {x y : Value} (h : w.heap[q]? = some (.cells #[x, y] 70 (0, 0))) : w.cell? ⟨q, 0, none⟩ = some x ∧ w.cell? ⟨q, 1, none⟩ = some y := by
  constructor <;> simp [World.cell?, h]
theorem own_start_q {w : World} {base q : Nat} {v : Value} {L : List (Int × Int)} (h : w.ownsRow base 70 2 v L.length (qaCells L)) (hn : L.length = 0 → v = .slice none 0 0) (hb : base ≤ w.heap.size) (hq : q < w.heap.size) :
    ∃ bs, base ≤ bs ∧ bs ≤ w.heap.size ∧ w.ownsRow bs 70 2 v L.length (qaCells L) ∧ (L.length = 0 → q < bs) := by
  by_cases h0 : L.length = 0
  · refine ⟨w.heap.size, hb, Nat.le_refl _, ?_, fun _ => hq⟩
    obtain rfl : L = [] := List.eq_nil_of_length_eq_zero h0
    rw [hn h0]
    exact World.ownsRow_nil _ _ _ _
  · exact ⟨base, Nat.le_refl _, hb, h, fun h => absurd h h0⟩
theorem own_down {w : World} {base base' n size : Nat} {et : TypeId} {v : Value} {xs : List Value} (h : w.ownsRow base et size v n xs) (hb : base' ≤ base) : w.ownsRow base' et size v n xs := by
  refine ⟨h.1, ?_⟩
  rcases h.2 with h0 | ⟨g, cap, cur, h1, h2, h3⟩
  · exact Or.inl h0
  · exact Or.inr ⟨g, cap, cur, h1, Nat.le_trans hb h2, h3⟩
theorem own_off {w : World} {bs q n : Nat} {v x y : Value} {M : List Value} (h : w.ownsRow bs 70 2 v (n + 1) M) (hbox : w.heap[q]? = some (.cells #[x, y] 70 (0, 0))) (hc : n = 0 → q < bs) : v.ownBlock ≠ some q := by
  rcases h.2 with ⟨_, h0⟩ | ⟨g, cap, cur, rfl, hb, hh, hn, _, hs, _⟩
  · omega
  · intro e
    have hg : g = q := by simpa [Value.ownBlock] using e
    subst hg
    rw [hbox] at hh
    have e2 := Option.some.inj hh
    injection e2 with e3
    rw [← e3] at hs
    simp at hs
    have : n = 0 := by omega
    have := hc this
    omega

set_option maxRecDepth 100000 in
set_option maxHeartbeats 4000000 in
theorem implJoin_any (A : Option Addr) (c : Nat) (P : List (Int × Int)) (B : Nat) (A' : Option Addr) (c' : Nat) (Q : List (Int × Int)) (B' : Nat) (w : World) (h : Copies w B A P) (h' : Copies w B' A' Q) (hB : B ≤ w.heap.size) (hB' : B' ≤ w.heap.size) (hn : P.length ≤ 1048576) (hm : Q.length ≤ 1048576) :
    Calls Try.prog 47 #[.slice A P.length c, .slice A' Q.length c'] w (GivesQC (joinA P Q) (joinC P Q) w) := by
  obtain ⟨i0, hi0, hz0, hz1, hz2⟩ := info_parts info_copy
  have hp := fun W (hW : Below w.heap.size w W) => isPlain_any A c P B W (h.below (hW.mono hB)) (Nat.le_trans hB hW.size) hn
  have hq := fun W (hW : Below w.heap.size w W) => isPlain_any A' c' Q B' W (h'.below (hW.mono hB')) (Nat.le_trans hB' hW.size) hm
  rcases joinC_cases P Q with ⟨e1, ec, ea⟩ | ⟨e1, e2, ec, ea⟩ | ⟨e1, e2, ec, ea⟩
  · rw [ec, ea]
    simp only [e1] at hp
    obtain ⟨n, hN⟩ : ∃ n, P.length = n := ⟨_, rfl⟩
    obtain ⟨m, hM⟩ : ∃ m, Q.length = m := ⟨_, rfl⟩
    simp only [hN] at hp
    simp only [hM] at hq
    rw [hN, hM]
    have HP := Lib.hid hp
    clear hp hq h h' e1 ec ea hN hM hn hm hi0 hz0 hz1 hz2
    go_enter Try.func47, Try.ntmps47
    go_wp2_with fail
    refine (HP.out _ (Below.refl _ _)).mono ?_
    rintro e w1 ⟨rfl, hb⟩
    have B1 := Lib.hid hb
    clear hb
    go_wp2
    go_ret2
    exact ⟨none, 0, rfl, B1.out, QAt.nil (Nat.le_refl _)⟩
  · rw [ec, ea]
    simp only [e1] at hp
    simp only [e2] at hq
    obtain ⟨n, hN⟩ : ∃ n, P.length = n := ⟨_, rfl⟩
    obtain ⟨m, hM⟩ : ∃ m, Q.length = m := ⟨_, rfl⟩
    simp only [hN] at hp
    simp only [hM] at hq
    rw [hN, hM]
    have HP := Lib.hid hp
    have HQ := Lib.hid hq
    clear hp hq h h' e1 e2 ec ea hN hM hn hm hi0 hz0 hz1 hz2
    go_enter Try.func47, Try.ntmps47
    go_wp2_with fail
    refine (HP.out _ (Below.refl _ _)).mono ?_
    rintro e w1 ⟨rfl, hb⟩
    have B1 := Lib.hid hb
    clear hb
    go_wp2_with fail
    refine (HQ.out _ B1.out).mono ?_
    rintro e w2 ⟨rfl, hb⟩
    have B2 := Lib.hid (below_step B1.out hb)
    clear hb
    go_wp2
    go_ret2
    exact ⟨none, 0, rfl, B2.out, QAt.nil (Nat.le_refl _)⟩
  · rw [ec, ea]
    have hn20 := plain_len e1
    have hm20 := plain_len e2
    simp only [e1] at hp
    simp only [e2] at hq
    obtain ⟨n, hN⟩ : ∃ n, P.length = n := ⟨_, rfl⟩
    obtain ⟨m, hM⟩ : ∃ m, Q.length = m := ⟨_, rfl⟩
    simp only [hN] at hp
    simp only [hM] at hq
    have hjl : ∀ t, (joinTo P (Q.take t)).length ≤ 400 := fun t => by
      have := joinTo_len P hn20 (Q.take t)
      have h2 : (Q.take t).length ≤ 20 := by rw [List.length_take]; omega
      omega
    have hol : ∀ s y, (joinOne (P.take s) y).length ≤ 20 := fun s y => by
      have := joinOne_len (P.take s) y
      have h2 : (P.take s).length ≤ 20 := by rw [List.length_take]; omega
      omega
    rw [hN] at hn20
    rw [hM] at hm20
    rw [hN, hM]
    have HP := Lib.hid hp
    have HQ := Lib.hid hq
    have H := Lib.hid h
    have H' := Lib.hid h'
    have HN := Lib.hid hN
    have HM := Lib.hid hM
    have HJL := Lib.hid hjl
    have HOL := Lib.hid hol
    clear hp hq h h' e1 e2 ec ea hN hM hn hm hjl hol
    go_enter Try.func47, Try.ntmps47
    go_wp2_with fail
    refine (HP.out _ (Below.refl _ _)).mono ?_
    rintro e w1 ⟨rfl, hb⟩
    have B1 := Lib.hid hb
    clear hb
    go_wp2_with fail
    refine (HQ.out _ B1.out).mono ?_
    rintro e w2 ⟨rfl, hb⟩
    have B2 := Lib.hid (below_step B1.out hb)
    clear hb
    go_wp2
    go_loopw [6, 21] (fun vo x wr => ∃ t : Nat, ∃ vv : Value, t ≤ m ∧ x = .int .i64 t ∧ vv = vo ∧ Hid (Below w2.heap.size w2 wr) ∧ Hid (wr.ownsRow w2.heap.size 70 2 vo (joinTo P (Q.take t)).length (qaCells (joinTo P (Q.take t)))) ∧ Hid ((joinTo P (Q.take t)).length = 0 → vo = .slice none 0 0)) (fun _ x _ => m - (intOf x).toNat)
    case atStart => exact ⟨0, _, Nat.zero_le _, rfl, rfl, Below.refl _ _, World.ownsRow_nil _ _ _ _, fun _ => rfl⟩
    case round =>
      obtain ⟨t, vv, ht, rfl, rfl, HB, HO, HZ⟩ := hrel
      by_cases hlt : t < m
      · obtain ⟨y, hy⟩ : ∃ y, Q[t]? = some y := ⟨Q[t]'(by rw [HM.out]; exact hlt), List.getElem?_eq_getElem _⟩
        obtain ⟨b2, o2, rfl, _, hc2⟩ := (H'.out.below ((below_step B2.out HB.out).mono hB')) (by rw [HM.out]; omega)
        obtain ⟨d1, d2⟩ := hc2 t y hy
        have HJM := Lib.hid (joinTo_more (P := P) hy)
        have hjl := HJL.out t
        obtain ⟨L, hL⟩ : ∃ L, joinTo P (Q.take t) = L := ⟨_, rfl⟩
        rw [hL] at HO HJM hjl HZ
        obtain ⟨y1, y2⟩ := y
        simp only at d1 d2
        have t0 : (0 : Int) ≤ (t : Int) := Int.natCast_nonneg _
        have t1 : (t : Int) < (m : Int) := by omega
        have hq : wr.heap.size < (wr.alloc (.cells #[.int .i64 y1, .int .i64 y2] 70)).heap.size := by rw [World.size_alloc]; omega
        have HQB := Lib.hid (heap_alloc_new wr (.cells #[.int .i64 y1, .int .i64 y2] 70))
        have HB1 := Lib.hid (below_step HB.out (below_box wr (.cells #[.int .i64 y1, .int .i64 y2] 70)))
        have HO1 := Lib.hid (HO.out.alloc (.cells #[.int .i64 y1, .int .i64 y2] 70))
        have HNE : Hid (vv.ownBlock ≠ some wr.heap.size) := fun e => by
          have := (HO.out.lt _ e).2
          omega
        obtain ⟨W1, hW1⟩ : ∃ W1, wr.alloc (.cells #[.int .i64 y1, .int .i64 y2] 70) = W1 := ⟨_, rfl⟩
        rw [hW1] at HQB HB1 HO1 hq
        obtain ⟨q, hqq⟩ : ∃ q, wr.heap.size = q := ⟨_, rfl⟩
        rw [hqq] at HQB HNE hq
        have HQ1 := Lib.hid hq
        have HQQ := Lib.hid hqq
        have HW1 := Lib.hid hW1
        clear hL hy hc2 HO hq hqq
        rename World => wo
        go_wp2
        rw [HQQ.out]
        go_loopw [6, 27] (fun vo x wr => ∃ s : Nat, ∃ vv : Value, s ≤ n ∧ x = .int .i64 s ∧ vv = vo ∧ Hid (Below w2.heap.size w2 wr) ∧ Hid (wr.ownsRow w2.heap.size 70 2 vo (L ++ joinOne (P.take s) (y1, y2)).length (qaCells (L ++ joinOne (P.take s) (y1, y2)))) ∧ Hid ((L ++ joinOne (P.take s) (y1, y2)).length = 0 → vo = .slice none 0 0) ∧ Hid (vo.ownBlock ≠ some q) ∧ Hid (wr.heap[q]? = some (.cells #[.int .i64 y1, .int .i64 y2] 70 (0, 0))) ∧ Hid (q < wr.heap.size)) (fun _ x _ => n - (intOf x).toNat)
        case atStart => exact ⟨0, _, Nat.zero_le _, rfl, rfl, HB1, by show World.ownsRow _ _ _ _ _ _ _; simpa [joinOne] using HO1.out, by intro h0; exact HZ.out (by simpa [joinOne] using h0), HNE, HQB, HQ1⟩
        case round =>
          obtain ⟨s, v2, hs, rfl, rfl, HB2, HO2, HZ2, HNE2, HQ2, HQS2⟩ := hrel
          by_cases hls : s < n
          · obtain ⟨x, hx⟩ : ∃ x, P[s]? = some x := ⟨P[s]'(by rw [HN.out]; exact hls), List.getElem?_eq_getElem _⟩
            obtain ⟨b1, o1, rfl, _, hc1⟩ := (H.out.below ((below_step B2.out HB2.out).mono hB)) (by rw [HN.out]; omega)
            obtain ⟨c1, c2⟩ := hc1 s x hx
            have hol := HOL.out s (y1, y2)
            obtain ⟨J, hJ⟩ : ∃ J, joinOne (P.take s) (y1, y2) = J := ⟨_, rfl⟩
            have s0 : (0 : Int) ≤ (s : Int) := Int.natCast_nonneg _
            have s1 : (s : Int) < (n : Int) := by omega
            rw [hJ] at HO2 HZ2 hol
            have bw := below_box wr (.cells #[.int .i64 x.1, .int .i64 x.2] 70)
            obtain ⟨p1, p2⟩ := copy_box wr x.1 x.2
            have HB3 := Lib.hid (below_step HB2.out bw)
            have HO3 := Lib.hid (HO2.out.alloc (.cells #[.int .i64 x.1, .int .i64 x.2] 70))
            have hq3 := (bw.block q HQS2.out).trans HQ2.out
            have hqs3 := Nat.lt_of_lt_of_le HQS2.out bw.size
            have hsz : w2.heap.size ≤ (wr.alloc (.cells #[.int .i64 x.1, .int .i64 x.2] 70)).heap.size := HB3.out.size
            obtain ⟨W3, hW3⟩ : ∃ W3, wr.alloc (.cells #[.int .i64 x.1, .int .i64 x.2] 70) = W3 := ⟨_, rfl⟩
            rw [hW3] at p1 p2 HB3 HO3 hq3 hqs3 hsz
            obtain ⟨q1, q2⟩ := box_two hq3
            have HQ3 := Lib.hid hq3
            have HQS3 := Lib.hid hqs3
            by_cases heq : x.2 = y1
            · have hj := joinOne_yes (y := (y1, y2)) hx heq
              rw [hJ] at hj
              have HJ := Lib.hid hj
              obtain ⟨bs, hbs1, hbs2, hO, hbs3⟩ := own_start_q HO3.out HZ2.out hsz hqs3
              have HOW := Lib.hid hO
              have HBS3 := Lib.hid hbs3
              obtain ⟨x1, x2⟩ := x
              simp only at heq c1 c2 p1 p2 hW3
              subst heq
              have hll : (L ++ J).length ≤ 420 := by rw [List.length_append]; omega
              clear hc1 hx hj hJ hO hbs3 hq3 hqs3 bw
              go_wp2_with (at_builtin; refine wpList_append_own _ rfl _ _ 25 rfl bs 70 i0 (.agg #[.int .i64 0, .int .i64 0]) 2 16 Try.underlying25 hi0 hz0 hz1 hz2 rfl (by decide) _ _ _ rfl (HOW.out.alloc _) ⟨W3.heap.size, 0, none⟩ 1 1 [.int .i64 x1, .int .i64 y2] rfl rfl (two_news _ x1 y2) (by intro u hu; simp at hu; rcases hu with rfl | rfl <;> rfl) ?c3 ?c4 ?c5 ?_; rotate_left 3; intro v9 w9 hown hgrow hiff; have HOWN := Lib.hid hown; have HGRW := Lib.hid hgrow; clear hown hgrow hiff)
              case c3 => unfold maxLen; omega
              case c4 => omega
              case c5 => first | omega | (simp; omega) | exact Nat.le_trans hbs2 (below_box W3 _).size
              go_roundw
              case rel =>
                obtain ⟨ho, hbb⟩ := own_copy (P := L ++ J) (Q := [(x1, y2)]) HOWN.out HGRW.out HOW.out HB3.out hbs1 hsz
                have hb9 := below_box W3 (.cells #[.int .i64 x1, .int .i64 y2] 70)
                have hq9 : w9.heap[q]? = some (.cells #[.int .i64 x2, .int .i64 y2] 70 (0, 0)) :=
                  (HGRW.out.block q (Nat.lt_of_lt_of_le HQS3.out hb9.size) (fun e => HNE2.out e.symm)).trans ((hb9.block q HQS3.out).trans HQ3.out)
                refine ⟨s + 1, _, by omega, by go_num, rfl, Lib.hid hbb, ?_, ?_, ?_, Lib.hid hq9, ?_⟩
                · show World.ownsRow _ _ _ _ _ _ _
                  rw [HJ.out, ← List.append_assoc]
                  exact own_down ho hbs1
                · intro h0
                  rw [HJ.out] at h0
                  simp at h0
                · exact own_off HOWN.out hq9 HBS3.out
                · exact Nat.lt_of_lt_of_le HQS3.out (Nat.le_trans hb9.size HGRW.out.size)
              case measure => first | (simp [intOf]; omega) | omega
            · have hj := joinOne_no (y := (y1, y2)) hx heq
              have hne : (x.2 == y1) = false := by simpa using heq
              rw [hJ] at hj
              have HJ := Lib.hid hj
              clear hc1 hx hj hJ hq3 hqs3 bw heq
              go_wp2
              go_roundw
              case rel =>
                refine ⟨s + 1, _, by omega, by go_num, rfl, HB3, ?_, ?_, HNE2, HQ3, HQS3⟩
                · show World.ownsRow _ _ _ _ _ _ _
                  rw [HJ.out]
                  exact HO3.out
                · intro h0
                  rw [HJ.out] at h0
                  exact HZ2.out h0
              case measure => first | (simp [intOf]; omega) | omega
          · have hsn : s = n := by omega
            have s1 : ¬ (s : Int) < (n : Int) := by omega
            have e : P.take s = P := List.take_of_length_le (by rw [HN.out]; omega)
            have ho := HO2.out
            have hz := HZ2.out
            rw [e, ← HJM.out] at ho hz
            have HO3 := Lib.hid ho
            have HZ3 := Lib.hid hz
            clear hsn HO2 HZ2 ho hz e
            go_wp2
            go_roundw
            case rel => exact ⟨t + 1, _, by omega, by go_num, rfl, HB2, HO3, HZ3⟩
            case measure => first | (simp [intOf]; omega) | omega
      · have t1 : ¬ (t : Int) < (m : Int) := by omega
        have e : Q.take t = Q := List.take_of_length_le (by rw [HM.out]; omega)
        have ho := HO.out
        rw [e] at ho
        obtain ⟨A9, c9, e9, hat⟩ := own_qat ho rfl
        subst e9
        have HAT := Lib.hid (hat.wide B2.out.size (Nat.le_refl _) (Nat.le_refl _))
        have BB := Lib.hid (below_step B2.out HB.out)
        clear ho hat e HO HZ
        go_wp2
        go_ret2
        exact ⟨A9, c9, rfl, BB.out, HAT.out⟩

end Go.Proofs.Ytamookdlbmbncaa
