/- impl.JoinCopies and spec.JoinCopies answer the joined copies: contracts. -/
import Derived.Test.YtamookdlbmbncaaJoinMath
import Derived.Test.YtamookdlbmbncaaCopyI
import Derived.Test.YtamookdlbmbncaaStepOwn
import Derived.Test.YtamookdlbmbncaaOwnMem
import Derived.Deep.QuietTactic
import Derived.BigQuiet
namespace Go.Proofs.Ytamookdlbmbncaa
open Go.ChangeShapes Go.WideShapes Go.ChangeAt Go.RowKit

theorem empty_copies (w : World) : (w.alloc (.cells #[] 70)).ownsRow w.heap.size 70 2 (.slice (some ⟨w.heap.size, 0, none⟩) 0 0) 0 [] :=
  ⟨rfl, Or.inr ⟨w.heap.size, 0, #[], rfl, Nat.le_refl _, heap_alloc_new w _, Nat.le_refl _, Nat.zero_le _, rfl, rfl⟩⟩
theorem two_news (W : World) (p q : Int) : ∀ j u, [Value.int .i64 p, .int .i64 q][j]? = some u → (W.alloc (.cells #[.int .i64 p, .int .i64 q] 70)).cell? ((⟨W.heap.size, 0, none⟩ : Addr).add j) = some u := by
  intro j u hj
  match j, hj with
  | 0, hj => simp at hj; subst hj; simp [Addr.add]
  | 1, hj => simp at hj; subst hj; simp [Addr.add]
set_option maxRecDepth 100000 in
set_option maxHeartbeats 4000000 in
theorem specJoin_any (A : Option Addr) (c : Nat) (P : List (Int × Int)) (B : Nat) (A' : Option Addr) (c' : Nat) (Q : List (Int × Int)) (B' : Nat) (w : World) (h : Copies w B A P) (h' : Copies w B' A' Q) (hB : B ≤ w.heap.size) (hB' : B' ≤ w.heap.size) (hn : P.length ≤ 1048576) (hm : Q.length ≤ 1048576) :
    Calls Try.prog 46 #[.slice A P.length c, .slice A' Q.length c'] w (GivesQC (joinA P Q) (joinC P Q) w) := by
  obtain ⟨i0, hi0, hz0, hz1, hz2⟩ := info_parts info_copy
  have hp := fun W (hW : Below w.heap.size w W) => l10Plain_any A c P B W (h.below (hW.mono hB)) (Nat.le_trans hB hW.size) hn
  have hq := fun W (hW : Below w.heap.size w W) => l10Plain_any A' c' Q B' W (h'.below (hW.mono hB')) (Nat.le_trans hB' hW.size) hm
  rcases joinC_cases P Q with ⟨e1, ec, ea⟩ | ⟨e1, e2, ec, ea⟩ | ⟨e1, e2, ec, ea⟩
  · rw [ec, ea]
    simp only [e1] at hp
    obtain ⟨n, hN⟩ : ∃ n, P.length = n := ⟨_, rfl⟩
    obtain ⟨m, hM⟩ : ∃ m, Q.length = m := ⟨_, rfl⟩
    simp only [hN] at hp
    simp only [hM] at hq
    rw [hN, hM]
    have HP := Lib.hid hp
    clear hp hq h h' e1 ec ea hN hM hn hm hi0 hz0 hz1 hz2
    go_enter Try.func46, Try.ntmps46
    go_wp2_with fail
    refine (HP.out _ (Below.refl _ _)).mono ?_
    rintro e w1 ⟨rfl, hb⟩
    have B1 := Lib.hid hb
    clear hb
    go_wp2
    go_ret2
    exact ⟨none, 0, rfl, B1.out, QAt.nil (Nat.le_refl _)⟩
  · rw [ec, ea]
    simp only [e1] at hp
    simp only [e2] at hq
    obtain ⟨n, hN⟩ : ∃ n, P.length = n := ⟨_, rfl⟩
    obtain ⟨m, hM⟩ : ∃ m, Q.length = m := ⟨_, rfl⟩
    simp only [hN] at hp
    simp only [hM] at hq
    rw [hN, hM]
    have HP := Lib.hid hp
    have HQ := Lib.hid hq
    clear hp hq h h' e1 e2 ec ea hN hM hn hm hi0 hz0 hz1 hz2
    go_enter Try.func46, Try.ntmps46
    go_wp2_with fail
    refine (HP.out _ (Below.refl _ _)).mono ?_
    rintro e w1 ⟨rfl, hb⟩
    have B1 := Lib.hid hb
    clear hb
    go_wp2_with fail
    refine (HQ.out _ B1.out).mono ?_
    rintro e w2 ⟨rfl, hb⟩
    have B2 := Lib.hid (below_step B1.out hb)
    clear hb
    go_wp2
    go_ret2
    exact ⟨none, 0, rfl, B2.out, QAt.nil (Nat.le_refl _)⟩
  · rw [ec, ea]
    have hn20 := plain_len e1
    have hm20 := plain_len e2
    simp only [e1] at hp
    simp only [e2] at hq
    obtain ⟨n, hN⟩ : ∃ n, P.length = n := ⟨_, rfl⟩
    obtain ⟨m, hM⟩ : ∃ m, Q.length = m := ⟨_, rfl⟩
    simp only [hN] at hp
    simp only [hM] at hq
    have hjl : ∀ t, (joinTo P (Q.take t)).length ≤ 400 := fun t => by
      have := joinTo_len P hn20 (Q.take t)
      have h2 : (Q.take t).length ≤ 20 := by rw [List.length_take]; omega
      omega
    have hol : ∀ s y, (joinOne (P.take s) y).length ≤ 20 := fun s y => by
      have := joinOne_len (P.take s) y
      have h2 : (P.take s).length ≤ 20 := by rw [List.length_take]; omega
      omega
    rw [hN] at hn20
    rw [hM] at hm20
    rw [hN, hM]
    have HP := Lib.hid hp
    have HQ := Lib.hid hq
    have H := Lib.hid h
    have H' := Lib.hid h'
    have HN := Lib.hid hN
    have HM := Lib.hid hM
    have HJL := Lib.hid hjl
    have HOL := Lib.hid hol
    clear hp hq h h' e1 e2 ec ea hN hM hn hm hjl hol
    go_enter Try.func46, Try.ntmps46
    go_wp2_with fail
    refine (HP.out _ (Below.refl _ _)).mono ?_
    rintro e w1 ⟨rfl, hb⟩
    have B1 := Lib.hid hb
    clear hb
    go_wp2_with fail
    refine (HQ.out _ B1.out).mono ?_
    rintro e w2 ⟨rfl, hb⟩
    have B2 := Lib.hid (below_step B1.out hb)
    clear hb
    have HE0 := Lib.hid (empty_copies w2)
    have BX := Lib.hid (below_step B2.out (below_box w2 (.cells #[] 70)))
    go_wp2
    go_loopw [6, 7] (fun vo x wr => ∃ t : Nat, ∃ vv : Value, t ≤ m ∧ x = .int .i64 t ∧ vv = vo ∧ Hid (Below w2.heap.size w2 wr) ∧ Hid (wr.ownsRow w2.heap.size 70 2 vo (joinTo P (Q.take t)).length (qaCells (joinTo P (Q.take t))))) (fun _ x _ => m - (intOf x).toNat)
    case atStart => exact ⟨0, _, Nat.zero_le _, rfl, rfl, below_box w2 _, HE0⟩
    case round =>
      obtain ⟨t, vv, ht, rfl, rfl, HB, HO⟩ := hrel
      by_cases hlt : t < m
      · obtain ⟨y, hy⟩ : ∃ y, Q[t]? = some y := ⟨Q[t]'(by rw [HM.out]; exact hlt), List.getElem?_eq_getElem _⟩
        have HJM := Lib.hid (joinTo_more (P := P) hy)
        have hjl := HJL.out t
        obtain ⟨L, hL⟩ : ∃ L, joinTo P (Q.take t) = L := ⟨_, rfl⟩
        rw [hL] at HO HJM hjl
        have HY := Lib.hid hy
        have t0 : (0 : Int) ≤ (t : Int) := Int.natCast_nonneg _
        have t1 : (t : Int) < (m : Int) := by omega
        clear hL hy
        rename World => wo
        go_wp2
        go_loopw [6, 8] (fun vo x wr => ∃ s : Nat, ∃ vv : Value, s ≤ n ∧ x = .int .i64 s ∧ vv = vo ∧ Hid (Below w2.heap.size w2 wr) ∧ Hid (wr.ownsRow w2.heap.size 70 2 vo (L ++ joinOne (P.take s) y).length (qaCells (L ++ joinOne (P.take s) y)))) (fun _ x _ => n - (intOf x).toNat)
        case atStart => exact ⟨0, _, Nat.zero_le _, rfl, rfl, HB, by show World.ownsRow _ _ _ _ _ _ _; simpa [joinOne] using HO.out⟩
        case round =>
          obtain ⟨s, v2, hs, rfl, rfl, HB2, HO2⟩ := hrel
          obtain ⟨b2, o2, rfl, _, hc2⟩ := (H'.out.below ((below_step B2.out HB2.out).mono hB')) (by rw [HM.out]; omega)
          obtain ⟨d1, d2⟩ := hc2 t y HY.out
          by_cases hls : s < n
          · obtain ⟨x, hx⟩ : ∃ x, P[s]? = some x := ⟨P[s]'(by rw [HN.out]; exact hls), List.getElem?_eq_getElem _⟩
            obtain ⟨b1, o1, rfl, _, hc1⟩ := (H.out.below ((below_step B2.out HB2.out).mono hB)) (by rw [HN.out]; omega)
            obtain ⟨c1, c2⟩ := hc1 s x hx
            have hol := HOL.out s y
            obtain ⟨J, hJ⟩ : ∃ J, joinOne (P.take s) y = J := ⟨_, rfl⟩
            have s0 : (0 : Int) ≤ (s : Int) := Int.natCast_nonneg _
            have s1 : (s : Int) < (n : Int) := by omega
            have hsz : w2.heap.size ≤ wr.heap.size := HB2.out.size
            by_cases heq : x.2 = y.1
            · have hj := joinOne_yes (y := y) hx heq
              rw [hJ] at HO2 hj hol
              have HJ := Lib.hid hj
              have h63 : (L ++ J).length + 1 ≤ maxLen := by unfold maxLen; simp; omega
              have h8 : ((L ++ J).length + 1) * 16 ≤ 140737488355328 := by simp; omega
              obtain ⟨x1, x2⟩ := x
              obtain ⟨y1, y2⟩ := y
              simp only at heq c1 c2 d1 d2
              subst heq
              clear hc1 hc2 hx hj hJ
              go_wp2
              go_quiet (fail)
              go_wp2_with fail
              go_region_law (refine step_append_own _ rfl _ _ 25 rfl w2.heap.size 70 i0 (.agg #[.int .i64 0, .int .i64 0]) 2 16 Try.underlying25 hi0 hz0 hz1 hz2 rfl (by decide) _ _ _ rfl (show World.ownsRow _ w2.heap.size 70 2 _ _ (qaCells (L ++ J)) from HO2.out.alloc _) ⟨wr.heap.size, 0, none⟩ 1 1 [.int .i64 x1, .int .i64 y2] rfl rfl (two_news _ x1 y2) (by intro u hu; simp at hu; rcases hu with rfl | rfl <;> rfl) h63 h8 (by first | omega | (simp; omega)) ?_; intro v' w9 hown hgrow _; have HOWN := Lib.hid hown; have HGRW := Lib.hid hgrow; clear hown hgrow)
              all_goals
                go_wp2
                go_roundw
                case rel =>
                  obtain ⟨ho, hbb⟩ := own_copy (P := L ++ J) (Q := [(x1, y2)]) HOWN.out HGRW.out HO2.out (below_drewN HB2.out _) (Nat.le_refl _) hsz
                  refine ⟨s + 1, _, by omega, by go_num, rfl, Lib.hid hbb, ?_⟩
                  show World.ownsRow _ _ _ _ _ _ _
                  rw [HJ.out, ← List.append_assoc]
                  exact ho
                case measure => simp [intOf]; omega
            · have hj := joinOne_no (y := y) hx heq
              have hne : (x.2 == y.1) = false := by simpa using heq
              rw [hJ] at HO2 hj
              have HJ := Lib.hid hj
              clear hc1 hc2 hx hj hJ heq
              go_wp2
              go_quiet (fail)
              go_wp2
              go_roundw
              case rel =>
                refine ⟨s + 1, _, by omega, by go_num, rfl, below_drewN HB2.out _, ?_⟩
                show World.ownsRow _ _ _ _ _ _ _
                rw [HJ.out]
                exact HO2.out
              case measure => simp [intOf]; omega
          · have hsn : s = n := by omega
            have s1 : ¬ (s : Int) < (n : Int) := by omega
            have HO3 : Hid (wr.ownsRow w2.heap.size 70 2 v2 (joinTo P (Q.take (t + 1))).length (qaCells (joinTo P (Q.take (t + 1))))) := by
              show World.ownsRow _ _ _ _ _ _ _
              have e : P.take s = P := List.take_of_length_le (by rw [HN.out]; omega)
              have := HO2.out
              rw [e] at this
              rw [HJM.out]
              exact this
            clear hc2 hsn HO2
            go_wp2
            go_roundw
            case rel => exact ⟨t + 1, _, by omega, by go_num, rfl, HB2, HO3⟩
            case measure => simp [intOf]; omega
      · have t1 : ¬ (t : Int) < (m : Int) := by omega
        have e : Q.take t = Q := List.take_of_length_le (by rw [HM.out]; omega)
        have ho := HO.out
        rw [e] at ho
        obtain ⟨A9, c9, e9, hat⟩ := own_qat ho rfl
        subst e9
        have HAT := Lib.hid (hat.wide B2.out.size (Nat.le_refl _) (Nat.le_refl _))
        have BB := Lib.hid (below_step B2.out HB.out)
        clear ho hat e HO
        go_wp2
        go_ret2
        exact ⟨A9, c9, rfl, BB.out, HAT.out⟩

end Go.Proofs.Ytamookdlbmbncaa
