/- The walk of the law FnSelected: the cards of a sorted deck with the text of one of its cards. -/
import Derived.Test.YtdakbbgbglgioaaDoorH3
import Derived.Test.YtdakbbgbglgioaaDoorH4
import Derived.Test.YtdakbbgbglgioaaDoorH6
import Derived.Test.YtdakbbgbglgioaaDoorH7
import Derived.Deep.QuietTactic
import Derived.BigQuiet
import Derived.Deep.RegionHeld3
import Derived.Deep.DeepCutAuto
namespace Go.Proofs.YtdakbbgbglgioaaDoor.fnSelected
open Go.ChangeShapes Go.WideShapes Go.ChangeAt Go.RowKit

set_option maxRecDepth 100000 in
theorem walk_long (A A' : Option Addr) (n n' c c' : Nat) (w : World) (hn : n ≤ 9223372036854775807) (hn' : n' ≤ 9223372036854775807) (h : 3000 < n ∨ 3000 < n') :
    Calls Tryd.prog 5 #[.slice A n c, .slice A' n' c'] w fun e w' => e = .returned (.bool true) ∧ Below w.heap.size w w' := by
  have hL := a2Long_any A A' n n' c c' w hn hn'
  have e : (decide (3000 < n) || decide (3000 < n')) = true := by simpa using h
  rw [e] at hL
  have HL := Lib.hid hL
  clear hL e h
  go_enter Tryd.func5, Tryd.ntmps5
  go_wp2_with fail
  refine HL.out.mono ?_
  rintro e w1 ⟨rfl, rfl⟩
  go_wp2
  go_ret
  exact ⟨rfl, Below.refl _ _⟩

theorem same_any (e d : CardV) (M : Nat) (W : World) (h : Ints W W.heap.size e.at_ e.xs) (h' : Ints W W.heap.size d.at_ d.xs) (hx : e.xs = d.xs) (hl : e.xs.length = M) (hm : M ≤ 1048576) :
    Calls Tryd.prog 23 #[.agg #[.slice e.at_ M e.cap], .agg #[.slice d.at_ M d.cap]] W fun e w' => e = .returned (.bool true) ∧ Below W.heap.size W w' := by
  subst hl
  have := specSameCard_any e.at_ d.at_ e.cap d.cap e.xs d.xs W.heap.size W.heap.size W h h' (Nat.le_refl _) (Nat.le_refl _) hm (by rw [← hx]; omega)
  rw [← hx, decide_eq_true rfl] at this
  exact this

set_option maxRecDepth 100000 in
set_option maxHeartbeats 8000000 in
theorem walk_short (A A' : Option Addr) (n n' c c' : Nat) (w : World) (h0 : BytesAt w w.heap.size A n) (h1 : BytesAt w w.heap.size A' n') (hn : n ≤ 3000) (hn' : n' ≤ 3000) (hP : Places w) :
    Calls Tryd.prog 5 #[.slice A n c, .slice A' n' c'] w fun e w' => e = .returned (.bool true) ∧ Below w.heap.size w w' := by
  have hL := a2Long_any A A' n n' c c' w (by omega) (by omega)
  have e : (decide (3000 < n) || decide (3000 < n')) = false := by simp; omega
  rw [e] at hL
  have HL := Lib.hid hL
  have HD := Lib.hid (A2Two_any A n c w.heap.size w h0 (Nat.le_refl _) hn)
  have HPL := Lib.hid hP
  have H1 := Lib.hid h1
  clear hL e h0 hP h1
  go_enter Tryd.func5, Tryd.ntmps5
  go_wp2_with fail
  refine HL.out.mono ?_
  rintro e w1 ⟨rfl, rfl⟩
  go_wp2_with fail
  refine HD.out.mono ?_
  rintro e w2 ⟨gq, cq, D, gp, cp, D', i, j, rfl, hl, _, hij, hj2, hb, hd, _⟩
  have B2 := Lib.hid hb
  obtain ⟨v1, v2, v3, v4⟩ := drawn_deck hd (by omega)
  have hx : ∀ d ∈ D, d.xs.length ≤ 1048576 := fun d hd0 => by
    obtain ⟨b, ex, _, _, _, hl, _⟩ := hd.2 d hd0
    omega
  have k1 := drawn_code v1 (v3 i j) hij (by rw [v2]; split <;> omega)
  have hs1 := fun (W : World) (hW : Below w2.heap.size w2 W) => specSortedC_any (some ⟨gq, 0, none⟩) cq D w2.heap.size i j W (hd.deck.below hW) hW.size (by omega) hx v4
  have hl1 := sortV_length (holes D) i j
  rw [holes_len] at hl1
  have hsel := fun r x (hr : (sortV (holes D) i j)[r]? = some x) => sel_facts k1 hij (by omega) hr
  simp only [sortA, k1, if_true, Int.toNat_natCast] at hs1
  obtain ⟨N, hN⟩ : ∃ N, D.length = N := ⟨_, rfl⟩
  obtain ⟨X, hX⟩ : ∃ X, sortV (holes D) i j = X := ⟨_, rfl⟩
  rw [hN, hX] at hl1
  simp only [hN, hX] at hs1
  simp only [hX] at hsel
  rw [hN] at hl ⊢
  have HS1 := Lib.hid hs1
  have HSEL := Lib.hid hsel
  have HX1 := Lib.hid hl1
  have b3 := below_box w2 (.cells #[.int .i64 i, .int .i64 j] 26)
  have f0 : (w2.alloc (.cells #[.int .i64 i, .int .i64 j] 26)).cell? ⟨w2.heap.size, 0, none⟩ = some (.int .i64 i) := by simp [go_sem]
  have f1 : (w2.alloc (.cells #[.int .i64 i, .int .i64 j] 26)).cell? ⟨w2.heap.size, 1, none⟩ = some (.int .i64 j) := by simp [go_sem]
  obtain ⟨p, hp⟩ : ∃ p, w2.heap.size = p := ⟨_, rfl⟩
  obtain ⟨W3, eW⟩ : ∃ W3, w2.alloc (.cells #[.int .i64 i, .int .i64 j] 26) = W3 := ⟨_, rfl⟩
  rw [eW] at b3 f0 f1
  rw [hp] at f0 f1
  have K3 := Lib.hid b3
  have HW := Lib.hid eW
  clear hb hd v1 v2 v3 v4 hx k1 hs1 hl1 hsel hN hX b3 eW HD HL
  go_wp2_with fail
  try rw [HW.out]
  refine (HS1.out _ K3.out).mono ?_
  rintro e w4 ⟨A1, c1, E1, rfl, hE1, hb, hda1, hcp1, hg1⟩
  obtain ⟨g1, rfl⟩ := hg1 rfl
  rw [HX1.out]
  have K4 := Lib.hid (below_step K3.out hb)
  have g0 := cell_kept f0 hb
  have g1' := cell_kept f1 hb
  have HE1 := Lib.hid hE1
  have HD1 := Lib.hid hda1
  have HC1 := Lib.hid hcp1
  have hn1 : E1.length = N := by rw [← holes_len, hE1, HX1.out]
  have HN1 := Lib.hid hn1
  clear hb hE1 hda1 hcp1 hg1 f0 f1 HS1 hn1
  rcases Nat.eq_zero_or_pos N with h0 | hpos
  · have HZ := Lib.hid h0
    have i0 : ((N : Int) == 0) = true := by simp; omega
    have B9 := Lib.hid (below_step B2.out K4.out)
    clear h0
    go_wp2
    go_ret
    exact ⟨rfl, B9.out⟩
  have i0 : ((N : Int) == 0) = false := by simp; omega
  have hat := a2At_any A' n' c' w.heap.size 0 N w4 (H1.out.below (below_step B2.out K4.out)) hn' (by omega) (by omega) (by omega)
  have HAT := Lib.hid hat
  clear hat H1
  go_wp2_with fail
  refine HAT.out.mono ?_
  rintro e w5 ⟨r, rfl, hrN, rfl⟩
  have hrN' : r < N := by omega
  obtain ⟨d, hd⟩ : ∃ d, E1[r]? = some d := ⟨E1[r]'(by rw [HN1.out]; exact hrN'), List.getElem?_eq_getElem _⟩
  have hxr : X[r]? = some d.xs := by rw [← HE1.out]; exact holes_at hd
  obtain ⟨L, Q, q1, q2, q3, q4, q5, q6, q7, q8, q9, q10, q11, q12, q13, q14⟩ := HSEL.out r d.xs hxr
  obtain ⟨b3, o3, e3, _, hc3⟩ := HD1.out.deck (by rw [HN1.out]; omega)
  obtain ⟨rfl, rfl⟩ : g1 = b3 ∧ 0 = o3 := by injection e3 with e3; injection e3 with x1 x2; exact ⟨x1, x2⟩
  obtain ⟨cd, id⟩ := hc3 r d hd
  rw [Nat.zero_add] at cd
  unfold CardV.value at cd
  have hdm := List.mem_of_getElem? hd
  have hcd := HC1.out d hdm
  have hx1 : ∀ e ∈ E1, e.xs.length ≤ 1048576 := fun e he => by
    obtain ⟨t, ht⟩ := List.getElem?_of_mem he
    have hxt : X[t]? = some e.xs := by rw [← HE1.out]; exact holes_at ht
    obtain ⟨_, _, _, _, _, _, _, _, _, _, _, _, _, _, h20, _⟩ := HSEL.out t e.xs hxt
    omega
  have hpart := fun (W : World) (hW : Below w4.heap.size w4 W) => specPart_good d.at_ d.cap d.xs W.heap.size i j W ((id.below hW).more hW.size) (Nat.le_refl _) hcd.1 ⟨by omega, hcd.2⟩ hij q14 q11
  have hread := fun (W : World) (g cap : Nat) (hI : Ints W W.heap.size (some ⟨g, 0, none⟩) (partOf d.xs i j)) => specRead_any (some ⟨g, 0, none⟩) cap (partOf d.xs i j) W.heap.size W hI (Nat.le_refl _) (by rw [partOf_length _ _ _ q14]; omega)
  have er : readS (partOf d.xs i j) = textS (partOf d.xs i j) := by unfold readS; rw [if_neg (by simp [q12]), if_pos q10]
  have ec : readCode (partOf d.xs i j) = 0 := by unfold readCode; rw [if_neg (by simp [q12]), if_neg (by simp [q10])]
  rw [er, ec] at hread
  have heq := fun (W : World) (hW : Below w4.heap.size w4 W) => implEqual_any (some ⟨g1, 0, none⟩) c1 E1 W.heap.size i j W (HD1.out.later hW).deck (Nat.le_refl _) (by rw [HN1.out]; omega) hx1 HC1.out (HPL.out.below (below_step B2.out (below_step K4.out hW))) (textS (partOf d.xs i j)) (by omega)
  have hbt := fun (W : World) (hW : Below w4.heap.size w4 W) => implBetween_any (some ⟨g1, 0, none⟩) c1 E1 W.heap.size i j W (HD1.out.later hW).deck (Nat.le_refl _) (by rw [HN1.out]; omega) hx1 HC1.out (HPL.out.below (below_step B2.out (below_step K4.out hW))) (textS (partOf d.xs i j)) (textS (partOf d.xs i j)) (by omega) (by omega)
  have hfd := fun (W : World) (hW : Below w4.heap.size w4 W) => implFind_any (some ⟨g1, 0, none⟩) c1 E1 W.heap.size i j W (HD1.out.later hW).deck (Nat.le_refl _) (by rw [HN1.out]; omega) hx1 HC1.out (HPL.out.below (below_step B2.out (below_step K4.out hW))) (textS (partOf d.xs i j)) (by omega)
  simp only [ask_two, bet_two, HE1.out, HN1.out, q1, q2, q3, q4, q5] at heq hbt hfd
  obtain ⟨ys, hys⟩ : ∃ ys, partOf d.xs i j = ys := ⟨_, rfl⟩
  simp only [hys] at hpart hread heq hbt hfd
  obtain ⟨S, hS⟩ : ∃ S, textS ys = S := ⟨_, rfl⟩
  simp only [hS] at hread heq hbt hfd
  obtain ⟨V, hV⟩ : ∃ V, (X.drop L).take Q = V := ⟨_, rfl⟩
  have hVl : V.length = Q := by rw [← hV, List.length_take, List.length_drop]; omega
  simp only [hV] at heq hbt
  unfold GivesDC at heq hbt
  simp only [hVl] at heq hbt
  unfold GivesCard at hpart
  rw [HX1.out] at q8
  obtain ⟨y, hy⟩ : ∃ y, d.xs.length = y := ⟨_, rfl⟩
  rw [hy] at cd
  simp only [hy] at hpart
  have HPART := Lib.hid hpart
  have HREAD := Lib.hid hread
  have HEQ := Lib.hid heq
  have HBT := Lib.hid hbt
  have HFD := Lib.hid hfd
  have HV := Lib.hid hV
  have HX1M := Lib.hid hx1
  have r0 : (0 : Int) ≤ (r : Int) := Int.natCast_nonneg _
  have KZ : Hid (Below w4.heap.size w4 w4.drew) := Below.drew (Below.refl _ _)
  clear hd hxr q1 q2 q3 q4 q5 q9 q10 q11 q12 q13 q14 e3 hc3 id hdm hcd hx1 hpart hread er ec heq hbt hfd hys hS hV hVl hy HSEL HAT hrN'
  go_upto_region 8 with fail
  go_cut [11, 12] (fun s0 s1 wx => ∃ q g ex cap, s0 = .pointer (some ⟨q, 0, none⟩) ∧ s1 = .int .i64 0 ∧ wx.cell? ⟨q, 0, none⟩ = some (.slice (some ⟨g, 0, none⟩) ys.length cap) ∧ Row wx g ys ex ∧ Below w4.heap.size w4 wx)
  case first =>
    have KA : Hid (Below w4.heap.size w4 (w4.alloc (.cells #[.slice none 0 0] 36)).drew) := ((Below.refl _ _).alloc (Nat.le_refl _) _).drew
    have a0 : (w4.alloc (.cells #[.slice none 0 0] 36)).drew.cell? ⟨w4.heap.size, 0, none⟩ = some (.slice none 0 0) := by simp [go_sem]
    have b0 : (w4.alloc (.cells #[.slice none 0 0] 36)).drew.frozen? ⟨w4.heap.size, 0, none⟩ = false := by simp [go_sem]
    have bl : w4.heap.size < (w4.alloc (.cells #[.slice none 0 0] 36)).drew.heap.size := by show _ < (w4.alloc _).heap.size; simp
    have hb1 : g1 < w4.heap.size := World.block_lt_of_cell? _ _ cd
    have hb2 : p < w4.heap.size := World.block_lt_of_cell? _ _ g0
    go_region_held3 (fun W => W.cell? ⟨g1, r, none⟩ = some (.slice d.at_ y d.cap) ∧ W.cell? ⟨p, 0, none⟩ = some (.int .i64 i) ∧ W.cell? ⟨p, 1, none⟩ = some (.int .i64 j))
      (first | exact ⟨cd, g0, g1'⟩ | exact ⟨cell_kept cd KZ.out, cell_kept g0 KZ.out, cell_kept g1' KZ.out⟩ | exact ⟨cell_kept cd KA.out, cell_kept g0 KA.out, cell_kept g1' KA.out⟩ | exact ⟨cell_kept cd K6.out, cell_kept g0 K6.out, cell_kept g1' K6.out⟩ | exact ⟨cell_kept (cell_kept cd K6.out) (below_box w6 _), cell_kept (cell_kept g0 K6.out) (below_box w6 _), cell_kept (cell_kept g1' K6.out) (below_box w6 _)⟩ | exact ⟨(World.cell?_setCell_far _ _ _ _ (Nat.ne_of_gt hb1)).trans (cell_kept cd K6.out), (World.cell?_setCell_far _ _ _ _ (Nat.ne_of_gt hb2)).trans (cell_kept g0 K6.out), (World.cell?_setCell_far _ _ _ _ (Nat.ne_of_gt hb2)).trans (cell_kept g1' K6.out)⟩ | go_keep)
      (first
      | (go_at_call 18
         with_reducible refine (HPART.out w4.drew KZ.out).mono ?_
         rintro e w6 ⟨g, cap, ex, rfl, hg, hb, hrow⟩
         have K6 := Lib.hid (below_step KZ.out hb)
         have HROW := Lib.hid hrow
         clear hb hrow hg)
      | (go_at_call 18
         with_reducible refine (HPART.out (w4.alloc (.cells #[.slice none 0 0] 36)).drew KA.out).mono ?_
         rintro e w6 ⟨g, cap, ex, rfl, hg, hb, hrow⟩
         have K6 := Lib.hid (below_step KA.out hb)
         have x0 := cell_kept a0 hb
         have z0 := (hb.frozen bl).trans b0
         have HROW := Lib.hid hrow
         have HG := Lib.hid hg
         clear hb hrow hg))
    all_goals
      go_wp2
      go_meet
      first
      | exact ⟨w6.heap.size, g, ex, cap, rfl, rfl, by simp, HROW.out.later (below_box w6 _), below_step K6.out (below_box w6 _)⟩
      | exact ⟨w4.heap.size, g, ex, cap, rfl, rfl, cell_put x0 _, HROW.out.far (show g ≠ w4.heap.size from Nat.ne_of_gt (Nat.lt_of_lt_of_le bl HG.out)) _, K6.out.setCell (Nat.le_refl _) _⟩
  case rest =>
    obtain ⟨q, g, ex, cap, rfl, rfl, hbox, hrow, hb⟩ := hcut
    rename World => w6
    have K6 := Lib.hid hb
    have m0 := cell_kept g0 hb
    have m1 := cell_kept g1' hb
    have HRD := Lib.hid (HREAD.out w6 g cap (hrow.ints.more hrow.lt))
    have HD16 := Lib.hid (HD1.out.later hb)
    clear hb hrow g0 g1' cd KZ HPART HREAD HD1
    go_wp2_with fail
    refine HRD.out.mono ?_
    rintro e w7 ⟨rfl, hb⟩
    have K7 := Lib.hid (below_step K6.out hb)
    have n0 := cell_kept m0 hb
    have n1 := cell_kept m1 hb
    have HD17 := Lib.hid (HD16.out.later hb)
    clear hb m0 m1 hbox HRD HD16
    go_wp2_with fail
    refine (HEQ.out w7 K7.out).mono ?_
    rintro e w8 ⟨A3, c3, E3, rfl, hE3, hb, hda3⟩
    have K8 := Lib.hid (below_step K7.out hb)
    have m0 := cell_kept n0 hb
    have m1 := cell_kept n1 hb
    have HD18 := Lib.hid (HD17.out.later hb)
    have HE3 := Lib.hid hE3
    have HD3 := Lib.hid hda3
    clear hb n0 n1 hE3 hda3 HEQ HD17
    go_wp2_with fail
    refine (HBT.out w8 K8.out).mono ?_
    rintro e w9 ⟨A4, c4, E4, rfl, hE4, hb, hda4⟩
    have K9 := Lib.hid (below_step K8.out hb)
    have n0 := cell_kept m0 hb
    have n1 := cell_kept m1 hb
    have HD19 := Lib.hid (HD18.out.later hb)
    have HD39 := Lib.hid (HD3.out.later hb)
    have HE4 := Lib.hid hE4
    have HD4 := Lib.hid hda4
    clear hb m0 m1 hE4 hda4 HBT HD18 HD3
    go_wp2_with fail
    refine (HFD.out w9 K9.out).mono ?_
    rintro e w10 ⟨rfl, hb⟩
    have K10 := Lib.hid (below_step K9.out hb)
    have HD1A := Lib.hid (HD19.out.later hb)
    have HD3A := Lib.hid (HD39.out.later hb)
    have hl3 : E3.length = Q := by rw [← holes_len, HE3.out, ← HV.out, List.length_take, List.length_drop, HX1.out]; omega
    have hl4 : E4.length = Q := by rw [← holes_len, HE4.out, ← HV.out, List.length_take, List.length_drop, HX1.out]; omega
    have hm3 : ∀ (E : List CardV), holes E = V → ∀ e ∈ E, e.xs.length ≤ 1048576 := fun E hE e he => by
      have h1 : e.xs ∈ V := by rw [← hE]; exact List.mem_map_of_mem he
      rw [← HV.out] at h1
      have h2 := (List.drop_sublist _ _).subset ((List.take_sublist _ _).subset h1)
      rw [← HE1.out] at h2
      obtain ⟨e', h3, h4⟩ := List.mem_map.1 h2
      rw [← h4]
      exact HX1M.out e' h3
    have hsd := specSameDeck_any A3 A4 c3 c4 E3 E4 w10.heap.size w10.heap.size w10 HD3A.out.deck (HD4.out.later hb).deck (Nat.le_refl _) (Nat.le_refl _) (by omega) (by omega) (hm3 E3 HE3.out) (hm3 E4 HE4.out)
    rw [HE3.out, HE4.out, decide_eq_true rfl, hl3, hl4] at hsd
    have HSD := Lib.hid hsd
    have HL3 := Lib.hid hl3
    have HM3 := Lib.hid hm3
    clear hb hsd hl3 hl4 hm3 n0 n1 HFD HD19 HD39 HD4
    have j1 : ¬ (Q : Int) < 1 := by omega
    have j2 : ¬ (L : Int) < 0 := by omega
    have j3 : ¬ (L : Int) + (Q : Int) > (N : Int) := by omega
    have j4 : ¬ (r : Int) < (L : Int) := by omega
    have j5 : ¬ (r : Int) ≥ (L : Int) + (Q : Int) := by omega
    go_upto_region 13 with fail
    go_cut [131] (fun s0 wx => s0 = .bool false ∧ Below w10.heap.size w10 wx)
    case first =>
      go_wp2_with fail
      refine HSD.out.mono ?_
      rintro e w11 ⟨rfl, hb⟩
      have HBB := Lib.hid hb
      clear hb
      go_wp2
      go_meet
      refine ⟨?_, HBB.out⟩
      first | rfl | (simp; omega)
    obtain ⟨rfl, hb⟩ := hcut
    rename World => w11
    have K11 := Lib.hid (below_step K10.out hb)
    have HD1B := Lib.hid (HD1A.out.later hb)
    have HD3B := Lib.hid (HD3A.out.later hb)
    clear hb HSD HD1A HD3A
    go_wp2
    go_loopw [22] (fun vi wr => ∃ t : Nat, t ≤ Q ∧ vi = .int .i64 t ∧ Hid (Below w11.heap.size w11 wr)) (fun vi _ => Q - (intOf vi).toNat)
    case atStart => exact ⟨0, Nat.zero_le _, rfl, Below.refl _ _⟩
    case round =>
      obtain ⟨t, ht, rfl, HB⟩ := hrel
      by_cases hlt : t < Q
      · obtain ⟨e3, he3⟩ : ∃ e, E3[t]? = some e := ⟨E3[t]'(by rw [HL3.out]; exact hlt), List.getElem?_eq_getElem _⟩
        obtain ⟨e1, he1⟩ : ∃ e, E1[L + t]? = some e := ⟨E1[L + t]'(by rw [HN1.out]; omega), List.getElem?_eq_getElem _⟩
        have hxx : e3.xs = e1.xs := by
          have h1 := holes_at he3
          have h2 := holes_at he1
          rw [HE3.out, ← HV.out, List.getElem?_take_of_lt hlt, List.getElem?_drop] at h1
          rw [HE1.out, h1] at h2
          exact Option.some.inj h2
        have hm := HM3.out E3 HE3.out e3 (List.mem_of_getElem? he3)
        obtain ⟨b3, o3, rfl, _, hc3⟩ := (HD3B.out.later HB.out).deck (by rw [HL3.out]; omega)
        obtain ⟨b1, o1, ee, _, hc1⟩ := (HD1B.out.later HB.out).deck (by rw [HN1.out]; omega)
        obtain ⟨rfl, rfl⟩ : g1 = b1 ∧ 0 = o1 := by injection ee with ee; injection ee with x1 x2; exact ⟨x1, x2⟩
        obtain ⟨z3, i3⟩ := hc3 t e3 he3
        obtain ⟨z1, i1⟩ := hc1 (L + t) e1 he1
        rw [Nat.zero_add] at z1
        unfold CardV.value at z1 z3
        rw [← hxx] at z1
        have hsm := fun (W : World) (hW : Below wr.heap.size wr W) => same_any e3 e1 e3.xs.length W ((i3.below hW).more hW.size) ((i1.below hW).more hW.size) hxx rfl hm
        obtain ⟨y, hy⟩ : ∃ y, e3.xs.length = y := ⟨_, rfl⟩
        rw [hy] at z1 z3
        simp only [hy] at hsm
        have HSM := Lib.hid hsm
        obtain ⟨u, hu⟩ : ∃ u, L + t = u := ⟨_, rfl⟩
        rw [hu] at z1
        have sw : IntKind.i64.wrap ((L : Int) + (t : Int)) = (u : Int) := by rw [← hu]; exact IntWalk.i64_in _ (by omega)
        have t0 : (0 : Int) ≤ (t : Int) := Int.natCast_nonneg _
        have t1 : (t : Int) < (Q : Int) := by omega
        have u0 : (0 : Int) ≤ (u : Int) := Int.natCast_nonneg _
        have u1 : (u : Int) < (N : Int) := by omega
        have HU := Lib.hid hu
        clear he3 he1 hxx hm ee hc1 hc3 i1 i3 hsm hy hu
        go_upto_region 18 with fail
        go_cut [148] (fun s0 wx => s0 = .bool false ∧ Below wr.heap.size wr wx)
        case first =>
          have K0 : Hid (Below wr.heap.size wr wr.drew) := Below.drew (Below.refl _ _)
          go_region_held3 (fun W => W.cell? ⟨b3, o3 + t, none⟩ = some (.slice e3.at_ y e3.cap) ∧ W.cell? ⟨g1, u, none⟩ = some (.slice e1.at_ y e1.cap))
            (first | exact ⟨z3, z1⟩ | exact ⟨cell_kept z3 K0.out, cell_kept z1 K0.out⟩ | exact ⟨cell_kept z3 K1.out, cell_kept z1 K1.out⟩ | go_keep)
            (first
              | (go_at_call 23
                 refine (HSM.out _ K0.out).mono ?_
                 rintro e w12 ⟨rfl, hb⟩
                 have K1 : Hid (Below wr.heap.size wr w12) := below_step K0.out hb
                 clear hb))
          all_goals (go_wp2_with fail; go_meet; exact ⟨rfl, K1.out⟩)
        case rest =>
          obtain ⟨rfl, hb⟩ := hcut
          rename World => w12
          have HB9 := Lib.hid (below_step HB.out hb)
          clear hb z1 z3 HSM
          go_wp2
          go_roundw
          case rel => exact ⟨t + 1, by omega, by go_num, HB9⟩
          case measure => simp [intOf]; omega
      · obtain rfl : t = Q := by omega
        have t1 : ¬ (t : Int) < (t : Int) := by omega
        have B9 := Lib.hid (below_step B2.out (below_step K4.out (below_step K11.out HB.out)))
        go_wp2
        go_ret
        exact ⟨rfl, B9.out⟩
end Go.Proofs.YtdakbbgbglgioaaDoor.fnSelected
