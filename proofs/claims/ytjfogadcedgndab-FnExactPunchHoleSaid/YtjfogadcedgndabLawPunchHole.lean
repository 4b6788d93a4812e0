/- For every card, column and row, the law FnExactPunchHole returns true: impl.PunchHole answers as spec.PunchHole, in memory of its own, and leaves its argument as it was. Conditions: none. -/
import Derived.Test.YtjfogadcedgndabPunch
import Derived.Test.YtjfogadcedgndabLaw
import Derived.Deep.RegionHeld3
namespace Go.Proofs.Ytjfogadcedgndab.fnExactPunchHole
open Go.ChangeShapes Go.WideShapes Go.ChangeAt Go.RowKit

theorem walk_big (A : Option Addr) (c n : Nat) (col : Int) (row : Int) (w : World) (hn : n ≤ 9223372036854775807) (hbig : 1048576 < n) :
    Calls Try.prog 3 #[.agg #[.slice A n c], .int .i64 col, .int .i64 row] w fun e w' => e = .returned (.bool true) ∧ Below w.heap.size w w' := by
  have hs := fun W => szCard_any A n c 1048576 W (by omega) (by omega) hn
  have e : (if (1048576 : Int) < (n : Int) then (-1 : Int) else 1048576 - n) = -1 := if_pos (by omega)
  rw [e] at hs
  have HS := Lib.hid hs
  clear hs e
  go_enter Try.func3, Try.ntmps3
  go_wp2_with fail
  refine (HS.out _).mono ?_
  rintro e w1 ⟨rfl, hb1⟩
  have B1 := Lib.hid (below_step (below_box w _) hb1)
  clear hb1
  go_wp2
  go_ret
  exact ⟨rfl, B1.out⟩

set_option maxHeartbeats 400000 in
theorem walk_bad (A : Option Addr) (c : Nat) (xs : List Int) (col : Int) (row : Int) (a : Int) (w : World) (h : Ints w w.heap.size A xs) (hn : xs.length ≤ 1048576)
    (hs : ∀ (W : World) (A : Option Addr) (c B : Nat), Ints W B A xs → B ≤ W.heap.size → Calls Try.prog 8 #[.agg #[.slice A xs.length c], .int .i64 col, .int .i64 row] W (GivesCode a W))
    (hi : ∀ (W : World) (A : Option Addr) (c B : Nat), Ints W B A xs → B ≤ W.heap.size → Calls Try.prog 10 #[.agg #[.slice A xs.length c], .int .i64 col, .int .i64 row] W (GivesCode a W)) :
    Calls Try.prog 3 #[.agg #[.slice A xs.length c], .int .i64 col, .int .i64 row] w fun e w' => e = .returned (.bool true) ∧ Below w.heap.size w w' := by
  have hz := fun W => szCard_any A xs.length c 1048576 W (by omega) (by omega) (by omega)
  have e : (if (1048576 : Int) < (xs.length : Int) then (-1 : Int) else 1048576 - xs.length) = 1048576 - xs.length := if_neg (by omega)
  rw [e] at hz
  have HZ := Lib.hid hz
  have H := Lib.hid h
  have HS := Lib.hid hs
  have HI := Lib.hid hi
  have hn' : xs.length ≤ 140737488355328 := by omega
  clear hz e h hs hi
  go_enter Try.func3, Try.ntmps3
  go_wp2_with fail
  refine (HZ.out _).mono ?_
  rintro e w1 ⟨rfl, hb⟩
  have B_1 := Lib.hid (below_step (below_box w _) hb)
  have ca_1 := cell_kept (p := ⟨w.heap.size, 0, none⟩) (v := .slice A xs.length c) (by simp) hb
  clear hb
  go_wp2_with fail
  refine (toCard_any A c xs w.heap.size _ (H.out.below B_1.out) B_1.out.size hn).mono ?_
  rintro e w2 ⟨ga, rfl, hg, hb, hrow⟩
  have B_2 := Lib.hid (below_step B_1.out hb)
  have ca_2 := cell_kept ca_1 hb
  have Ra_2 := Lib.hid hrow
  clear hb hrow hg ca_1 B_1
  go_wp2_with fail
  refine (HS.out _ (some ⟨ga, 0, none⟩) xs.length (ga + 1) Ra_2.out.ints Ra_2.out.lt).mono ?_
  rintro e w3 ⟨rfl, hb⟩
  have B_3 := Lib.hid (below_step B_2.out hb)
  have ca_3 := cell_kept ca_2 hb
  have Ra_3 := Lib.hid (Ra_2.out.later hb)
  clear hb ca_2 Ra_2 B_2
  clear Ra_3
  have hb := below_box w3 (.cells #[.slice none 0 0] 26)
  have B_4 := Lib.hid (below_step B_3.out hb)
  have ca_4 := cell_kept ca_3 hb
  have bw_4 : (w3.alloc (.cells #[.slice none 0 0] 26)).cell? ⟨w3.heap.size, 0, none⟩ = some (.slice none 0 0) := by simp
  clear hb ca_3 B_3
  go_wp2_with fail
  refine (toCard_any A c xs w.heap.size _ (H.out.below B_4.out) B_4.out.size hn).mono ?_
  rintro e w5 ⟨gx, rfl, hg, hb, hrow⟩
  have L_ca_Rx : Hid (w.heap.size < gx) := Nat.lt_of_lt_of_le (World.block_lt_of_cell? _ _ ca_4) hg
  have L_bw_Rx : Hid (w3.heap.size < gx) := Nat.lt_of_lt_of_le (World.block_lt_of_cell? _ _ bw_4) hg
  have G_Rx := Lib.hid (Nat.le_trans B_4.out.size hg)
  have B_5 := Lib.hid (below_step B_4.out hb)
  have ca_5 := cell_kept ca_4 hb
  have bw_5 := cell_kept bw_4 hb
  have Rx_5 := Lib.hid hrow
  clear hb hrow hg ca_4 bw_4 B_4
  have L_Rx_bx : Hid (gx < w5.heap.size) := Nat.lt_of_lt_of_le (Rx_5.out.lt) (Nat.le_refl _)
  have hb := below_box w5 (.cells #[.slice (some ⟨gx, 0, none⟩) xs.length xs.length] 26)
  have B_6 := Lib.hid (below_step B_5.out hb)
  have ca_6 := cell_kept ca_5 hb
  have bw_6 := cell_kept bw_5 hb
  have Rx_6 := Lib.hid (Rx_5.out.later hb)
  have bx_6 : (w5.alloc (.cells #[.slice (some ⟨gx, 0, none⟩) xs.length xs.length] 26)).cell? ⟨w5.heap.size, 0, none⟩ = some (.slice (some ⟨gx, 0, none⟩) xs.length xs.length) := by simp
  clear hb ca_5 bw_5 Rx_5 B_5
  go_wp2_with fail
  refine (HI.out _ (some ⟨gx, 0, none⟩) xs.length (gx + 1) Rx_6.out.ints Rx_6.out.lt).mono ?_
  rintro e w7 ⟨rfl, hb⟩
  have B_7 := Lib.hid (below_step B_6.out hb)
  have ca_7 := cell_kept ca_6 hb
  have bw_7 := cell_kept bw_6 hb
  have bx_7 := cell_kept bx_6 hb
  have Rx_7 := Lib.hid (Rx_6.out.later hb)
  clear hb ca_6 bw_6 bx_6 Rx_6 B_6
  have L_Rx_bg : Hid (gx < w7.heap.size) := Nat.lt_of_lt_of_le (Rx_7.out.lt) (Nat.le_refl _)
  have hb := below_box w7 (.cells #[.slice none 0 0] 26)
  have B_8 := Lib.hid (below_step B_7.out hb)
  have ca_8 := cell_kept ca_7 hb
  have bw_8 := cell_kept bw_7 hb
  have bx_8 := cell_kept bx_7 hb
  have Rx_8 := Lib.hid (Rx_7.out.later hb)
  have bg_8 : (w7.alloc (.cells #[.slice none 0 0] 26)).cell? ⟨w7.heap.size, 0, none⟩ = some (.slice none 0 0) := by simp
  clear hb ca_7 bw_7 bx_7 Rx_7 B_7
  go_wp2_with fail
  refine (eqCard_any none none 0 0 [] [] 0 0 _ Ints.nil Ints.nil (Nat.zero_le _) (Nat.zero_le _) (by simp) (by simp)).mono ?_
  rintro e w9 ⟨rfl, hb⟩
  have B_9 := Lib.hid (below_step B_8.out hb)
  have ca_9 := cell_kept ca_8 hb
  have bw_9 := cell_kept bw_8 hb
  have bx_9 := cell_kept bx_8 hb
  have bg_9 := cell_kept bg_8 hb
  have Rx_9 := Lib.hid (Rx_8.out.later hb)
  clear hb ca_8 bw_8 bx_8 bg_8 Rx_8 B_8
  go_wp2
  go_region_held3 (fun W => W.cell? ⟨w.heap.size, 0, none⟩ = some (.slice A xs.length c) ∧ W.cell? ⟨w5.heap.size, 0, none⟩ = some (.slice (some ⟨gx, 0, none⟩) xs.length xs.length))
    (first | exact ⟨ca_9, bx_9⟩ | exact ⟨ca_10, bx_10⟩ | exact ⟨ca_11, bx_11⟩)
    (first
      | (go_at_call 9
         refine (toCard_any A c xs w.heap.size _ ?_ ?_ hn).mono ?_
         · exact H.out.below B_9.out.drew
         · exact B_9.out.drew.size
         rintro e w10 ⟨ge, rfl, hg, hb, hrow⟩
         have L_Rx_Re : Hid (gx < ge) := Nat.lt_of_lt_of_le (Rx_9.out.lt) hg
         have B_10 := Lib.hid (below_step B_9.out.drew hb)
         have ca_10 := cell_kept (w := w9.drew) ca_9 hb
         have bw_10 := cell_kept (w := w9.drew) bw_9 hb
         have bx_10 := cell_kept (w := w9.drew) bx_9 hb
         have bg_10 := cell_kept (w := w9.drew) bg_9 hb
         have Rx_10 := Lib.hid (Rx_9.out.drew.later hb)
         have Re_10 := Lib.hid hrow
         clear hb hrow hg)
      | (go_at_call 11
         refine (eqCard_any (some ⟨gx, 0, none⟩) (some ⟨ge, 0, none⟩) _ _ xs xs (gx + 1) (ge + 1) _ ?_ ?_ ?_ ?_ hn hn').mono ?_
         · exact Rx_10.out.ints
         · exact Re_10.out.ints
         · exact Rx_10.out.lt
         · exact Re_10.out.lt
         rintro e w11 ⟨rfl, hb⟩
         have B_11 := Lib.hid (below_step B_10.out hb)
         have ca_11 := cell_kept ca_10 hb
         have bw_11 := cell_kept bw_10 hb
         have bx_11 := cell_kept bx_10 hb
         have bg_11 := cell_kept bg_10 hb
         have Rx_11 := Lib.hid (Rx_10.out.later hb)
         have Re_11 := Lib.hid (Re_10.out.later hb)
         clear hb))
  clear ca_9 bw_9 bx_9 bg_9 Rx_9 B_9 ca_10 bw_10 bx_10 bg_10 Rx_10 Re_10 B_10
  clear Re_11
  go_wp2_with fail
  refine (markCard_any gx xs.length xs [] 1 _ Rx_11.out (by omega) (by omega) hn).mono ?_
  rintro e w12 ⟨rfl, hg, hrow⟩
  have B_12 := Lib.hid (below_only B_11.out hg G_Rx.out)
  have ca_12 := cell_only hg ca_11 (Nat.ne_of_lt L_ca_Rx.out)
  have bw_12 := cell_only hg bw_11 (Nat.ne_of_lt L_bw_Rx.out)
  have bx_12 := cell_only hg bx_11 (Nat.ne_of_gt L_Rx_bx.out)
  have bg_12 := cell_only hg bg_11 (Nat.ne_of_gt L_Rx_bg.out)
  have Rx_12 := Lib.hid hrow
  clear hg hrow B_11 ca_11 bw_11 bx_11 bg_11 Rx_11
  clear Rx_12
  go_wp2_with fail
  refine (eqCard_any none none 0 0 [] [] 0 0 _ Ints.nil Ints.nil (Nat.zero_le _) (Nat.zero_le _) (by simp) (by simp)).mono ?_
  rintro e w13 ⟨rfl, hb⟩
  have B_13 := Lib.hid (below_step B_12.out hb)
  have ca_13 := cell_kept ca_12 hb
  have bw_13 := cell_kept bw_12 hb
  have bx_13 := cell_kept bx_12 hb
  have bg_13 := cell_kept bg_12 hb
  clear hb ca_12 bw_12 bx_12 bg_12 B_12
  go_wp2_with fail
  refine (markCard_nil 0 1 _).mono ?_
  rintro e w14 ⟨rfl, hb⟩
  have B_14 := Lib.hid (below_step B_13.out hb)
  have ca_14 := cell_kept ca_13 hb
  have bw_14 := cell_kept bw_13 hb
  have bx_14 := cell_kept bx_13 hb
  have bg_14 := cell_kept bg_13 hb
  clear hb ca_13 bw_13 bx_13 bg_13 B_13
  go_wp2_with fail
  refine (heldCard_any none 0 0 0 1 _ Ints.nil (Nat.zero_le _) (by omega) (by omega) (by omega)).mono ?_
  rintro e w15 ⟨rfl, hb⟩
  have B_15 := Lib.hid (below_step B_14.out hb)
  have ca_15 := cell_kept ca_14 hb
  have bw_15 := cell_kept bw_14 hb
  have bx_15 := cell_kept bx_14 hb
  have bg_15 := cell_kept bg_14 hb
  clear hb ca_14 bw_14 bx_14 bg_14 B_14
  go_wp2_with fail
  refine (toCard_any A c xs w.heap.size _ (H.out.below B_15.out) B_15.out.size hn).mono ?_
  rintro e w16 ⟨gb, rfl, hg, hb, hrow⟩
  have B_16 := Lib.hid (below_step B_15.out hb)
  have ca_16 := cell_kept ca_15 hb
  have bw_16 := cell_kept bw_15 hb
  have bx_16 := cell_kept bx_15 hb
  have bg_16 := cell_kept bg_15 hb
  have Rb_16 := Lib.hid hrow
  clear hb hrow hg ca_15 bw_15 bx_15 bg_15 B_15
  go_wp2_with fail
  refine (HI.out _ (some ⟨gb, 0, none⟩) xs.length (gb + 1) Rb_16.out.ints Rb_16.out.lt).mono ?_
  rintro e w17 ⟨rfl, hb⟩
  have B_17 := Lib.hid (below_step B_16.out hb)
  have ca_17 := cell_kept ca_16 hb
  have bw_17 := cell_kept bw_16 hb
  have bx_17 := cell_kept bx_16 hb
  have bg_17 := cell_kept bg_16 hb
  have Rb_17 := Lib.hid (Rb_16.out.later hb)
  clear hb ca_16 bw_16 bx_16 bg_16 Rb_16 B_16
  clear Rb_17
  have hb := below_box w17 (.cells #[.slice none 0 0] 26)
  have B_18 := Lib.hid (below_step B_17.out hb)
  have ca_18 := cell_kept ca_17 hb
  have bw_18 := cell_kept bw_17 hb
  have bx_18 := cell_kept bx_17 hb
  have bg_18 := cell_kept bg_17 hb
  have bh_18 : (w17.alloc (.cells #[.slice none 0 0] 26)).cell? ⟨w17.heap.size, 0, none⟩ = some (.slice none 0 0) := by simp
  clear hb ca_17 bw_17 bx_17 bg_17 B_17
  go_wp2_with fail
  refine (eqCard_any none none 0 0 [] [] 0 0 _ Ints.nil Ints.nil (Nat.zero_le _) (Nat.zero_le _) (by simp) (by simp)).mono ?_
  rintro e w19 ⟨rfl, hb⟩
  have B_19 := Lib.hid (below_step B_18.out hb)
  have ca_19 := cell_kept ca_18 hb
  have bw_19 := cell_kept bw_18 hb
  have bx_19 := cell_kept bx_18 hb
  have bg_19 := cell_kept bg_18 hb
  have bh_19 := cell_kept bh_18 hb
  clear hb ca_18 bw_18 bx_18 bg_18 bh_18 B_18
  go_wp2_with fail
  refine (heldCard_any none 0 0 0 1 _ Ints.nil (Nat.zero_le _) (by omega) (by omega) (by omega)).mono ?_
  rintro e w20 ⟨rfl, hb⟩
  have B_20 := Lib.hid (below_step B_19.out hb)
  have ca_20 := cell_kept ca_19 hb
  have bw_20 := cell_kept bw_19 hb
  have bx_20 := cell_kept bx_19 hb
  have bg_20 := cell_kept bg_19 hb
  have bh_20 := cell_kept bh_19 hb
  clear hb ca_19 bw_19 bx_19 bg_19 bh_19 B_19
  go_wp2
  go_ret
  exact ⟨rfl, B_20.out⟩

set_option maxHeartbeats 400000 in
theorem walk_good (A : Option Addr) (c : Nat) (xs : List Int) (col : Int) (row : Int) (ys : List Int) (w : World) (h : Ints w w.heap.size A xs) (hn : xs.length ≤ 1048576) (hy : ys.length ≤ 1048576)
    (hs : ∀ (W : World) (A : Option Addr) (c B : Nat), Ints W B A xs → B ≤ W.heap.size → Calls Try.prog 8 #[.agg #[.slice A xs.length c], .int .i64 col, .int .i64 row] W (GivesCard ys W))
    (hi : ∀ (W : World) (A : Option Addr) (c B : Nat), Ints W B A xs → B ≤ W.heap.size → Calls Try.prog 10 #[.agg #[.slice A xs.length c], .int .i64 col, .int .i64 row] W (GivesCard ys W)) :
    Calls Try.prog 3 #[.agg #[.slice A xs.length c], .int .i64 col, .int .i64 row] w fun e w' => e = .returned (.bool true) ∧ Below w.heap.size w w' := by
  have hz := fun W => szCard_any A xs.length c 1048576 W (by omega) (by omega) (by omega)
  have e : (if (1048576 : Int) < (xs.length : Int) then (-1 : Int) else 1048576 - xs.length) = 1048576 - xs.length := if_neg (by omega)
  rw [e] at hz
  have HZ := Lib.hid hz
  have H := Lib.hid h
  have HS := Lib.hid hs
  have HI := Lib.hid hi
  have hn' : xs.length ≤ 140737488355328 := by omega
  have hy' : ys.length ≤ 140737488355328 := by omega
  clear hz e h hs hi
  go_enter Try.func3, Try.ntmps3
  go_wp2_with fail
  refine (HZ.out _).mono ?_
  rintro e w1 ⟨rfl, hb⟩
  have B_1 := Lib.hid (below_step (below_box w _) hb)
  have ca_1 := cell_kept (p := ⟨w.heap.size, 0, none⟩) (v := .slice A xs.length c) (by simp) hb
  clear hb
  go_wp2_with fail
  refine (toCard_any A c xs w.heap.size _ (H.out.below B_1.out) B_1.out.size hn).mono ?_
  rintro e w2 ⟨ga, rfl, hg, hb, hrow⟩
  have B_2 := Lib.hid (below_step B_1.out hb)
  have ca_2 := cell_kept ca_1 hb
  have Ra_2 := Lib.hid hrow
  clear hb hrow hg ca_1 B_1
  go_wp2_with fail
  refine (HS.out _ (some ⟨ga, 0, none⟩) xs.length (ga + 1) Ra_2.out.ints Ra_2.out.lt).mono ?_
  rintro e w3 ⟨gw, cw, xw, rfl, hg, hb, hrow⟩
  have B_3 := Lib.hid (below_step B_2.out hb)
  have ca_3 := cell_kept ca_2 hb
  have Ra_3 := Lib.hid (Ra_2.out.later hb)
  have Rw_3 := Lib.hid hrow
  clear hb hrow hg ca_2 Ra_2 B_2
  clear Ra_3
  have hb := below_box w3 (.cells #[.slice (some ⟨gw, 0, none⟩) ys.length cw] 26)
  have B_4 := Lib.hid (below_step B_3.out hb)
  have ca_4 := cell_kept ca_3 hb
  have Rw_4 := Lib.hid (Rw_3.out.later hb)
  have bw_4 : (w3.alloc (.cells #[.slice (some ⟨gw, 0, none⟩) ys.length cw] 26)).cell? ⟨w3.heap.size, 0, none⟩ = some (.slice (some ⟨gw, 0, none⟩) ys.length cw) := by simp
  clear hb ca_3 Rw_3 B_3
  go_wp2_with fail
  refine (toCard_any A c xs w.heap.size _ (H.out.below B_4.out) B_4.out.size hn).mono ?_
  rintro e w5 ⟨gx, rfl, hg, hb, hrow⟩
  have L_ca_Rx : Hid (w.heap.size < gx) := Nat.lt_of_lt_of_le (World.block_lt_of_cell? _ _ ca_4) hg
  have L_Rw_Rx : Hid (gw < gx) := Nat.lt_of_lt_of_le (Rw_4.out.lt) hg
  have L_bw_Rx : Hid (w3.heap.size < gx) := Nat.lt_of_lt_of_le (World.block_lt_of_cell? _ _ bw_4) hg
  have G_Rx := Lib.hid (Nat.le_trans B_4.out.size hg)
  have B_5 := Lib.hid (below_step B_4.out hb)
  have ca_5 := cell_kept ca_4 hb
  have bw_5 := cell_kept bw_4 hb
  have Rw_5 := Lib.hid (Rw_4.out.later hb)
  have Rx_5 := Lib.hid hrow
  clear hb hrow hg ca_4 bw_4 Rw_4 B_4
  have L_Rx_bx : Hid (gx < w5.heap.size) := Nat.lt_of_lt_of_le (Rx_5.out.lt) (Nat.le_refl _)
  have hb := below_box w5 (.cells #[.slice (some ⟨gx, 0, none⟩) xs.length xs.length] 26)
  have B_6 := Lib.hid (below_step B_5.out hb)
  have ca_6 := cell_kept ca_5 hb
  have bw_6 := cell_kept bw_5 hb
  have Rw_6 := Lib.hid (Rw_5.out.later hb)
  have Rx_6 := Lib.hid (Rx_5.out.later hb)
  have bx_6 : (w5.alloc (.cells #[.slice (some ⟨gx, 0, none⟩) xs.length xs.length] 26)).cell? ⟨w5.heap.size, 0, none⟩ = some (.slice (some ⟨gx, 0, none⟩) xs.length xs.length) := by simp
  clear hb ca_5 bw_5 Rw_5 Rx_5 B_5
  go_wp2_with fail
  refine (HI.out _ (some ⟨gx, 0, none⟩) xs.length (gx + 1) Rx_6.out.ints Rx_6.out.lt).mono ?_
  rintro e w7 ⟨gg, cg, xg, rfl, hg, hb, hrow⟩
  have L_ca_Rg : Hid (w.heap.size < gg) := Nat.lt_of_lt_of_le (World.block_lt_of_cell? _ _ ca_6) hg
  have L_Rw_Rg : Hid (gw < gg) := Nat.lt_of_lt_of_le (Rw_6.out.lt) hg
  have L_bw_Rg : Hid (w3.heap.size < gg) := Nat.lt_of_lt_of_le (World.block_lt_of_cell? _ _ bw_6) hg
  have L_Rx_Rg : Hid (gx < gg) := Nat.lt_of_lt_of_le (Rx_6.out.lt) hg
  have L_bx_Rg : Hid (w5.heap.size < gg) := Nat.lt_of_lt_of_le (World.block_lt_of_cell? _ _ bx_6) hg
  have G_Rg := Lib.hid (Nat.le_trans B_6.out.size hg)
  have B_7 := Lib.hid (below_step B_6.out hb)
  have ca_7 := cell_kept ca_6 hb
  have bw_7 := cell_kept bw_6 hb
  have bx_7 := cell_kept bx_6 hb
  have Rw_7 := Lib.hid (Rw_6.out.later hb)
  have Rx_7 := Lib.hid (Rx_6.out.later hb)
  have Rg_7 := Lib.hid hrow
  clear hb hrow hg ca_6 bw_6 bx_6 Rw_6 Rx_6 B_6
  have L_Rx_bg : Hid (gx < w7.heap.size) := Nat.lt_of_lt_of_le (Rx_7.out.lt) (Nat.le_refl _)
  have L_Rg_bg : Hid (gg < w7.heap.size) := Nat.lt_of_lt_of_le (Rg_7.out.lt) (Nat.le_refl _)
  have hb := below_box w7 (.cells #[.slice (some ⟨gg, 0, none⟩) ys.length cg] 26)
  have B_8 := Lib.hid (below_step B_7.out hb)
  have ca_8 := cell_kept ca_7 hb
  have bw_8 := cell_kept bw_7 hb
  have bx_8 := cell_kept bx_7 hb
  have Rw_8 := Lib.hid (Rw_7.out.later hb)
  have Rx_8 := Lib.hid (Rx_7.out.later hb)
  have Rg_8 := Lib.hid (Rg_7.out.later hb)
  have bg_8 : (w7.alloc (.cells #[.slice (some ⟨gg, 0, none⟩) ys.length cg] 26)).cell? ⟨w7.heap.size, 0, none⟩ = some (.slice (some ⟨gg, 0, none⟩) ys.length cg) := by simp
  clear hb ca_7 bw_7 bx_7 Rw_7 Rx_7 Rg_7 B_7
  go_wp2_with fail
  refine (eqCard_any (some ⟨gg, 0, none⟩) (some ⟨gw, 0, none⟩) cg cw ys ys (gg + 1) (gw + 1) _ Rg_8.out.ints Rw_8.out.ints Rg_8.out.lt Rw_8.out.lt hy hy').mono ?_
  rintro e w9 ⟨rfl, hb⟩
  have B_9 := Lib.hid (below_step B_8.out hb)
  have ca_9 := cell_kept ca_8 hb
  have bw_9 := cell_kept bw_8 hb
  have bx_9 := cell_kept bx_8 hb
  have bg_9 := cell_kept bg_8 hb
  have Rw_9 := Lib.hid (Rw_8.out.later hb)
  have Rx_9 := Lib.hid (Rx_8.out.later hb)
  have Rg_9 := Lib.hid (Rg_8.out.later hb)
  clear hb ca_8 bw_8 bx_8 bg_8 Rw_8 Rx_8 Rg_8 B_8
  go_wp2
  go_region_held3 (fun W => W.cell? ⟨w.heap.size, 0, none⟩ = some (.slice A xs.length c) ∧ W.cell? ⟨w5.heap.size, 0, none⟩ = some (.slice (some ⟨gx, 0, none⟩) xs.length xs.length))
    (first | exact ⟨ca_9, bx_9⟩ | exact ⟨ca_10, bx_10⟩ | exact ⟨ca_11, bx_11⟩)
    (first
      | (go_at_call 9
         refine (toCard_any A c xs w.heap.size _ ?_ ?_ hn).mono ?_
         · exact H.out.below B_9.out.drew
         · exact B_9.out.drew.size
         rintro e w10 ⟨ge, rfl, hg, hb, hrow⟩
         have L_Rx_Re : Hid (gx < ge) := Nat.lt_of_lt_of_le (Rx_9.out.lt) hg
         have L_Rg_Re : Hid (gg < ge) := Nat.lt_of_lt_of_le (Rg_9.out.lt) hg
         have B_10 := Lib.hid (below_step B_9.out.drew hb)
         have ca_10 := cell_kept (w := w9.drew) ca_9 hb
         have bw_10 := cell_kept (w := w9.drew) bw_9 hb
         have bx_10 := cell_kept (w := w9.drew) bx_9 hb
         have bg_10 := cell_kept (w := w9.drew) bg_9 hb
         have Rw_10 := Lib.hid (Rw_9.out.drew.later hb)
         have Rx_10 := Lib.hid (Rx_9.out.drew.later hb)
         have Rg_10 := Lib.hid (Rg_9.out.drew.later hb)
         have Re_10 := Lib.hid hrow
         clear hb hrow hg)
      | (go_at_call 11
         refine (eqCard_any (some ⟨gx, 0, none⟩) (some ⟨ge, 0, none⟩) _ _ xs xs (gx + 1) (ge + 1) _ ?_ ?_ ?_ ?_ hn hn').mono ?_
         · exact Rx_10.out.ints
         · exact Re_10.out.ints
         · exact Rx_10.out.lt
         · exact Re_10.out.lt
         rintro e w11 ⟨rfl, hb⟩
         have B_11 := Lib.hid (below_step B_10.out hb)
         have ca_11 := cell_kept ca_10 hb
         have bw_11 := cell_kept bw_10 hb
         have bx_11 := cell_kept bx_10 hb
         have bg_11 := cell_kept bg_10 hb
         have Rw_11 := Lib.hid (Rw_10.out.later hb)
         have Rx_11 := Lib.hid (Rx_10.out.later hb)
         have Rg_11 := Lib.hid (Rg_10.out.later hb)
         have Re_11 := Lib.hid (Re_10.out.later hb)
         clear hb))
  clear ca_9 bw_9 bx_9 bg_9 Rw_9 Rx_9 Rg_9 B_9 ca_10 bw_10 bx_10 bg_10 Rw_10 Rx_10 Rg_10 Re_10 B_10
  clear Re_11
  go_wp2_with fail
  refine (markCard_any gx xs.length xs [] 1 _ Rx_11.out (by omega) (by omega) hn).mono ?_
  rintro e w12 ⟨rfl, hg, hrow⟩
  have B_12 := Lib.hid (below_only B_11.out hg G_Rx.out)
  have ca_12 := cell_only hg ca_11 (Nat.ne_of_lt L_ca_Rx.out)
  have bw_12 := cell_only hg bw_11 (Nat.ne_of_lt L_bw_Rx.out)
  have bx_12 := cell_only hg bx_11 (Nat.ne_of_gt L_Rx_bx.out)
  have bg_12 := cell_only hg bg_11 (Nat.ne_of_gt L_Rx_bg.out)
  have Rw_12 := Lib.hid (Row.only hg Rw_11.out (Nat.ne_of_lt L_Rw_Rx.out))
  have Rx_12 := Lib.hid hrow
  have Rg_12 := Lib.hid (Row.only hg Rg_11.out (Nat.ne_of_gt L_Rx_Rg.out))
  clear hg hrow B_11 ca_11 bw_11 bx_11 bg_11 Rw_11 Rx_11 Rg_11
  clear Rx_12
  go_wp2_with fail
  refine (eqCard_any (some ⟨gg, 0, none⟩) (some ⟨gw, 0, none⟩) cg cw ys ys (gg + 1) (gw + 1) _ Rg_12.out.ints Rw_12.out.ints Rg_12.out.lt Rw_12.out.lt hy hy').mono ?_
  rintro e w13 ⟨rfl, hb⟩
  have B_13 := Lib.hid (below_step B_12.out hb)
  have ca_13 := cell_kept ca_12 hb
  have bw_13 := cell_kept bw_12 hb
  have bx_13 := cell_kept bx_12 hb
  have bg_13 := cell_kept bg_12 hb
  have Rw_13 := Lib.hid (Rw_12.out.later hb)
  have Rg_13 := Lib.hid (Rg_12.out.later hb)
  clear hb ca_12 bw_12 bx_12 bg_12 Rw_12 Rg_12 B_12
  go_wp2_with fail
  refine (markCard_any gg cg ys xg 1 _ Rg_13.out (by omega) (by omega) hy).mono ?_
  rintro e w14 ⟨rfl, hg, hrow⟩
  have B_14 := Lib.hid (below_only B_13.out hg G_Rg.out)
  have ca_14 := cell_only hg ca_13 (Nat.ne_of_lt L_ca_Rg.out)
  have bw_14 := cell_only hg bw_13 (Nat.ne_of_lt L_bw_Rg.out)
  have bx_14 := cell_only hg bx_13 (Nat.ne_of_lt L_bx_Rg.out)
  have bg_14 := cell_only hg bg_13 (Nat.ne_of_gt L_Rg_bg.out)
  have Rw_14 := Lib.hid (Row.only hg Rw_13.out (Nat.ne_of_lt L_Rw_Rg.out))
  have Rg_14 := Lib.hid hrow
  clear hg hrow B_13 ca_13 bw_13 bx_13 bg_13 Rw_13 Rg_13
  go_wp2_with fail
  refine (heldCard_any (some ⟨gg, 0, none⟩) cg ys.length (gg + 1) 1 _ Rg_14.out.ints Rg_14.out.lt (by omega) (by omega) hy).mono ?_
  rintro e w15 ⟨rfl, hb⟩
  have B_15 := Lib.hid (below_step B_14.out hb)
  have ca_15 := cell_kept ca_14 hb
  have bw_15 := cell_kept bw_14 hb
  have bx_15 := cell_kept bx_14 hb
  have bg_15 := cell_kept bg_14 hb
  have Rw_15 := Lib.hid (Rw_14.out.later hb)
  have Rg_15 := Lib.hid (Rg_14.out.later hb)
  clear hb ca_14 bw_14 bx_14 bg_14 Rw_14 Rg_14 B_14
  go_wp2_with fail
  refine (toCard_any A c xs w.heap.size _ (H.out.below B_15.out) B_15.out.size hn).mono ?_
  rintro e w16 ⟨gb, rfl, hg, hb, hrow⟩
  have L_Rg_Rb : Hid (gg < gb) := Nat.lt_of_lt_of_le (Rg_15.out.lt) hg
  have B_16 := Lib.hid (below_step B_15.out hb)
  have ca_16 := cell_kept ca_15 hb
  have bw_16 := cell_kept bw_15 hb
  have bx_16 := cell_kept bx_15 hb
  have bg_16 := cell_kept bg_15 hb
  have Rw_16 := Lib.hid (Rw_15.out.later hb)
  have Rg_16 := Lib.hid (Rg_15.out.later hb)
  have Rb_16 := Lib.hid hrow
  clear hb hrow hg ca_15 bw_15 bx_15 bg_15 Rw_15 Rg_15 B_15
  go_wp2_with fail
  refine (HI.out _ (some ⟨gb, 0, none⟩) xs.length (gb + 1) Rb_16.out.ints Rb_16.out.lt).mono ?_
  rintro e w17 ⟨gh, ch, xh, rfl, hg, hb, hrow⟩
  have L_Rg_Rh : Hid (gg < gh) := Nat.lt_of_lt_of_le (Rg_16.out.lt) hg
  have B_17 := Lib.hid (below_step B_16.out hb)
  have ca_17 := cell_kept ca_16 hb
  have bw_17 := cell_kept bw_16 hb
  have bx_17 := cell_kept bx_16 hb
  have bg_17 := cell_kept bg_16 hb
  have Rw_17 := Lib.hid (Rw_16.out.later hb)
  have Rg_17 := Lib.hid (Rg_16.out.later hb)
  have Rb_17 := Lib.hid (Rb_16.out.later hb)
  have Rh_17 := Lib.hid hrow
  clear hb hrow hg ca_16 bw_16 bx_16 bg_16 Rw_16 Rg_16 Rb_16 B_16
  clear Rb_17
  have L_Rg_bh : Hid (gg < w17.heap.size) := Nat.lt_of_lt_of_le (Rg_17.out.lt) (Nat.le_refl _)
  have hb := below_box w17 (.cells #[.slice (some ⟨gh, 0, none⟩) ys.length ch] 26)
  have B_18 := Lib.hid (below_step B_17.out hb)
  have ca_18 := cell_kept ca_17 hb
  have bw_18 := cell_kept bw_17 hb
  have bx_18 := cell_kept bx_17 hb
  have bg_18 := cell_kept bg_17 hb
  have Rw_18 := Lib.hid (Rw_17.out.later hb)
  have Rg_18 := Lib.hid (Rg_17.out.later hb)
  have Rh_18 := Lib.hid (Rh_17.out.later hb)
  have bh_18 : (w17.alloc (.cells #[.slice (some ⟨gh, 0, none⟩) ys.length ch] 26)).cell? ⟨w17.heap.size, 0, none⟩ = some (.slice (some ⟨gh, 0, none⟩) ys.length ch) := by simp
  clear hb ca_17 bw_17 bx_17 bg_17 Rw_17 Rg_17 Rh_17 B_17
  go_wp2_with fail
  refine (eqCard_any (some ⟨gh, 0, none⟩) (some ⟨gw, 0, none⟩) ch cw ys ys (gh + 1) (gw + 1) _ Rh_18.out.ints Rw_18.out.ints Rh_18.out.lt Rw_18.out.lt hy hy').mono ?_
  rintro e w19 ⟨rfl, hb⟩
  have B_19 := Lib.hid (below_step B_18.out hb)
  have ca_19 := cell_kept ca_18 hb
  have bw_19 := cell_kept bw_18 hb
  have bx_19 := cell_kept bx_18 hb
  have bg_19 := cell_kept bg_18 hb
  have bh_19 := cell_kept bh_18 hb
  have Rw_19 := Lib.hid (Rw_18.out.later hb)
  have Rg_19 := Lib.hid (Rg_18.out.later hb)
  have Rh_19 := Lib.hid (Rh_18.out.later hb)
  clear hb ca_18 bw_18 bx_18 bg_18 bh_18 Rw_18 Rg_18 Rh_18 B_18
  go_wp2_with fail
  refine (heldCard_any (some ⟨gg, 0, none⟩) cg ys.length (gg + 1) 1 _ Rg_19.out.ints Rg_19.out.lt (by omega) (by omega) hy).mono ?_
  rintro e w20 ⟨rfl, hb⟩
  have B_20 := Lib.hid (below_step B_19.out hb)
  have ca_20 := cell_kept ca_19 hb
  have bw_20 := cell_kept bw_19 hb
  have bx_20 := cell_kept bx_19 hb
  have bg_20 := cell_kept bg_19 hb
  have bh_20 := cell_kept bh_19 hb
  have Rw_20 := Lib.hid (Rw_19.out.later hb)
  have Rg_20 := Lib.hid (Rg_19.out.later hb)
  have Rh_20 := Lib.hid (Rh_19.out.later hb)
  clear hb ca_19 bw_19 bx_19 bg_19 bh_19 Rw_19 Rg_19 Rh_19 B_19
  go_wp2
  go_ret
  exact ⟨rfl, B_20.out⟩

theorem walk (A : Option Addr) (c : Nat) (xs : List Int) {w : World} (h : Ints w w.heap.size A xs) (hl : xs.length ≤ 9223372036854775807) (_ : ∀ n ∈ xs, (Lit.int .i64 n).wf = true) (col : Int) (_ : (Lit.int .i64 col).wf = true) (row : Int) (_ : (Lit.int .i64 row).wf = true) (w1 : World) (e1 : w = w1) :
    Calls Try.prog 3 #[.agg #[.slice A xs.length c], .int .i64 col, .int .i64 row] w1 fun e w' => e = .returned (.bool true) ∧ Below w1.heap.size w1 w' := by
  subst e1
  by_cases hn : xs.length ≤ 1048576
  · by_cases e : atCode xs col row = 0
    · obtain ⟨e', hv, hc, hr⟩ : atCode xs col row = 0 ∧ okB xs = true ∧ (decide (0 ≤ col) && decide (col < xs.length)) = true ∧ rowBit row ≠ 0 := by
        rcases atCode_cases xs col row with h' | h' | h' | h' <;> first | exact h' | (rw [e] at h'; exact absurd h'.1 (by decide))
      obtain ⟨k, rfl, hk⟩ := column_of hc
      cases hh : holeB xs k row
      · exact walk_good A c xs k row _ w h hn (by simpa using hn) (fun W A c B hI hB => specPunch_good A c xs B k row W hI hB hn hk e hh) (fun W A c B hI hB => implPunch_good A c xs B k row W hI hB hn hk e hh)
      · exact walk_bad A c xs k row 4 w h hn (fun W A c B hI hB => specPunch_there A c xs B k row W hI hB hn hk e hh) (fun W A c B hI hB => implPunch_there A c xs B k row W hI hB hn hk e hh)
    · exact walk_bad A c xs col row _ w h hn (fun W A c B hI hB => specPunch_bad A c xs B col row W hI hB hn e) (fun W A c B hI hB => implPunch_bad A c xs B col row W hI hB hn e)
  · exact walk_big A c xs.length col row w hl (by omega)

set_option maxRecDepth 100000 in
theorem lifted (os : Os) (started : os.Started) (H : Type) (enc : TypeId × Value → H) :
    ReturnsInHanded {} Try.checked os 3 .any (Rows.fnExactPunchHoleSpec.pre6 enc Try.prog Try.f3 Rows.fnExactPunchHoleRow.domain false) (Rows.fnExactPunchHoleSpec.post enc Try.prog Try.f3 false true false false) := by
  refine returnsInHanded_of_change (C := Try.checked) own started (by kernel_rfl) Try.func3
    (ChangeSpec.witness6 (enc := enc) (C := Try.checked) false ⟨#[], #[.agg #[.slice none 0 0], .int .i64 0, .int .i64 0], []⟩ 8 (by kernel_rfl) (by kernel_rfl) (by kernel_rfl) (by kernel_rfl)) ?_
  intro W base args ds gs before hval0 hW _ _
  have hval : ∀ (j : Nat) t v, Try.f3.params[j]? = some t → args[j]? = some v → Value.okWide Try.prog W .any base t v := hval0
  have hW' := hW
  obtain ⟨p, q, hA0, hV, rfl, _, _⟩ := hW
  have hA : DataW.TrodAll enc Try.prog W 0 (fun _ => true) true Try.f3.params.toList args.toList ds p := hA0
  rw [Try.params3] at hA hval
  obtain ⟨v0, vs0, d0, ds0, p0, q0, hargs, rfl, rfl, h0, r0⟩ := trodAll_cons hA
  obtain ⟨v1, vs1, d1, ds1, p1, q1, rfl, rfl, rfl, h1, r1⟩ := trodAll_cons r0
  obtain ⟨v2, vs2, d2, ds2, p2, q2, rfl, rfl, rfl, h2, r2⟩ := trodAll_cons r1
  obtain ⟨rfl, rfl, rfl⟩ := trodAll_nil r2
  obtain rfl : args = #[v0, v1, v2] := by cases args; simp_all
  obtain ⟨rfl, rfl⟩ := trodVars_none hV
  obtain ⟨A0, c0, xs0, rfl, i0, l0, w0⟩ := open_card (hval 0 24 v0 rfl rfl) h0
  obtain ⟨a1, rfl, rfl, rfl, w1⟩ := open_int Try.underlying2 (hval 1 2 v1 rfl rfl) h1
  obtain ⟨a2, rfl, rfl, rfl, w2⟩ := open_int Try.underlying2 (hval 2 2 v2 rfl rfl) h2
  refine (walk A0 c0 xs0 i0 l0 w0 a1 w1 a2 w2 W rfl).mono fun e W' ⟨he, hb⟩ => ?_
  subst he
  refine ⟨_, rfl, law_post hW' rfl rfl ?_ rfl rfl rfl hb⟩
  intro t ht
  rw [Try.params3] at ht
  have ht' : t = 24 ∨ t = 2 ∨ t = 2 := by simpa using ht
  rcases ht' with rfl | rfl | rfl <;> exact ⟨by kernel_rfl, of_decide_eq_true (by kernel_rfl)⟩

theorem over : Rows.fnExactPunchHoleRow.holds Try.pinned (OpenSpec.ofChange Rows.fnExactPunchHoleSpec) :=
  OpenClaim.holds_of_wide 3 Try.f3 rfl rfl rfl rfl rfl rfl rfl ⟨rfl, rfl, rfl, rfl, rfl⟩ rfl rfl rfl rfl rfl (by kernel_rfl) Try.func3 (by kernel_rfl)
    (of_decide_eq_true (by kernel_rfl)) (by unfold Func.isWrapper; first | (rw [if_pos (by decide +kernel)]; kernel_rfl) | (rw [if_neg (by decide +kernel)]; exact ⟨rfl, rfl⟩))
    (fun os started H enc _ => lifted os started H enc)

theorem proved : Rows.FnExactPunchHoleSaid :=
  over
end Go.Proofs.Ytjfogadcedgndab.fnExactPunchHole
