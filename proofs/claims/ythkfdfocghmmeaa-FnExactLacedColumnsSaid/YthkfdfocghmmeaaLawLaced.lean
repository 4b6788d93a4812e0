/- For every card, the law FnExactLacedColumns returns true: impl.LacedColumns answers as spec.LacedColumns, in memory of its own, and leaves its argument as it was. Conditions: none. -/
import Derived.Test.YthkfdfocghmmeaaLaced
import Derived.Test.YthkfdfocghmmeaaLists
import Derived.Test.YthkfdfocghmmeaaLaw
import Derived.Deep.RegionHeld3
namespace Go.Proofs.Ythkfdfocghmmeaa.fnExactLacedColumns
open Go.ChangeShapes Go.WideShapes Go.ChangeAt Go.RowKit

theorem walk_big (A : Option Addr) (c n : Nat) (w : World) (hn : n ≤ 9223372036854775807) (hbig : 1048576 < n) :
    Calls Try.prog 5 #[.agg #[.slice A n c]] w fun e w' => e = .returned (.bool true) ∧ Below w.heap.size w w' := by
  have hs := fun W => szCard_any A n c 1048576 W (by omega) (by omega) hn
  have e : (if (1048576 : Int) < (n : Int) then (-1 : Int) else 1048576 - n) = -1 := if_pos (by omega)
  rw [e] at hs
  have HS := Lib.hid hs
  clear hs e
  go_enter Try.func5, Try.ntmps5
  go_wp2_with fail
  refine (HS.out _).mono ?_
  rintro e w1 ⟨rfl, hb1⟩
  have B1 := Lib.hid (below_step (below_box w _) hb1)
  clear hb1
  go_wp2
  go_ret
  exact ⟨rfl, B1.out⟩

set_option maxHeartbeats 400000 in
theorem walk_none (A : Option Addr) (c : Nat) (xs : List Int) (a : Int) (w : World) (h : Ints w w.heap.size A xs) (hn : xs.length ≤ 1048576)
    (hs : ∀ (W : World) (A : Option Addr) (c B : Nat), Ints W B A xs → B ≤ W.heap.size → Calls Try.prog 22 #[.agg #[.slice A xs.length c]] W (GivesNone a W))
    (hi : ∀ (W : World) (A : Option Addr) (c B : Nat), Ints W B A xs → B ≤ W.heap.size → Calls Try.prog 23 #[.agg #[.slice A xs.length c]] W (GivesNone a W)) :
    Calls Try.prog 5 #[.agg #[.slice A xs.length c]] w fun e w' => e = .returned (.bool true) ∧ Below w.heap.size w w' := by
  have hz := fun W => szCard_any A xs.length c 1048576 W (by omega) (by omega) (by omega)
  have e : (if (1048576 : Int) < (xs.length : Int) then (-1 : Int) else 1048576 - xs.length) = 1048576 - xs.length := if_neg (by omega)
  rw [e] at hz
  have HZ := Lib.hid hz
  have H := Lib.hid h
  have HS := Lib.hid hs
  have HI := Lib.hid hi
  have hn' : xs.length ≤ 140737488355328 := by omega
  clear hz e h hs hi
  go_enter Try.func5, Try.ntmps5
  go_wp2_with fail
  refine (HZ.out _).mono ?_
  rintro e w1 ⟨rfl, hb⟩
  have B_1 := Lib.hid (below_step (below_box w _) hb)
  have ca_1 := cell_kept (p := ⟨w.heap.size, 0, none⟩) (v := .slice A xs.length c) (by simp [go_sem]) hb
  clear hb
  go_wp2_with fail
  refine (toCard_any A c xs w.heap.size _ (H.out.below B_1.out) B_1.out.size hn).mono ?_
  rintro e w2 ⟨ga, rfl, hg, hb, hrow⟩
  have B_2 := Lib.hid (below_step B_1.out hb)
  have ca_2 := cell_kept ca_1 hb
  have Ra_2 := Lib.hid hrow
  clear hb hrow hg ca_1 B_1
  go_wp2_with fail
  refine (HS.out _ (some ⟨ga, 0, none⟩) xs.length (ga + 1) Ra_2.out.ints Ra_2.out.lt).mono ?_
  rintro e w3 ⟨Aw, cw, rfl, hb⟩
  have B_3 := Lib.hid (below_step B_2.out hb)
  have ca_3 := cell_kept ca_2 hb
  have Ra_3 := Lib.hid (Ra_2.out.later hb)
  clear hb ca_2 Ra_2 B_2
  clear Ra_3
  go_wp2_with fail
  refine (toCard_any A c xs w.heap.size _ (H.out.below B_3.out) B_3.out.size hn).mono ?_
  rintro e w4 ⟨gx, rfl, hg, hb, hrow⟩
  have L_ca_Rx : Hid (w.heap.size < gx) := Nat.lt_of_lt_of_le (World.block_lt_of_cell? _ _ ca_3) hg
  have G_Rx := Lib.hid (Nat.le_trans B_3.out.size hg)
  have B_4 := Lib.hid (below_step B_3.out hb)
  have ca_4 := cell_kept ca_3 hb
  have Rx_4 := Lib.hid hrow
  clear hb hrow hg ca_3 B_3
  have L_Rx_bx : Hid (gx < w4.heap.size) := Nat.lt_of_lt_of_le (Rx_4.out.lt) (Nat.le_refl _)
  have hb := below_box w4 (.cells #[.slice (some ⟨gx, 0, none⟩) xs.length xs.length] 28)
  have B_5 := Lib.hid (below_step B_4.out hb)
  have ca_5 := cell_kept ca_4 hb
  have Rx_5 := Lib.hid (Rx_4.out.later hb)
  have bx_5 : (w4.alloc (.cells #[.slice (some ⟨gx, 0, none⟩) xs.length xs.length] 28)).cell? ⟨w4.heap.size, 0, none⟩ = some (.slice (some ⟨gx, 0, none⟩) xs.length xs.length) := by simp
  clear hb ca_4 Rx_4 B_4
  go_wp2_with fail
  refine (HI.out _ (some ⟨gx, 0, none⟩) xs.length (gx + 1) Rx_5.out.ints Rx_5.out.lt).mono ?_
  rintro e w6 ⟨Ag, cg, rfl, hb⟩
  have B_6 := Lib.hid (below_step B_5.out hb)
  have ca_6 := cell_kept ca_5 hb
  have bx_6 := cell_kept bx_5 hb
  have Rx_6 := Lib.hid (Rx_5.out.later hb)
  clear hb ca_5 bx_5 Rx_5 B_5
  go_wp2_with fail
  refine (eqNil_any Ag Aw cg cw _).mono ?_
  rintro e w7 ⟨rfl, hb⟩
  have B_7 := Lib.hid (below_step B_6.out hb)
  have ca_7 := cell_kept ca_6 hb
  have bx_7 := cell_kept bx_6 hb
  have Rx_7 := Lib.hid (Rx_6.out.later hb)
  clear hb ca_6 bx_6 Rx_6 B_6
  go_wp2
  go_region_held3 (fun W => W.cell? ⟨w.heap.size, 0, none⟩ = some (.slice A xs.length c) ∧ W.cell? ⟨w4.heap.size, 0, none⟩ = some (.slice (some ⟨gx, 0, none⟩) xs.length xs.length))
    (first | exact ⟨ca_7, bx_7⟩ | exact ⟨ca_8, bx_8⟩ | exact ⟨ca_9, bx_9⟩)
    (first
      | (go_at_call 15
         refine (toCard_any A c xs w.heap.size _ ?_ ?_ hn).mono ?_
         · exact H.out.below B_7.out.drew
         · exact B_7.out.drew.size
         rintro e w8 ⟨ge, rfl, hg, hb, hrow⟩
         have L_Rx_Re : Hid (gx < ge) := Nat.lt_of_lt_of_le (Rx_7.out.lt) hg
         have B_8 := Lib.hid (below_step B_7.out.drew hb)
         have ca_8 := cell_kept (w := w7.drew) ca_7 hb
         have bx_8 := cell_kept (w := w7.drew) bx_7 hb
         have Rx_8 := Lib.hid (Rx_7.out.drew.later hb)
         have Re_8 := Lib.hid hrow
         clear hb hrow hg)
      | (go_at_call 17
         refine (eqCard_any (some ⟨gx, 0, none⟩) (some ⟨ge, 0, none⟩) _ _ xs xs (gx + 1) (ge + 1) _ ?_ ?_ ?_ ?_ hn hn').mono ?_
         · exact Rx_8.out.ints
         · exact Re_8.out.ints
         · exact Rx_8.out.lt
         · exact Re_8.out.lt
         rintro e w9 ⟨rfl, hb⟩
         have B_9 := Lib.hid (below_step B_8.out hb)
         have ca_9 := cell_kept ca_8 hb
         have bx_9 := cell_kept bx_8 hb
         have Rx_9 := Lib.hid (Rx_8.out.later hb)
         have Re_9 := Lib.hid (Re_8.out.later hb)
         clear hb))
  clear ca_7 bx_7 Rx_7 B_7 ca_8 bx_8 Rx_8 Re_8 B_8
  clear Re_9
  go_wp2_with fail
  refine (markCard_any gx xs.length xs [] 1 _ Rx_9.out (by omega) (by omega) hn).mono ?_
  rintro e w10 ⟨rfl, hg, hrow⟩
  have B_10 := Lib.hid (below_only B_9.out hg G_Rx.out)
  have ca_10 := cell_only hg ca_9 (Nat.ne_of_lt L_ca_Rx.out)
  have bx_10 := cell_only hg bx_9 (Nat.ne_of_gt L_Rx_bx.out)
  have Rx_10 := Lib.hid hrow
  clear hg hrow B_9 ca_9 bx_9 Rx_9
  clear Rx_10
  go_wp2_with fail
  refine (eqNil_any Ag Aw cg cw _).mono ?_
  rintro e w11 ⟨rfl, hb⟩
  have B_11 := Lib.hid (below_step B_10.out hb)
  have ca_11 := cell_kept ca_10 hb
  have bx_11 := cell_kept bx_10 hb
  clear hb ca_10 bx_10 B_10
  go_wp2_with fail
  refine (markNil_any Ag cg 1 _).mono ?_
  rintro e w12 ⟨rfl, hb⟩
  have B_12 := Lib.hid (below_step B_11.out hb)
  have ca_12 := cell_kept ca_11 hb
  have bx_12 := cell_kept bx_11 hb
  clear hb ca_11 bx_11 B_11
  go_wp2_with fail
  refine (heldNil_any Ag cg 1 _ (by omega) (by omega)).mono ?_
  rintro e w13 ⟨rfl, hb⟩
  have B_13 := Lib.hid (below_step B_12.out hb)
  have ca_13 := cell_kept ca_12 hb
  have bx_13 := cell_kept bx_12 hb
  clear hb ca_12 bx_12 B_12
  go_wp2_with fail
  refine (toCard_any A c xs w.heap.size _ (H.out.below B_13.out) B_13.out.size hn).mono ?_
  rintro e w14 ⟨gb, rfl, hg, hb, hrow⟩
  have B_14 := Lib.hid (below_step B_13.out hb)
  have ca_14 := cell_kept ca_13 hb
  have bx_14 := cell_kept bx_13 hb
  have Rb_14 := Lib.hid hrow
  clear hb hrow hg ca_13 bx_13 B_13
  go_wp2_with fail
  refine (HI.out _ (some ⟨gb, 0, none⟩) xs.length (gb + 1) Rb_14.out.ints Rb_14.out.lt).mono ?_
  rintro e w15 ⟨Ah, ch, rfl, hb⟩
  have B_15 := Lib.hid (below_step B_14.out hb)
  have ca_15 := cell_kept ca_14 hb
  have bx_15 := cell_kept bx_14 hb
  have Rb_15 := Lib.hid (Rb_14.out.later hb)
  clear hb ca_14 bx_14 Rb_14 B_14
  clear Rb_15
  go_wp2_with fail
  refine (eqNil_any Ah Aw ch cw _).mono ?_
  rintro e w16 ⟨rfl, hb⟩
  have B_16 := Lib.hid (below_step B_15.out hb)
  have ca_16 := cell_kept ca_15 hb
  have bx_16 := cell_kept bx_15 hb
  clear hb ca_15 bx_15 B_15
  go_wp2_with fail
  refine (heldNil_any Ag cg 1 _ (by omega) (by omega)).mono ?_
  rintro e w17 ⟨rfl, hb⟩
  have B_17 := Lib.hid (below_step B_16.out hb)
  have ca_17 := cell_kept ca_16 hb
  have bx_17 := cell_kept bx_16 hb
  clear hb ca_16 bx_16 B_16
  go_wp2
  go_ret
  exact ⟨rfl, B_17.out⟩

set_option maxHeartbeats 400000 in
theorem walk_some (A : Option Addr) (c : Nat) (xs : List Int) (ys : List Int) (a : Int) (w : World) (h : Ints w w.heap.size A xs) (hn : xs.length ≤ 1048576) (hy : ys.length ≤ 1048576)
    (hs : ∀ (W : World) (A : Option Addr) (c B : Nat), Ints W B A xs → B ≤ W.heap.size → Calls Try.prog 22 #[.agg #[.slice A xs.length c]] W (GivesSome ys a W))
    (hi : ∀ (W : World) (A : Option Addr) (c B : Nat), Ints W B A xs → B ≤ W.heap.size → Calls Try.prog 23 #[.agg #[.slice A xs.length c]] W (GivesSome ys a W)) :
    Calls Try.prog 5 #[.agg #[.slice A xs.length c]] w fun e w' => e = .returned (.bool true) ∧ Below w.heap.size w w' := by
  have hz := fun W => szCard_any A xs.length c 1048576 W (by omega) (by omega) (by omega)
  have e : (if (1048576 : Int) < (xs.length : Int) then (-1 : Int) else 1048576 - xs.length) = 1048576 - xs.length := if_neg (by omega)
  rw [e] at hz
  have HZ := Lib.hid hz
  have H := Lib.hid h
  have HS := Lib.hid hs
  have HI := Lib.hid hi
  have hn' : xs.length ≤ 140737488355328 := by omega
  clear hz e h hs hi
  go_enter Try.func5, Try.ntmps5
  go_wp2_with fail
  refine (HZ.out _).mono ?_
  rintro e w1 ⟨rfl, hb⟩
  have B_1 := Lib.hid (below_step (below_box w _) hb)
  have ca_1 := cell_kept (p := ⟨w.heap.size, 0, none⟩) (v := .slice A xs.length c) (by simp [go_sem]) hb
  clear hb
  go_wp2_with fail
  refine (toCard_any A c xs w.heap.size _ (H.out.below B_1.out) B_1.out.size hn).mono ?_
  rintro e w2 ⟨ga, rfl, hg, hb, hrow⟩
  have B_2 := Lib.hid (below_step B_1.out hb)
  have ca_2 := cell_kept ca_1 hb
  have Ra_2 := Lib.hid hrow
  clear hb hrow hg ca_1 B_1
  go_wp2_with fail
  refine (HS.out _ (some ⟨ga, 0, none⟩) xs.length (ga + 1) Ra_2.out.ints Ra_2.out.lt).mono ?_
  rintro e w3 ⟨gw, cw, xw, rfl, hg, hb, hrow⟩
  have B_3 := Lib.hid (below_step B_2.out hb)
  have ca_3 := cell_kept ca_2 hb
  have Ra_3 := Lib.hid (Ra_2.out.later hb)
  have Rw_3 := Lib.hid hrow
  clear hb hrow hg ca_2 Ra_2 B_2
  clear Ra_3
  go_wp2_with fail
  refine (toCard_any A c xs w.heap.size _ (H.out.below B_3.out) B_3.out.size hn).mono ?_
  rintro e w4 ⟨gx, rfl, hg, hb, hrow⟩
  have L_ca_Rx : Hid (w.heap.size < gx) := Nat.lt_of_lt_of_le (World.block_lt_of_cell? _ _ ca_3) hg
  have L_Rw_Rx : Hid (gw < gx) := Nat.lt_of_lt_of_le (Rw_3.out.lt) hg
  have G_Rx := Lib.hid (Nat.le_trans B_3.out.size hg)
  have B_4 := Lib.hid (below_step B_3.out hb)
  have ca_4 := cell_kept ca_3 hb
  have Rw_4 := Lib.hid (Rw_3.out.later hb)
  have Rx_4 := Lib.hid hrow
  clear hb hrow hg ca_3 Rw_3 B_3
  have L_Rx_bx : Hid (gx < w4.heap.size) := Nat.lt_of_lt_of_le (Rx_4.out.lt) (Nat.le_refl _)
  have hb := below_box w4 (.cells #[.slice (some ⟨gx, 0, none⟩) xs.length xs.length] 28)
  have B_5 := Lib.hid (below_step B_4.out hb)
  have ca_5 := cell_kept ca_4 hb
  have Rw_5 := Lib.hid (Rw_4.out.later hb)
  have Rx_5 := Lib.hid (Rx_4.out.later hb)
  have bx_5 : (w4.alloc (.cells #[.slice (some ⟨gx, 0, none⟩) xs.length xs.length] 28)).cell? ⟨w4.heap.size, 0, none⟩ = some (.slice (some ⟨gx, 0, none⟩) xs.length xs.length) := by simp
  clear hb ca_4 Rw_4 Rx_4 B_4
  go_wp2_with fail
  refine (HI.out _ (some ⟨gx, 0, none⟩) xs.length (gx + 1) Rx_5.out.ints Rx_5.out.lt).mono ?_
  rintro e w6 ⟨gg, cg, xg, rfl, hg, hb, hrow⟩
  have L_ca_Rg : Hid (w.heap.size < gg) := Nat.lt_of_lt_of_le (World.block_lt_of_cell? _ _ ca_5) hg
  have L_Rw_Rg : Hid (gw < gg) := Nat.lt_of_lt_of_le (Rw_5.out.lt) hg
  have L_Rx_Rg : Hid (gx < gg) := Nat.lt_of_lt_of_le (Rx_5.out.lt) hg
  have L_bx_Rg : Hid (w4.heap.size < gg) := Nat.lt_of_lt_of_le (World.block_lt_of_cell? _ _ bx_5) hg
  have G_Rg := Lib.hid (Nat.le_trans B_5.out.size hg)
  have B_6 := Lib.hid (below_step B_5.out hb)
  have ca_6 := cell_kept ca_5 hb
  have bx_6 := cell_kept bx_5 hb
  have Rw_6 := Lib.hid (Rw_5.out.later hb)
  have Rx_6 := Lib.hid (Rx_5.out.later hb)
  have Rg_6 := Lib.hid hrow
  clear hb hrow hg ca_5 bx_5 Rw_5 Rx_5 B_5
  go_wp2_with fail
  refine (eqList_any (some ⟨gg, 0, none⟩) (some ⟨gw, 0, none⟩) cg cw ys (gg + 1) (gw + 1) _ Rg_6.out.ints Rw_6.out.ints hy).mono ?_
  rintro e w7 ⟨rfl, hb⟩
  have B_7 := Lib.hid (below_step B_6.out hb)
  have ca_7 := cell_kept ca_6 hb
  have bx_7 := cell_kept bx_6 hb
  have Rw_7 := Lib.hid (Rw_6.out.later hb)
  have Rx_7 := Lib.hid (Rx_6.out.later hb)
  have Rg_7 := Lib.hid (Rg_6.out.later hb)
  clear hb ca_6 bx_6 Rw_6 Rx_6 Rg_6 B_6
  go_wp2
  go_region_held3 (fun W => W.cell? ⟨w.heap.size, 0, none⟩ = some (.slice A xs.length c) ∧ W.cell? ⟨w4.heap.size, 0, none⟩ = some (.slice (some ⟨gx, 0, none⟩) xs.length xs.length))
    (first | exact ⟨ca_7, bx_7⟩ | exact ⟨ca_8, bx_8⟩ | exact ⟨ca_9, bx_9⟩)
    (first
      | (go_at_call 15
         refine (toCard_any A c xs w.heap.size _ ?_ ?_ hn).mono ?_
         · exact H.out.below B_7.out.drew
         · exact B_7.out.drew.size
         rintro e w8 ⟨ge, rfl, hg, hb, hrow⟩
         have L_Rx_Re : Hid (gx < ge) := Nat.lt_of_lt_of_le (Rx_7.out.lt) hg
         have L_Rg_Re : Hid (gg < ge) := Nat.lt_of_lt_of_le (Rg_7.out.lt) hg
         have B_8 := Lib.hid (below_step B_7.out.drew hb)
         have ca_8 := cell_kept (w := w7.drew) ca_7 hb
         have bx_8 := cell_kept (w := w7.drew) bx_7 hb
         have Rw_8 := Lib.hid (Rw_7.out.drew.later hb)
         have Rx_8 := Lib.hid (Rx_7.out.drew.later hb)
         have Rg_8 := Lib.hid (Rg_7.out.drew.later hb)
         have Re_8 := Lib.hid hrow
         clear hb hrow hg)
      | (go_at_call 17
         refine (eqCard_any (some ⟨gx, 0, none⟩) (some ⟨ge, 0, none⟩) _ _ xs xs (gx + 1) (ge + 1) _ ?_ ?_ ?_ ?_ hn hn').mono ?_
         · exact Rx_8.out.ints
         · exact Re_8.out.ints
         · exact Rx_8.out.lt
         · exact Re_8.out.lt
         rintro e w9 ⟨rfl, hb⟩
         have B_9 := Lib.hid (below_step B_8.out hb)
         have ca_9 := cell_kept ca_8 hb
         have bx_9 := cell_kept bx_8 hb
         have Rw_9 := Lib.hid (Rw_8.out.later hb)
         have Rx_9 := Lib.hid (Rx_8.out.later hb)
         have Rg_9 := Lib.hid (Rg_8.out.later hb)
         have Re_9 := Lib.hid (Re_8.out.later hb)
         clear hb))
  clear ca_7 bx_7 Rw_7 Rx_7 Rg_7 B_7 ca_8 bx_8 Rw_8 Rx_8 Rg_8 Re_8 B_8
  clear Re_9
  go_wp2_with fail
  refine (markCard_any gx xs.length xs [] 1 _ Rx_9.out (by omega) (by omega) hn).mono ?_
  rintro e w10 ⟨rfl, hg, hrow⟩
  have B_10 := Lib.hid (below_only B_9.out hg G_Rx.out)
  have ca_10 := cell_only hg ca_9 (Nat.ne_of_lt L_ca_Rx.out)
  have bx_10 := cell_only hg bx_9 (Nat.ne_of_gt L_Rx_bx.out)
  have Rw_10 := Lib.hid (Row.only hg Rw_9.out (Nat.ne_of_lt L_Rw_Rx.out))
  have Rx_10 := Lib.hid hrow
  have Rg_10 := Lib.hid (Row.only hg Rg_9.out (Nat.ne_of_gt L_Rx_Rg.out))
  clear hg hrow B_9 ca_9 bx_9 Rw_9 Rx_9 Rg_9
  clear Rx_10
  go_wp2_with fail
  refine (eqList_any (some ⟨gg, 0, none⟩) (some ⟨gw, 0, none⟩) cg cw ys (gg + 1) (gw + 1) _ Rg_10.out.ints Rw_10.out.ints hy).mono ?_
  rintro e w11 ⟨rfl, hb⟩
  have B_11 := Lib.hid (below_step B_10.out hb)
  have ca_11 := cell_kept ca_10 hb
  have bx_11 := cell_kept bx_10 hb
  have Rw_11 := Lib.hid (Rw_10.out.later hb)
  have Rg_11 := Lib.hid (Rg_10.out.later hb)
  clear hb ca_10 bx_10 Rw_10 Rg_10 B_10
  go_wp2_with fail
  refine (markInts_any gg cg ys xg 1 _ Rg_11.out (by omega) (by omega) hy).mono ?_
  rintro e w12 ⟨rfl, hg, hrow⟩
  have B_12 := Lib.hid (below_only B_11.out hg G_Rg.out)
  have ca_12 := cell_only hg ca_11 (Nat.ne_of_lt L_ca_Rg.out)
  have bx_12 := cell_only hg bx_11 (Nat.ne_of_lt L_bx_Rg.out)
  have Rw_12 := Lib.hid (Row.only hg Rw_11.out (Nat.ne_of_lt L_Rw_Rg.out))
  have Rg_12 := Lib.hid hrow
  clear hg hrow B_11 ca_11 bx_11 Rw_11 Rg_11
  go_wp2_with fail
  refine (heldList_any (some ⟨gg, 0, none⟩) cg ys.length (gg + 1) 1 _ Rg_12.out.ints (by omega) (by omega) hy).mono ?_
  rintro e w13 ⟨rfl, hb⟩
  have B_13 := Lib.hid (below_step B_12.out hb)
  have ca_13 := cell_kept ca_12 hb
  have bx_13 := cell_kept bx_12 hb
  have Rw_13 := Lib.hid (Rw_12.out.later hb)
  have Rg_13 := Lib.hid (Rg_12.out.later hb)
  clear hb ca_12 bx_12 Rw_12 Rg_12 B_12
  go_wp2_with fail
  refine (toCard_any A c xs w.heap.size _ (H.out.below B_13.out) B_13.out.size hn).mono ?_
  rintro e w14 ⟨gb, rfl, hg, hb, hrow⟩
  have L_Rg_Rb : Hid (gg < gb) := Nat.lt_of_lt_of_le (Rg_13.out.lt) hg
  have B_14 := Lib.hid (below_step B_13.out hb)
  have ca_14 := cell_kept ca_13 hb
  have bx_14 := cell_kept bx_13 hb
  have Rw_14 := Lib.hid (Rw_13.out.later hb)
  have Rg_14 := Lib.hid (Rg_13.out.later hb)
  have Rb_14 := Lib.hid hrow
  clear hb hrow hg ca_13 bx_13 Rw_13 Rg_13 B_13
  go_wp2_with fail
  refine (HI.out _ (some ⟨gb, 0, none⟩) xs.length (gb + 1) Rb_14.out.ints Rb_14.out.lt).mono ?_
  rintro e w15 ⟨gh, ch, xh, rfl, hg, hb, hrow⟩
  have L_Rg_Rh : Hid (gg < gh) := Nat.lt_of_lt_of_le (Rg_14.out.lt) hg
  have B_15 := Lib.hid (below_step B_14.out hb)
  have ca_15 := cell_kept ca_14 hb
  have bx_15 := cell_kept bx_14 hb
  have Rw_15 := Lib.hid (Rw_14.out.later hb)
  have Rg_15 := Lib.hid (Rg_14.out.later hb)
  have Rb_15 := Lib.hid (Rb_14.out.later hb)
  have Rh_15 := Lib.hid hrow
  clear hb hrow hg ca_14 bx_14 Rw_14 Rg_14 Rb_14 B_14
  clear Rb_15
  go_wp2_with fail
  refine (eqList_any (some ⟨gh, 0, none⟩) (some ⟨gw, 0, none⟩) ch cw ys (gh + 1) (gw + 1) _ Rh_15.out.ints Rw_15.out.ints hy).mono ?_
  rintro e w16 ⟨rfl, hb⟩
  have B_16 := Lib.hid (below_step B_15.out hb)
  have ca_16 := cell_kept ca_15 hb
  have bx_16 := cell_kept bx_15 hb
  have Rw_16 := Lib.hid (Rw_15.out.later hb)
  have Rg_16 := Lib.hid (Rg_15.out.later hb)
  have Rh_16 := Lib.hid (Rh_15.out.later hb)
  clear hb ca_15 bx_15 Rw_15 Rg_15 Rh_15 B_15
  go_wp2_with fail
  refine (heldList_any (some ⟨gg, 0, none⟩) cg ys.length (gg + 1) 1 _ Rg_16.out.ints (by omega) (by omega) hy).mono ?_
  rintro e w17 ⟨rfl, hb⟩
  have B_17 := Lib.hid (below_step B_16.out hb)
  have ca_17 := cell_kept ca_16 hb
  have bx_17 := cell_kept bx_16 hb
  have Rw_17 := Lib.hid (Rw_16.out.later hb)
  have Rg_17 := Lib.hid (Rg_16.out.later hb)
  have Rh_17 := Lib.hid (Rh_16.out.later hb)
  clear hb ca_16 bx_16 Rw_16 Rg_16 Rh_16 B_16
  go_wp2
  go_ret
  exact ⟨rfl, B_17.out⟩

theorem walk (A : Option Addr) (c : Nat) (xs : List Int) {w : World} (h : Ints w w.heap.size A xs) (hl : xs.length ≤ 9223372036854775807) (_ : ∀ n ∈ xs, (Lit.int .i64 n).wf = true) (w1 : World) (e1 : w = w1) :
    Calls Try.prog 5 #[.agg #[.slice A xs.length c]] w1 fun e w' => e = .returned (.bool true) ∧ Below w1.heap.size w1 w' := by
  subst e1
  by_cases hn : xs.length ≤ 1048576
  · cases hv : okB xs
    · exact walk_none A c xs 1 w h hn (fun W A c B hI hB => (specLaced_bad A c xs B W hI hB hn hv).mono fun _ _ hh => ⟨none, 0, hh.1, hh.2⟩) (fun W A c B hI hB => (implLaced_bad A c xs B W hI hB hn hv).mono fun _ _ hh => ⟨none, 0, hh.1, hh.2⟩)
    · have hs := fun (W : World) (A : Option Addr) (c B : Nat) (hI : Ints W B A xs) (hB : B ≤ W.heap.size) => specLaced_good A c xs B W hI hB hn hv
      have hi := fun (W : World) (A : Option Addr) (c B : Nat) (hI : Ints W B A xs) (hB : B ≤ W.heap.size) => implLaced_good A c xs B W hI hB hn hv
      have hlen := selTo_length (laceQ xs) xs.length
      obtain ⟨ys, hy⟩ : ∃ ys, selTo (laceQ xs) xs.length = ys := ⟨_, rfl⟩
      rw [hy] at hs hi hlen
      cases ys with
      | nil =>
        refine walk_none A c xs 0 w h hn (fun W A c B hI hB => (hs W A c B hI hB).mono ?_) (fun W A c B hI hB => (hi W A c B hI hB).mono ?_)
        · rintro e w' ⟨A', cap, he, hb, _⟩
          exact ⟨A', cap, he, hb⟩
        · rintro e w' ⟨A', cap, he, hb, _⟩
          exact ⟨A', cap, he, hb⟩
      | cons y ys =>
        refine walk_some A c xs (y :: ys) 0 w h hn (by omega) (fun W A c B hI hB => (hs W A c B hI hB).mono ?_) (fun W A c B hI hB => (hi W A c B hI hB).mono ?_)
        · rintro e w' ⟨A', cap, he, hb, hr⟩
          obtain ⟨g, ex, rfl, hg, hrow⟩ := hr (by simp)
          exact ⟨g, cap, ex, he, hg, hb, hrow⟩
        · rintro e w' ⟨A', cap, he, hb, hr⟩
          obtain ⟨g, ex, rfl, hg, hrow⟩ := hr (by simp)
          exact ⟨g, cap, ex, he, hg, hb, hrow⟩
  · exact walk_big A c xs.length w hl (by omega)

set_option maxRecDepth 100000 in
theorem lifted (os : Os) (started : os.Started) (H : Type) (enc : TypeId × Value → H) :
    ReturnsInHanded {} Try.checked os 5 .any (Rows.fnExactLacedColumnsSpec.pre6 enc Try.prog Try.f5 Rows.fnExactLacedColumnsRow.domain false) (Rows.fnExactLacedColumnsSpec.post enc Try.prog Try.f5 false true false false) := by
  refine returnsInHanded_of_change (C := Try.checked) own started (by kernel_rfl) Try.func5
    (ChangeSpec.witness6 (enc := enc) (C := Try.checked) false ⟨#[], #[.agg #[.slice none 0 0]], []⟩ 8 (by kernel_rfl) (by kernel_rfl) (by kernel_rfl) (by kernel_rfl)) ?_
  intro W base args ds gs before hval0 hW _ _
  have hval : ∀ (j : Nat) t v, Try.f5.params[j]? = some t → args[j]? = some v → Value.okWide Try.prog W .any base t v := hval0
  have hW' := hW
  obtain ⟨p, q, hA0, hV, rfl, _, _⟩ := hW
  have hA : DataW.TrodAll enc Try.prog W 0 (fun _ => true) true Try.f5.params.toList args.toList ds p := hA0
  rw [Try.params5] at hA hval
  obtain ⟨v0, vs0, d0, ds0, p0, q0, hargs, rfl, rfl, h0, r0⟩ := trodAll_cons hA
  obtain ⟨rfl, rfl, rfl⟩ := trodAll_nil r0
  obtain rfl : args = #[v0] := by cases args; simp_all
  obtain ⟨rfl, rfl⟩ := trodVars_none hV
  obtain ⟨A0, c0, xs0, rfl, i0, l0, w0⟩ := open_card (hval 0 24 v0 rfl rfl) h0
  refine (walk A0 c0 xs0 i0 l0 w0 W rfl).mono fun e W' ⟨he, hb⟩ => ?_
  subst he
  refine ⟨_, rfl, law_post hW' rfl rfl ?_ rfl rfl rfl hb⟩
  intro t ht
  rw [Try.params5] at ht
  obtain rfl : t = 24 := by simpa using ht
  exact ⟨by kernel_rfl, of_decide_eq_true (by kernel_rfl)⟩

theorem over : Rows.fnExactLacedColumnsRow.holds Try.pinned (OpenSpec.ofChange Rows.fnExactLacedColumnsSpec) :=
  OpenClaim.holds_of_wide 5 Try.f5 rfl rfl rfl rfl rfl rfl rfl ⟨rfl, rfl, rfl, rfl, rfl⟩ rfl rfl rfl rfl rfl (by kernel_rfl) Try.func5 (by kernel_rfl)
    (of_decide_eq_true (by kernel_rfl)) (by unfold Func.isWrapper; first | (rw [if_pos (by decide +kernel)]; kernel_rfl) | (rw [if_neg (by decide +kernel)]; exact ⟨rfl, rfl⟩))
    (fun os started H enc _ => lifted os started H enc)

theorem proved : Rows.FnExactLacedColumnsSaid :=
  over
end Go.Proofs.Ythkfdfocghmmeaa.fnExactLacedColumns
