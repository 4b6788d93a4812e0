/- For every two cards, the law FnExactLostHoles returns true: impl.LostHoles answers as spec.LostHoles, in memory of its own, and leaves its arguments as they were. Conditions: none. -/
import Derived.Test.YthkfdfocghmmeaaMore
import Derived.Test.YthkfdfocghmmeaaLaw
import Derived.Test.YthkfdfocghmmeaaListCut
import Derived.Test.YthkfdfocghmmeaaBoxed
import Derived.Deep.RegionHeld3
import Derived.Deep.DeepCutAuto
namespace Go.Proofs.Ythkfdfocghmmeaa.fnExactLostHoles
open Go.ChangeShapes Go.WideShapes Go.ChangeAt Go.RowKit

theorem walk_big (A A' : Option Addr) (c n c' n' : Nat) (w : World) (hn : n ≤ 9223372036854775807) (hbig : 1048576 < n) :
    Calls Try.prog 9 #[.agg #[.slice A n c], .agg #[.slice A' n' c']] w fun e w' => e = .returned (.bool true) ∧ Below w.heap.size w w' := by
  have hs := fun W => szCard_any A n c 1048576 W (by omega) (by omega) hn
  have e : (if (1048576 : Int) < (n : Int) then (-1 : Int) else 1048576 - n) = -1 := if_pos (by omega)
  rw [e] at hs
  have HS := Lib.hid hs
  clear hs e
  go_enter Try.func9, Try.ntmps9
  go_wp2_with fail
  refine (HS.out _).mono ?_
  rintro e w1 ⟨rfl, hb1⟩
  have B1 := Lib.hid (below_step ((below_box w _).alloc (by simp) _) hb1)
  clear hb1
  go_wp2
  go_ret
  exact ⟨rfl, B1.out⟩

theorem walk_sum (A A' : Option Addr) (c n c' n' : Nat) (w : World) (hn : n ≤ 1048576) (hn' : n' ≤ 9223372036854775807) (hbig : 1048576 < n + n') :
    Calls Try.prog 9 #[.agg #[.slice A n c], .agg #[.slice A' n' c']] w fun e w' => e = .returned (.bool true) ∧ Below w.heap.size w w' := by
  have hs := fun W => szCard_any A n c 1048576 W (by omega) (by omega) (by omega)
  have hs' := fun W => szCard_any A' n' c' (1048576 - n) W (by omega) (by omega) (by omega)
  have e : (if (1048576 : Int) < (n : Int) then (-1 : Int) else 1048576 - n) = 1048576 - n := if_neg (by omega)
  have e' : (if (1048576 - n : Int) < (n' : Int) then (-1 : Int) else 1048576 - n - n') = -1 := if_pos (by omega)
  rw [e] at hs
  rw [e'] at hs'
  have HS := Lib.hid hs
  have HS' := Lib.hid hs'
  clear hs e hs' e'
  go_enter Try.func9, Try.ntmps9
  go_wp2_with fail
  refine (HS.out _).mono ?_
  rintro e w1 ⟨rfl, hb⟩
  have B1 := Lib.hid (below_step ((below_box w _).alloc (by simp) _) hb)
  have d1 := cell_kept (p := ⟨w.heap.size + 1, 0, none⟩) (v := .slice A' n' c') (by simp) hb
  clear hb
  go_wp2_with fail
  refine (HS'.out _).mono ?_
  rintro e w2 ⟨rfl, hb⟩
  have B2 := Lib.hid (below_step B1.out hb)
  clear hb
  go_wp2
  go_ret
  exact ⟨rfl, B2.out⟩

set_option maxRecDepth 100000 in
set_option maxHeartbeats 4000000 in
theorem walk_none (A A' : Option Addr) (c c' : Nat) (xs ys : List Int) (a : Int) (w : World) (h : Ints w w.heap.size A xs) (h' : Ints w w.heap.size A' ys) (hn : xs.length + ys.length ≤ 1048576)
    (hs : ∀ (W : World) (A A' : Option Addr) (B B' : Nat), Ints W B A xs → Ints W B' A' ys → B ≤ W.heap.size → B' ≤ W.heap.size → Calls Try.prog 33 #[.agg #[.slice A xs.length xs.length], .agg #[.slice A' ys.length ys.length]] W (GivesNone a W))
    (hi : ∀ (W : World) (A A' : Option Addr) (B B' : Nat), Ints W B A xs → Ints W B' A' ys → B ≤ W.heap.size → B' ≤ W.heap.size → Calls Try.prog 34 #[.agg #[.slice A xs.length xs.length], .agg #[.slice A' ys.length ys.length]] W (GivesNone a W)) :
    Calls Try.prog 9 #[.agg #[.slice A xs.length c], .agg #[.slice A' ys.length c']] w fun e w' => e = .returned (.bool true) ∧ Below w.heap.size w w' := by
  have hq := fun W => szCard_any A xs.length c 1048576 W (by omega) (by omega) (by omega)
  have hq' := fun W => szCard_any A' ys.length c' (1048576 - xs.length) W (by omega) (by omega) (by omega)
  have e : (if (1048576 : Int) < (xs.length : Int) then (-1 : Int) else 1048576 - xs.length) = 1048576 - xs.length := if_neg (by omega)
  have e' : (if (1048576 - xs.length : Int) < (ys.length : Int) then (-1 : Int) else 1048576 - xs.length - ys.length) = 1048576 - xs.length - ys.length := if_neg (by omega)
  rw [e] at hq
  rw [e'] at hq'
  have HZ := Lib.hid hq
  have HZ' := Lib.hid hq'
  have H := Lib.hid h
  have H' := Lib.hid h'
  have HS := Lib.hid hs
  have HI := Lib.hid hi
  have hx1 : xs.length ≤ 1048576 := by omega
  have hy1 : ys.length ≤ 1048576 := by omega
  have hx2 : xs.length ≤ 140737488355328 := by omega
  have hy2 : ys.length ≤ 140737488355328 := by omega
  clear hq e hq' e' h h' hs hi
  go_enter Try.func9, Try.ntmps9
  go_wp2_with fail
  refine (HZ.out _).mono ?_
  rintro e w1 ⟨rfl, hb⟩
  have B_1 := Lib.hid (below_step ((below_box w _).alloc (by simp) _) hb)
  have ca_1 := cell_kept (p := ⟨w.heap.size, 0, none⟩) (v := .slice A xs.length c) (by simp [go_sem]) hb
  have cb_1 := cell_kept (p := ⟨w.heap.size + 1, 0, none⟩) (v := .slice A' ys.length c') (by simp [go_sem]) hb
  clear hb
  go_wp2_with fail
  refine (HZ'.out _).mono ?_
  rintro e w2 ⟨rfl, hb⟩
  have B_2 := Lib.hid (below_step B_1.out hb)
  have ca_2 := cell_kept ca_1 hb
  have cb_2 := cell_kept cb_1 hb
  clear hb ca_1 cb_1 B_1
  go_upto_region 8 with fail
  go_cut [6, 7] (fun s6 s7 wx => CutNone a w2 s6 s7 wx)
  case first =>
    have tok0 : True := trivial
    have K0 := Lib.hid (below_drew (Below.refl w2.heap.size w2))
    go_region_held3 (fun W => W.cell? ⟨w.heap.size, 0, none⟩ = some (.slice A xs.length c) ∧ W.cell? ⟨w.heap.size + 1, 0, none⟩ = some (.slice A' ys.length c'))
      (first | exact ⟨ca_2, cb_2⟩ | exact ⟨cell_kept ca_2 K0.out, cell_kept cb_2 K0.out⟩ | exact ⟨cell_kept ca_2 K1.out, cell_kept cb_2 K1.out⟩ | exact ⟨cell_kept ca_2 K2.out, cell_kept cb_2 K2.out⟩ | exact ⟨cell_kept ca_2 K3.out, cell_kept cb_2 K3.out⟩ | go_keep)
      (first
        | (go_at_call 15
           have _t := tok0
           refine (toCard_any A c xs w.heap.size _ ?_ ?_ hx1).mono ?_
           · first | exact H.out.below B_2.out.drew | exact H.out.below (below_boxed B_2.out.drew _)
           · first | exact B_2.out.drew.size | exact (below_boxed B_2.out.drew _).size
           rintro e w2_1 ⟨ga, rfl, hg, hb, hrow⟩
           have K1 : Hid (Below w2.heap.size w2 w2_1) := below_step K0.out hb
           have Ra_r1 := Lib.hid hrow
           have hg1 := Lib.hid hg
           clear hb hrow hg _t tok0)
        | (go_at_call 15
           refine (toCard_any A' c' ys w.heap.size _ ?_ ?_ hy1).mono ?_
           · first | exact H'.out.below (below_step B_2.out K1.out) | exact H'.out.below (below_boxed (below_step B_2.out K1.out) _)
           · first | exact (below_step B_2.out K1.out).size | exact (below_boxed (below_step B_2.out K1.out) _).size
           rintro e w2_2 ⟨gb, rfl, hg, hb, hrow⟩
           have K2 : Hid (Below w2.heap.size w2 w2_2) := below_step K1.out hb
           have Ra_r2 := Lib.hid (Row.later Ra_r1.out hb)
           have Rb_r2 := Lib.hid hrow
           have hg2 := Lib.hid hg
           clear hb hrow hg)
        | (go_at_call 33
           refine (HS.out _ (some ⟨ga, 0, none⟩) (some ⟨gb, 0, none⟩) (ga + 1) (gb + 1) ?_ ?_ ?_ ?_).mono ?_
           · first | exact Ra_r2.out.ints | exact (Ra_r2.out.alloc _).ints
           · first | exact Rb_r2.out.ints | exact (Rb_r2.out.alloc _).ints
           · first | exact Ra_r2.out.lt | exact (Ra_r2.out.alloc _).lt
           · first | exact Rb_r2.out.lt | exact (Rb_r2.out.alloc _).lt
           rintro e w2_3 ⟨Aw, cw, rfl, hb⟩
           have K3 : Hid (Below w2.heap.size w2 w2_3) := below_step K2.out hb
           clear hb))
    all_goals (go_wp2_with fail; go_meet; exact ⟨_, _, rfl, rfl, K3.out⟩)
  case rest =>
    obtain ⟨Aw, cw, rfl, rfl, hb⟩ := hcut
    rename World => w3
    have B_3 := Lib.hid (below_step B_2.out hb)
    have ca_3 := cell_kept ca_2 hb
    have cb_3 := cell_kept cb_2 hb
    clear hb ca_2 cb_2 B_2
    go_wp2_with fail
    refine (toCard_any A c xs w.heap.size _ (H.out.below B_3.out) B_3.out.size hx1).mono ?_
    rintro e w4 ⟨gx, rfl, hg, hb, hrow⟩
    have L_ca_Rx : Hid (w.heap.size < gx) := Nat.lt_of_lt_of_le (World.block_lt_of_cell? _ _ ca_3) hg
    have L_cb_Rx : Hid (w.heap.size + 1 < gx) := Nat.lt_of_lt_of_le (World.block_lt_of_cell? _ _ cb_3) hg
    have G_Rx := Lib.hid (Nat.le_trans B_3.out.size hg)
    have B_4 := Lib.hid (below_step B_3.out hb)
    have ca_4 := cell_kept ca_3 hb
    have cb_4 := cell_kept cb_3 hb
    have Rx_4 := Lib.hid hrow
    clear hb hrow hg ca_3 cb_3 B_3
    have L_Rx_bx : Hid (gx < w4.heap.size) := Nat.lt_of_lt_of_le (Rx_4.out.lt) (Nat.le_refl _)
    have hb := below_box w4 (.cells #[.slice (some ⟨gx, 0, none⟩) xs.length xs.length] 28)
    have B_5 := Lib.hid (below_step B_4.out hb)
    have ca_5 := cell_kept ca_4 hb
    have cb_5 := cell_kept cb_4 hb
    have Rx_5 := Lib.hid (Rx_4.out.later hb)
    have bx_5 : (w4.alloc (.cells #[.slice (some ⟨gx, 0, none⟩) xs.length xs.length] 28)).cell? ⟨w4.heap.size, 0, none⟩ = some (.slice (some ⟨gx, 0, none⟩) xs.length xs.length) := by simp
    clear hb ca_4 cb_4 Rx_4 B_4
    go_wp2_with fail
    refine (toCard_any A' c' ys w.heap.size _ (H'.out.below B_5.out) B_5.out.size hy1).mono ?_
    rintro e w6 ⟨gy, rfl, hg, hb, hrow⟩
    have L_ca_Ry : Hid (w.heap.size < gy) := Nat.lt_of_lt_of_le (World.block_lt_of_cell? _ _ ca_5) hg
    have L_cb_Ry : Hid (w.heap.size + 1 < gy) := Nat.lt_of_lt_of_le (World.block_lt_of_cell? _ _ cb_5) hg
    have L_Rx_Ry : Hid (gx < gy) := Nat.lt_of_lt_of_le (Rx_5.out.lt) hg
    have L_bx_Ry : Hid (w4.heap.size < gy) := Nat.lt_of_lt_of_le (World.block_lt_of_cell? _ _ bx_5) hg
    have G_Ry := Lib.hid (Nat.le_trans B_5.out.size hg)
    have B_6 := Lib.hid (below_step B_5.out hb)
    have ca_6 := cell_kept ca_5 hb
    have cb_6 := cell_kept cb_5 hb
    have bx_6 := cell_kept bx_5 hb
    have Rx_6 := Lib.hid (Rx_5.out.later hb)
    have Ry_6 := Lib.hid hrow
    clear hb hrow hg ca_5 cb_5 bx_5 Rx_5 B_5
    have L_Rx_by_ : Hid (gx < w6.heap.size) := Nat.lt_of_lt_of_le (Rx_6.out.lt) (Nat.le_refl _)
    have L_Ry_by_ : Hid (gy < w6.heap.size) := Nat.lt_of_lt_of_le (Ry_6.out.lt) (Nat.le_refl _)
    have hb := below_box w6 (.cells #[.slice (some ⟨gy, 0, none⟩) ys.length ys.length] 28)
    have B_7 := Lib.hid (below_step B_6.out hb)
    have ca_7 := cell_kept ca_6 hb
    have cb_7 := cell_kept cb_6 hb
    have bx_7 := cell_kept bx_6 hb
    have Rx_7 := Lib.hid (Rx_6.out.later hb)
    have Ry_7 := Lib.hid (Ry_6.out.later hb)
    have by__7 : (w6.alloc (.cells #[.slice (some ⟨gy, 0, none⟩) ys.length ys.length] 28)).cell? ⟨w6.heap.size, 0, none⟩ = some (.slice (some ⟨gy, 0, none⟩) ys.length ys.length) := by simp
    clear hb ca_6 cb_6 bx_6 Rx_6 Ry_6 B_6
    go_wp2_with fail
    refine (HI.out _ (some ⟨gx, 0, none⟩) (some ⟨gy, 0, none⟩) (gx + 1) (gy + 1) Rx_7.out.ints Ry_7.out.ints Rx_7.out.lt Ry_7.out.lt).mono ?_
    rintro e w8 ⟨Ag, cg, rfl, hb⟩
    have B_8 := Lib.hid (below_step B_7.out hb)
    have ca_8 := cell_kept ca_7 hb
    have cb_8 := cell_kept cb_7 hb
    have bx_8 := cell_kept bx_7 hb
    have by__8 := cell_kept by__7 hb
    have Rx_8 := Lib.hid (Rx_7.out.later hb)
    have Ry_8 := Lib.hid (Ry_7.out.later hb)
    clear hb ca_7 cb_7 bx_7 by__7 Rx_7 Ry_7 B_7
    go_wp2_with fail
    refine (eqNil_any Ag Aw cg cw _).mono ?_
    rintro e w9 ⟨rfl, hb⟩
    have B_9 := Lib.hid (below_step B_8.out hb)
    have ca_9 := cell_kept ca_8 hb
    have cb_9 := cell_kept cb_8 hb
    have bx_9 := cell_kept bx_8 hb
    have by__9 := cell_kept by__8 hb
    have Rx_9 := Lib.hid (Rx_8.out.later hb)
    have Ry_9 := Lib.hid (Ry_8.out.later hb)
    clear hb ca_8 cb_8 bx_8 by__8 Rx_8 Ry_8 B_8
    go_wp2
    go_region_held3 (fun W => W.cell? ⟨w.heap.size, 0, none⟩ = some (.slice A xs.length c) ∧ W.cell? ⟨w4.heap.size, 0, none⟩ = some (.slice (some ⟨gx, 0, none⟩) xs.length xs.length))
      (first | exact ⟨ca_9, bx_9⟩ | exact ⟨ca_10, bx_10⟩ | exact ⟨ca_11, bx_11⟩)
      (first
        | (go_at_call 15
           refine (toCard_any A c xs w.heap.size _ ?_ ?_ hx1).mono ?_
           · exact H.out.below B_9.out.drew
           · exact B_9.out.drew.size
           rintro e w10 ⟨ge, rfl, hg, hb, hrow⟩
           have L_Rx_Re : Hid (gx < ge) := Nat.lt_of_lt_of_le (Rx_9.out.lt) hg
           have L_Ry_Re : Hid (gy < ge) := Nat.lt_of_lt_of_le (Ry_9.out.lt) hg
           have B_10 := Lib.hid (below_step B_9.out.drew hb)
           have ca_10 := cell_kept (w := w9.drew) ca_9 hb
           have cb_10 := cell_kept (w := w9.drew) cb_9 hb
           have bx_10 := cell_kept (w := w9.drew) bx_9 hb
           have by__10 := cell_kept (w := w9.drew) by__9 hb
           have Rx_10 := Lib.hid (Rx_9.out.drew.later hb)
           have Ry_10 := Lib.hid (Ry_9.out.drew.later hb)
           have Re_10 := Lib.hid hrow
           clear hb hrow hg)
        | (go_at_call 17
           refine (eqCard_any (some ⟨gx, 0, none⟩) (some ⟨ge, 0, none⟩) _ _ xs xs (gx + 1) (ge + 1) _ ?_ ?_ ?_ ?_ hx1 hx2).mono ?_
           · exact Rx_10.out.ints
           · exact Re_10.out.ints
           · exact Rx_10.out.lt
           · exact Re_10.out.lt
           rintro e w11 ⟨rfl, hb⟩
           have B_11 := Lib.hid (below_step B_10.out hb)
           have ca_11 := cell_kept ca_10 hb
           have cb_11 := cell_kept cb_10 hb
           have bx_11 := cell_kept bx_10 hb
           have by__11 := cell_kept by__10 hb
           have Rx_11 := Lib.hid (Rx_10.out.later hb)
           have Ry_11 := Lib.hid (Ry_10.out.later hb)
           have Re_11 := Lib.hid (Re_10.out.later hb)
           clear hb))
    clear ca_9 cb_9 bx_9 by__9 Rx_9 Ry_9 B_9 ca_10 cb_10 bx_10 by__10 Rx_10 Ry_10 Re_10 B_10
    clear Re_11
    go_wp2
    go_region_held3 (fun W => W.cell? ⟨w.heap.size + 1, 0, none⟩ = some (.slice A' ys.length c') ∧ W.cell? ⟨w6.heap.size, 0, none⟩ = some (.slice (some ⟨gy, 0, none⟩) ys.length ys.length))
      (first | exact ⟨cb_11, by__11⟩ | exact ⟨cb_12, by__12⟩ | exact ⟨cb_13, by__13⟩)
      (first
        | (go_at_call 15
           refine (toCard_any A' c' ys w.heap.size _ ?_ ?_ hy1).mono ?_
           · exact H'.out.below B_11.out.drew
           · exact B_11.out.drew.size
           rintro e w12 ⟨ge, rfl, hg, hb, hrow⟩
           have L_Rx_Re : Hid (gx < ge) := Nat.lt_of_lt_of_le (Rx_11.out.lt) hg
           have L_Ry_Re : Hid (gy < ge) := Nat.lt_of_lt_of_le (Ry_11.out.lt) hg
           have B_12 := Lib.hid (below_step B_11.out.drew hb)
           have ca_12 := cell_kept (w := w11.drew) ca_11 hb
           have cb_12 := cell_kept (w := w11.drew) cb_11 hb
           have bx_12 := cell_kept (w := w11.drew) bx_11 hb
           have by__12 := cell_kept (w := w11.drew) by__11 hb
           have Rx_12 := Lib.hid (Rx_11.out.drew.later hb)
           have Ry_12 := Lib.hid (Ry_11.out.drew.later hb)
           have Re_12 := Lib.hid hrow
           clear hb hrow hg)
        | (go_at_call 17
           refine (eqCard_any (some ⟨gy, 0, none⟩) (some ⟨ge, 0, none⟩) _ _ ys ys (gy + 1) (ge + 1) _ ?_ ?_ ?_ ?_ hy1 hy2).mono ?_
           · exact Ry_12.out.ints
           · exact Re_12.out.ints
           · exact Ry_12.out.lt
           · exact Re_12.out.lt
           rintro e w13 ⟨rfl, hb⟩
           have B_13 := Lib.hid (below_step B_12.out hb)
           have ca_13 := cell_kept ca_12 hb
           have cb_13 := cell_kept cb_12 hb
           have bx_13 := cell_kept bx_12 hb
           have by__13 := cell_kept by__12 hb
           have Rx_13 := Lib.hid (Rx_12.out.later hb)
           have Ry_13 := Lib.hid (Ry_12.out.later hb)
           have Re_13 := Lib.hid (Re_12.out.later hb)
           clear hb))
    clear ca_11 cb_11 bx_11 by__11 Rx_11 Ry_11 B_11 ca_12 cb_12 bx_12 by__12 Rx_12 Ry_12 Re_12 B_12
    clear Re_13
    go_wp2_with fail
    refine (markCard_any gx xs.length xs [] 1 _ Rx_13.out (by omega) (by omega) hx1).mono ?_
    rintro e w14 ⟨rfl, hg, hrow⟩
    have B_14 := Lib.hid (below_only B_13.out hg G_Rx.out)
    have ca_14 := cell_only hg ca_13 (Nat.ne_of_lt L_ca_Rx.out)
    have cb_14 := cell_only hg cb_13 (Nat.ne_of_lt L_cb_Rx.out)
    have bx_14 := cell_only hg bx_13 (Nat.ne_of_gt L_Rx_bx.out)
    have by__14 := cell_only hg by__13 (Nat.ne_of_gt L_Rx_by_.out)
    have Rx_14 := Lib.hid hrow
    have Ry_14 := Lib.hid (Row.only hg Ry_13.out (Nat.ne_of_gt L_Rx_Ry.out))
    clear hg hrow B_13 ca_13 cb_13 bx_13 by__13 Rx_13 Ry_13
    clear Rx_14
    go_wp2_with fail
    refine (markCard_any gy ys.length ys [] (1 + (xs.length : Int)) _ Ry_14.out (by omega) (by omega) hy1).mono ?_
    rintro e w15 ⟨rfl, hg, hrow⟩
    have B_15 := Lib.hid (below_only B_14.out hg G_Ry.out)
    have ca_15 := cell_only hg ca_14 (Nat.ne_of_lt L_ca_Ry.out)
    have cb_15 := cell_only hg cb_14 (Nat.ne_of_lt L_cb_Ry.out)
    have bx_15 := cell_only hg bx_14 (Nat.ne_of_lt L_bx_Ry.out)
    have by__15 := cell_only hg by__14 (Nat.ne_of_gt L_Ry_by_.out)
    have Ry_15 := Lib.hid hrow
    clear hg hrow B_14 ca_14 cb_14 bx_14 by__14 Ry_14
    clear Ry_15
    go_wp2_with fail
    refine (eqNil_any Ag Aw cg cw _).mono ?_
    rintro e w16 ⟨rfl, hb⟩
    have B_16 := Lib.hid (below_step B_15.out hb)
    have ca_16 := cell_kept ca_15 hb
    have cb_16 := cell_kept cb_15 hb
    have bx_16 := cell_kept bx_15 hb
    have by__16 := cell_kept by__15 hb
    clear hb ca_15 cb_15 bx_15 by__15 B_15
    go_wp2_with fail
    refine (markNil_any Ag cg 1 _).mono ?_
    rintro e w17 ⟨rfl, hb⟩
    have B_17 := Lib.hid (below_step B_16.out hb)
    have ca_17 := cell_kept ca_16 hb
    have cb_17 := cell_kept cb_16 hb
    have bx_17 := cell_kept bx_16 hb
    have by__17 := cell_kept by__16 hb
    clear hb ca_16 cb_16 bx_16 by__16 B_16
    go_wp2_with fail
    refine (heldNil_any Ag cg 1 _ (by omega) (by omega)).mono ?_
    rintro e w18 ⟨rfl, hb⟩
    have B_18 := Lib.hid (below_step B_17.out hb)
    have ca_18 := cell_kept ca_17 hb
    have cb_18 := cell_kept cb_17 hb
    have bx_18 := cell_kept bx_17 hb
    have by__18 := cell_kept by__17 hb
    clear hb ca_17 cb_17 bx_17 by__17 B_17
    go_upto_region 31 with fail
    go_cut [15, 16] (fun s6 s7 wx => CutNone a w18 s6 s7 wx)
    case first =>
      have tok0 : True := trivial
      have K0 := Lib.hid (below_drew (Below.refl w18.heap.size w18))
      go_region_held3 (fun W => W.cell? ⟨w.heap.size, 0, none⟩ = some (.slice A xs.length c) ∧ W.cell? ⟨w.heap.size + 1, 0, none⟩ = some (.slice A' ys.length c'))
        (first | exact ⟨ca_18, cb_18⟩ | exact ⟨cell_kept ca_18 K0.out, cell_kept cb_18 K0.out⟩ | exact ⟨cell_kept ca_18 K1.out, cell_kept cb_18 K1.out⟩ | exact ⟨cell_kept ca_18 K2.out, cell_kept cb_18 K2.out⟩ | exact ⟨cell_kept ca_18 K3.out, cell_kept cb_18 K3.out⟩ | go_keep)
        (first
          | (go_at_call 15
             have _t := tok0
             refine (toCard_any A c xs w.heap.size _ ?_ ?_ hx1).mono ?_
             · first | exact H.out.below B_18.out.drew | exact H.out.below (below_boxed B_18.out.drew _)
             · first | exact B_18.out.drew.size | exact (below_boxed B_18.out.drew _).size
             rintro e w18_1 ⟨ga, rfl, hg, hb, hrow⟩
             have K1 : Hid (Below w18.heap.size w18 w18_1) := below_step K0.out hb
             have Ra_r1 := Lib.hid hrow
             have hg1 := Lib.hid hg
             clear hb hrow hg _t tok0)
          | (go_at_call 15
             refine (toCard_any A' c' ys w.heap.size _ ?_ ?_ hy1).mono ?_
             · first | exact H'.out.below (below_step B_18.out K1.out) | exact H'.out.below (below_boxed (below_step B_18.out K1.out) _)
             · first | exact (below_step B_18.out K1.out).size | exact (below_boxed (below_step B_18.out K1.out) _).size
             rintro e w18_2 ⟨gb, rfl, hg, hb, hrow⟩
             have K2 : Hid (Below w18.heap.size w18 w18_2) := below_step K1.out hb
             have Ra_r2 := Lib.hid (Row.later Ra_r1.out hb)
             have Rb_r2 := Lib.hid hrow
             have hg2 := Lib.hid hg
             clear hb hrow hg)
          | (go_at_call 34
             refine (HI.out _ (some ⟨ga, 0, none⟩) (some ⟨gb, 0, none⟩) (ga + 1) (gb + 1) ?_ ?_ ?_ ?_).mono ?_
             · first | exact Ra_r2.out.ints | exact (Ra_r2.out.alloc _).ints
             · first | exact Rb_r2.out.ints | exact (Rb_r2.out.alloc _).ints
             · first | exact Ra_r2.out.lt | exact (Ra_r2.out.alloc _).lt
             · first | exact Rb_r2.out.lt | exact (Rb_r2.out.alloc _).lt
             rintro e w18_3 ⟨Ah, ch, rfl, hb⟩
             have K3 : Hid (Below w18.heap.size w18 w18_3) := below_step K2.out hb
             clear hb))
      all_goals (go_wp2_with fail; go_meet; exact ⟨_, _, rfl, rfl, K3.out⟩)
    case rest =>
      obtain ⟨Ah, ch, rfl, rfl, hb⟩ := hcut
      rename World => w19
      have B_19 := Lib.hid (below_step B_18.out hb)
      have ca_19 := cell_kept ca_18 hb
      have cb_19 := cell_kept cb_18 hb
      have bx_19 := cell_kept bx_18 hb
      have by__19 := cell_kept by__18 hb
      clear hb ca_18 cb_18 bx_18 by__18 B_18
      go_wp2_with fail
      refine (eqNil_any Ah Aw ch cw _).mono ?_
      rintro e w20 ⟨rfl, hb⟩
      have B_20 := Lib.hid (below_step B_19.out hb)
      have ca_20 := cell_kept ca_19 hb
      have cb_20 := cell_kept cb_19 hb
      have bx_20 := cell_kept bx_19 hb
      have by__20 := cell_kept by__19 hb
      clear hb ca_19 cb_19 bx_19 by__19 B_19
      go_wp2_with fail
      refine (heldNil_any Ag cg 1 _ (by omega) (by omega)).mono ?_
      rintro e w21 ⟨rfl, hb⟩
      have B_21 := Lib.hid (below_step B_20.out hb)
      have ca_21 := cell_kept ca_20 hb
      have cb_21 := cell_kept cb_20 hb
      have bx_21 := cell_kept bx_20 hb
      have by__21 := cell_kept by__20 hb
      clear hb ca_20 cb_20 bx_20 by__20 B_20
      go_wp2
      go_ret
      exact ⟨rfl, B_21.out⟩

set_option maxRecDepth 100000 in
set_option maxHeartbeats 4000000 in
theorem walk_some (A A' : Option Addr) (c c' : Nat) (xs ys : List Int) (zs : List Int) (a : Int) (w : World) (h : Ints w w.heap.size A xs) (h' : Ints w w.heap.size A' ys) (hn : xs.length + ys.length ≤ 1048576) (hz : zs.length ≤ 1048576)
    (hs : ∀ (W : World) (A A' : Option Addr) (B B' : Nat), Ints W B A xs → Ints W B' A' ys → B ≤ W.heap.size → B' ≤ W.heap.size → Calls Try.prog 33 #[.agg #[.slice A xs.length xs.length], .agg #[.slice A' ys.length ys.length]] W (GivesSome zs a W))
    (hi : ∀ (W : World) (A A' : Option Addr) (B B' : Nat), Ints W B A xs → Ints W B' A' ys → B ≤ W.heap.size → B' ≤ W.heap.size → Calls Try.prog 34 #[.agg #[.slice A xs.length xs.length], .agg #[.slice A' ys.length ys.length]] W (GivesSome zs a W)) :
    Calls Try.prog 9 #[.agg #[.slice A xs.length c], .agg #[.slice A' ys.length c']] w fun e w' => e = .returned (.bool true) ∧ Below w.heap.size w w' := by
  have hq := fun W => szCard_any A xs.length c 1048576 W (by omega) (by omega) (by omega)
  have hq' := fun W => szCard_any A' ys.length c' (1048576 - xs.length) W (by omega) (by omega) (by omega)
  have e : (if (1048576 : Int) < (xs.length : Int) then (-1 : Int) else 1048576 - xs.length) = 1048576 - xs.length := if_neg (by omega)
  have e' : (if (1048576 - xs.length : Int) < (ys.length : Int) then (-1 : Int) else 1048576 - xs.length - ys.length) = 1048576 - xs.length - ys.length := if_neg (by omega)
  rw [e] at hq
  rw [e'] at hq'
  have HZ := Lib.hid hq
  have HZ' := Lib.hid hq'
  have H := Lib.hid h
  have H' := Lib.hid h'
  have HS := Lib.hid hs
  have HI := Lib.hid hi
  have hx1 : xs.length ≤ 1048576 := by omega
  have hy1 : ys.length ≤ 1048576 := by omega
  have hx2 : xs.length ≤ 140737488355328 := by omega
  have hy2 : ys.length ≤ 140737488355328 := by omega
  have hz2 : zs.length ≤ 140737488355328 := by omega
  clear hq e hq' e' h h' hs hi
  go_enter Try.func9, Try.ntmps9
  go_wp2_with fail
  refine (HZ.out _).mono ?_
  rintro e w1 ⟨rfl, hb⟩
  have B_1 := Lib.hid (below_step ((below_box w _).alloc (by simp) _) hb)
  have ca_1 := cell_kept (p := ⟨w.heap.size, 0, none⟩) (v := .slice A xs.length c) (by simp [go_sem]) hb
  have cb_1 := cell_kept (p := ⟨w.heap.size + 1, 0, none⟩) (v := .slice A' ys.length c') (by simp [go_sem]) hb
  clear hb
  go_wp2_with fail
  refine (HZ'.out _).mono ?_
  rintro e w2 ⟨rfl, hb⟩
  have B_2 := Lib.hid (below_step B_1.out hb)
  have ca_2 := cell_kept ca_1 hb
  have cb_2 := cell_kept cb_1 hb
  clear hb ca_1 cb_1 B_1
  go_upto_region 8 with fail
  go_cut [6, 7] (fun s6 s7 wx => CutSome zs a w2 s6 s7 wx)
  case first =>
    have tok0 : True := trivial
    have K0 := Lib.hid (below_drew (Below.refl w2.heap.size w2))
    go_region_held3 (fun W => W.cell? ⟨w.heap.size, 0, none⟩ = some (.slice A xs.length c) ∧ W.cell? ⟨w.heap.size + 1, 0, none⟩ = some (.slice A' ys.length c'))
      (first | exact ⟨ca_2, cb_2⟩ | exact ⟨cell_kept ca_2 K0.out, cell_kept cb_2 K0.out⟩ | exact ⟨cell_kept ca_2 K1.out, cell_kept cb_2 K1.out⟩ | exact ⟨cell_kept ca_2 K2.out, cell_kept cb_2 K2.out⟩ | exact ⟨cell_kept ca_2 K3.out, cell_kept cb_2 K3.out⟩ | go_keep)
      (first
        | (go_at_call 15
           have _t := tok0
           refine (toCard_any A c xs w.heap.size _ ?_ ?_ hx1).mono ?_
           · first | exact H.out.below B_2.out.drew | exact H.out.below (below_boxed B_2.out.drew _)
           · first | exact B_2.out.drew.size | exact (below_boxed B_2.out.drew _).size
           rintro e w2_1 ⟨ga, rfl, hg, hb, hrow⟩
           have K1 : Hid (Below w2.heap.size w2 w2_1) := below_step K0.out hb
           have Ra_r1 := Lib.hid hrow
           have hg1 := Lib.hid hg
           clear hb hrow hg _t tok0)
        | (go_at_call 15
           refine (toCard_any A' c' ys w.heap.size _ ?_ ?_ hy1).mono ?_
           · first | exact H'.out.below (below_step B_2.out K1.out) | exact H'.out.below (below_boxed (below_step B_2.out K1.out) _)
           · first | exact (below_step B_2.out K1.out).size | exact (below_boxed (below_step B_2.out K1.out) _).size
           rintro e w2_2 ⟨gb, rfl, hg, hb, hrow⟩
           have K2 : Hid (Below w2.heap.size w2 w2_2) := below_step K1.out hb
           have Ra_r2 := Lib.hid (Row.later Ra_r1.out hb)
           have Rb_r2 := Lib.hid hrow
           have hg2 := Lib.hid hg
           clear hb hrow hg)
        | (go_at_call 33
           refine (HS.out _ (some ⟨ga, 0, none⟩) (some ⟨gb, 0, none⟩) (ga + 1) (gb + 1) ?_ ?_ ?_ ?_).mono ?_
           · first | exact Ra_r2.out.ints | exact (Ra_r2.out.alloc _).ints
           · first | exact Rb_r2.out.ints | exact (Rb_r2.out.alloc _).ints
           · first | exact Ra_r2.out.lt | exact (Ra_r2.out.alloc _).lt
           · first | exact Rb_r2.out.lt | exact (Rb_r2.out.alloc _).lt
           rintro e w2_3 ⟨gw, cw, xw, rfl, hg, hb, hrow⟩
           have K3 : Hid (Below w2.heap.size w2 w2_3) := below_step K2.out hb
           have Rw_r3 := Lib.hid hrow
           have hg3 := Lib.hid hg
           clear hb hrow hg))
    all_goals (go_wp2_with fail; go_meet; exact ⟨_, _, _, rfl, rfl, Nat.le_trans K2.out.size hg3.out, K3.out, Rw_r3.out⟩)
  case rest =>
    obtain ⟨gw, cw, xw, rfl, rfl, hg, hb, hrow⟩ := hcut
    rename World => w3
    have B_3 := Lib.hid (below_step B_2.out hb)
    have ca_3 := cell_kept ca_2 hb
    have cb_3 := cell_kept cb_2 hb
    have Rw_3 := Lib.hid hrow
    clear hb hg hrow ca_2 cb_2 B_2
    go_wp2_with fail
    refine (toCard_any A c xs w.heap.size _ (H.out.below B_3.out) B_3.out.size hx1).mono ?_
    rintro e w4 ⟨gx, rfl, hg, hb, hrow⟩
    have L_ca_Rx : Hid (w.heap.size < gx) := Nat.lt_of_lt_of_le (World.block_lt_of_cell? _ _ ca_3) hg
    have L_cb_Rx : Hid (w.heap.size + 1 < gx) := Nat.lt_of_lt_of_le (World.block_lt_of_cell? _ _ cb_3) hg
    have L_Rw_Rx : Hid (gw < gx) := Nat.lt_of_lt_of_le (Rw_3.out.lt) hg
    have G_Rx := Lib.hid (Nat.le_trans B_3.out.size hg)
    have B_4 := Lib.hid (below_step B_3.out hb)
    have ca_4 := cell_kept ca_3 hb
    have cb_4 := cell_kept cb_3 hb
    have Rw_4 := Lib.hid (Rw_3.out.later hb)
    have Rx_4 := Lib.hid hrow
    clear hb hrow hg ca_3 cb_3 Rw_3 B_3
    have L_Rx_bx : Hid (gx < w4.heap.size) := Nat.lt_of_lt_of_le (Rx_4.out.lt) (Nat.le_refl _)
    have hb := below_box w4 (.cells #[.slice (some ⟨gx, 0, none⟩) xs.length xs.length] 28)
    have B_5 := Lib.hid (below_step B_4.out hb)
    have ca_5 := cell_kept ca_4 hb
    have cb_5 := cell_kept cb_4 hb
    have Rw_5 := Lib.hid (Rw_4.out.later hb)
    have Rx_5 := Lib.hid (Rx_4.out.later hb)
    have bx_5 : (w4.alloc (.cells #[.slice (some ⟨gx, 0, none⟩) xs.length xs.length] 28)).cell? ⟨w4.heap.size, 0, none⟩ = some (.slice (some ⟨gx, 0, none⟩) xs.length xs.length) := by simp
    clear hb ca_4 cb_4 Rw_4 Rx_4 B_4
    go_wp2_with fail
    refine (toCard_any A' c' ys w.heap.size _ (H'.out.below B_5.out) B_5.out.size hy1).mono ?_
    rintro e w6 ⟨gy, rfl, hg, hb, hrow⟩
    have L_ca_Ry : Hid (w.heap.size < gy) := Nat.lt_of_lt_of_le (World.block_lt_of_cell? _ _ ca_5) hg
    have L_cb_Ry : Hid (w.heap.size + 1 < gy) := Nat.lt_of_lt_of_le (World.block_lt_of_cell? _ _ cb_5) hg
    have L_Rw_Ry : Hid (gw < gy) := Nat.lt_of_lt_of_le (Rw_5.out.lt) hg
    have L_Rx_Ry : Hid (gx < gy) := Nat.lt_of_lt_of_le (Rx_5.out.lt) hg
    have L_bx_Ry : Hid (w4.heap.size < gy) := Nat.lt_of_lt_of_le (World.block_lt_of_cell? _ _ bx_5) hg
    have G_Ry := Lib.hid (Nat.le_trans B_5.out.size hg)
    have B_6 := Lib.hid (below_step B_5.out hb)
    have ca_6 := cell_kept ca_5 hb
    have cb_6 := cell_kept cb_5 hb
    have bx_6 := cell_kept bx_5 hb
    have Rw_6 := Lib.hid (Rw_5.out.later hb)
    have Rx_6 := Lib.hid (Rx_5.out.later hb)
    have Ry_6 := Lib.hid hrow
    clear hb hrow hg ca_5 cb_5 bx_5 Rw_5 Rx_5 B_5
    have L_Rx_by_ : Hid (gx < w6.heap.size) := Nat.lt_of_lt_of_le (Rx_6.out.lt) (Nat.le_refl _)
    have L_Ry_by_ : Hid (gy < w6.heap.size) := Nat.lt_of_lt_of_le (Ry_6.out.lt) (Nat.le_refl _)
    have hb := below_box w6 (.cells #[.slice (some ⟨gy, 0, none⟩) ys.length ys.length] 28)
    have B_7 := Lib.hid (below_step B_6.out hb)
    have ca_7 := cell_kept ca_6 hb
    have cb_7 := cell_kept cb_6 hb
    have bx_7 := cell_kept bx_6 hb
    have Rw_7 := Lib.hid (Rw_6.out.later hb)
    have Rx_7 := Lib.hid (Rx_6.out.later hb)
    have Ry_7 := Lib.hid (Ry_6.out.later hb)
    have by__7 : (w6.alloc (.cells #[.slice (some ⟨gy, 0, none⟩) ys.length ys.length] 28)).cell? ⟨w6.heap.size, 0, none⟩ = some (.slice (some ⟨gy, 0, none⟩) ys.length ys.length) := by simp
    clear hb ca_6 cb_6 bx_6 Rw_6 Rx_6 Ry_6 B_6
    go_wp2_with fail
    refine (HI.out _ (some ⟨gx, 0, none⟩) (some ⟨gy, 0, none⟩) (gx + 1) (gy + 1) Rx_7.out.ints Ry_7.out.ints Rx_7.out.lt Ry_7.out.lt).mono ?_
    rintro e w8 ⟨gg, cg, xg, rfl, hg, hb, hrow⟩
    have L_ca_Rg : Hid (w.heap.size < gg) := Nat.lt_of_lt_of_le (World.block_lt_of_cell? _ _ ca_7) hg
    have L_cb_Rg : Hid (w.heap.size + 1 < gg) := Nat.lt_of_lt_of_le (World.block_lt_of_cell? _ _ cb_7) hg
    have L_Rw_Rg : Hid (gw < gg) := Nat.lt_of_lt_of_le (Rw_7.out.lt) hg
    have L_Rx_Rg : Hid (gx < gg) := Nat.lt_of_lt_of_le (Rx_7.out.lt) hg
    have L_bx_Rg : Hid (w4.heap.size < gg) := Nat.lt_of_lt_of_le (World.block_lt_of_cell? _ _ bx_7) hg
    have L_Ry_Rg : Hid (gy < gg) := Nat.lt_of_lt_of_le (Ry_7.out.lt) hg
    have L_by__Rg : Hid (w6.heap.size < gg) := Nat.lt_of_lt_of_le (World.block_lt_of_cell? _ _ by__7) hg
    have G_Rg := Lib.hid (Nat.le_trans B_7.out.size hg)
    have B_8 := Lib.hid (below_step B_7.out hb)
    have ca_8 := cell_kept ca_7 hb
    have cb_8 := cell_kept cb_7 hb
    have bx_8 := cell_kept bx_7 hb
    have by__8 := cell_kept by__7 hb
    have Rw_8 := Lib.hid (Rw_7.out.later hb)
    have Rx_8 := Lib.hid (Rx_7.out.later hb)
    have Ry_8 := Lib.hid (Ry_7.out.later hb)
    have Rg_8 := Lib.hid hrow
    clear hb hrow hg ca_7 cb_7 bx_7 by__7 Rw_7 Rx_7 Ry_7 B_7
    go_wp2_with fail
    refine (eqList_any (some ⟨gg, 0, none⟩) (some ⟨gw, 0, none⟩) cg cw zs (gg + 1) (gw + 1) _ Rg_8.out.ints Rw_8.out.ints hz).mono ?_
    rintro e w9 ⟨rfl, hb⟩
    have B_9 := Lib.hid (below_step B_8.out hb)
    have ca_9 := cell_kept ca_8 hb
    have cb_9 := cell_kept cb_8 hb
    have bx_9 := cell_kept bx_8 hb
    have by__9 := cell_kept by__8 hb
    have Rw_9 := Lib.hid (Rw_8.out.later hb)
    have Rx_9 := Lib.hid (Rx_8.out.later hb)
    have Ry_9 := Lib.hid (Ry_8.out.later hb)
    have Rg_9 := Lib.hid (Rg_8.out.later hb)
    clear hb ca_8 cb_8 bx_8 by__8 Rw_8 Rx_8 Ry_8 Rg_8 B_8
    go_wp2
    go_region_held3 (fun W => W.cell? ⟨w.heap.size, 0, none⟩ = some (.slice A xs.length c) ∧ W.cell? ⟨w4.heap.size, 0, none⟩ = some (.slice (some ⟨gx, 0, none⟩) xs.length xs.length))
      (first | exact ⟨ca_9, bx_9⟩ | exact ⟨ca_10, bx_10⟩ | exact ⟨ca_11, bx_11⟩)
      (first
        | (go_at_call 15
           refine (toCard_any A c xs w.heap.size _ ?_ ?_ hx1).mono ?_
           · exact H.out.below B_9.out.drew
           · exact B_9.out.drew.size
           rintro e w10 ⟨ge, rfl, hg, hb, hrow⟩
           have L_Rx_Re : Hid (gx < ge) := Nat.lt_of_lt_of_le (Rx_9.out.lt) hg
           have L_Ry_Re : Hid (gy < ge) := Nat.lt_of_lt_of_le (Ry_9.out.lt) hg
           have L_Rg_Re : Hid (gg < ge) := Nat.lt_of_lt_of_le (Rg_9.out.lt) hg
           have B_10 := Lib.hid (below_step B_9.out.drew hb)
           have ca_10 := cell_kept (w := w9.drew) ca_9 hb
           have cb_10 := cell_kept (w := w9.drew) cb_9 hb
           have bx_10 := cell_kept (w := w9.drew) bx_9 hb
           have by__10 := cell_kept (w := w9.drew) by__9 hb
           have Rw_10 := Lib.hid (Rw_9.out.drew.later hb)
           have Rx_10 := Lib.hid (Rx_9.out.drew.later hb)
           have Ry_10 := Lib.hid (Ry_9.out.drew.later hb)
           have Rg_10 := Lib.hid (Rg_9.out.drew.later hb)
           have Re_10 := Lib.hid hrow
           clear hb hrow hg)
        | (go_at_call 17
           refine (eqCard_any (some ⟨gx, 0, none⟩) (some ⟨ge, 0, none⟩) _ _ xs xs (gx + 1) (ge + 1) _ ?_ ?_ ?_ ?_ hx1 hx2).mono ?_
           · exact Rx_10.out.ints
           · exact Re_10.out.ints
           · exact Rx_10.out.lt
           · exact Re_10.out.lt
           rintro e w11 ⟨rfl, hb⟩
           have B_11 := Lib.hid (below_step B_10.out hb)
           have ca_11 := cell_kept ca_10 hb
           have cb_11 := cell_kept cb_10 hb
           have bx_11 := cell_kept bx_10 hb
           have by__11 := cell_kept by__10 hb
           have Rw_11 := Lib.hid (Rw_10.out.later hb)
           have Rx_11 := Lib.hid (Rx_10.out.later hb)
           have Ry_11 := Lib.hid (Ry_10.out.later hb)
           have Rg_11 := Lib.hid (Rg_10.out.later hb)
           have Re_11 := Lib.hid (Re_10.out.later hb)
           clear hb))
    clear ca_9 cb_9 bx_9 by__9 Rw_9 Rx_9 Ry_9 Rg_9 B_9 ca_10 cb_10 bx_10 by__10 Rw_10 Rx_10 Ry_10 Rg_10 Re_10 B_10
    clear Re_11
    go_wp2
    go_region_held3 (fun W => W.cell? ⟨w.heap.size + 1, 0, none⟩ = some (.slice A' ys.length c') ∧ W.cell? ⟨w6.heap.size, 0, none⟩ = some (.slice (some ⟨gy, 0, none⟩) ys.length ys.length))
      (first | exact ⟨cb_11, by__11⟩ | exact ⟨cb_12, by__12⟩ | exact ⟨cb_13, by__13⟩)
      (first
        | (go_at_call 15
           refine (toCard_any A' c' ys w.heap.size _ ?_ ?_ hy1).mono ?_
           · exact H'.out.below B_11.out.drew
           · exact B_11.out.drew.size
           rintro e w12 ⟨ge, rfl, hg, hb, hrow⟩
           have L_Rx_Re : Hid (gx < ge) := Nat.lt_of_lt_of_le (Rx_11.out.lt) hg
           have L_Ry_Re : Hid (gy < ge) := Nat.lt_of_lt_of_le (Ry_11.out.lt) hg
           have L_Rg_Re : Hid (gg < ge) := Nat.lt_of_lt_of_le (Rg_11.out.lt) hg
           have B_12 := Lib.hid (below_step B_11.out.drew hb)
           have ca_12 := cell_kept (w := w11.drew) ca_11 hb
           have cb_12 := cell_kept (w := w11.drew) cb_11 hb
           have bx_12 := cell_kept (w := w11.drew) bx_11 hb
           have by__12 := cell_kept (w := w11.drew) by__11 hb
           have Rw_12 := Lib.hid (Rw_11.out.drew.later hb)
           have Rx_12 := Lib.hid (Rx_11.out.drew.later hb)
           have Ry_12 := Lib.hid (Ry_11.out.drew.later hb)
           have Rg_12 := Lib.hid (Rg_11.out.drew.later hb)
           have Re_12 := Lib.hid hrow
           clear hb hrow hg)
        | (go_at_call 17
           refine (eqCard_any (some ⟨gy, 0, none⟩) (some ⟨ge, 0, none⟩) _ _ ys ys (gy + 1) (ge + 1) _ ?_ ?_ ?_ ?_ hy1 hy2).mono ?_
           · exact Ry_12.out.ints
           · exact Re_12.out.ints
           · exact Ry_12.out.lt
           · exact Re_12.out.lt
           rintro e w13 ⟨rfl, hb⟩
           have B_13 := Lib.hid (below_step B_12.out hb)
           have ca_13 := cell_kept ca_12 hb
           have cb_13 := cell_kept cb_12 hb
           have bx_13 := cell_kept bx_12 hb
           have by__13 := cell_kept by__12 hb
           have Rw_13 := Lib.hid (Rw_12.out.later hb)
           have Rx_13 := Lib.hid (Rx_12.out.later hb)
           have Ry_13 := Lib.hid (Ry_12.out.later hb)
           have Rg_13 := Lib.hid (Rg_12.out.later hb)
           have Re_13 := Lib.hid (Re_12.out.later hb)
           clear hb))
    clear ca_11 cb_11 bx_11 by__11 Rw_11 Rx_11 Ry_11 Rg_11 B_11 ca_12 cb_12 bx_12 by__12 Rw_12 Rx_12 Ry_12 Rg_12 Re_12 B_12
    clear Re_13
    go_wp2_with fail
    refine (markCard_any gx xs.length xs [] 1 _ Rx_13.out (by omega) (by omega) hx1).mono ?_
    rintro e w14 ⟨rfl, hg, hrow⟩
    have B_14 := Lib.hid (below_only B_13.out hg G_Rx.out)
    have ca_14 := cell_only hg ca_13 (Nat.ne_of_lt L_ca_Rx.out)
    have cb_14 := cell_only hg cb_13 (Nat.ne_of_lt L_cb_Rx.out)
    have bx_14 := cell_only hg bx_13 (Nat.ne_of_gt L_Rx_bx.out)
    have by__14 := cell_only hg by__13 (Nat.ne_of_gt L_Rx_by_.out)
    have Rw_14 := Lib.hid (Row.only hg Rw_13.out (Nat.ne_of_lt L_Rw_Rx.out))
    have Rx_14 := Lib.hid hrow
    have Ry_14 := Lib.hid (Row.only hg Ry_13.out (Nat.ne_of_gt L_Rx_Ry.out))
    have Rg_14 := Lib.hid (Row.only hg Rg_13.out (Nat.ne_of_gt L_Rx_Rg.out))
    clear hg hrow B_13 ca_13 cb_13 bx_13 by__13 Rw_13 Rx_13 Ry_13 Rg_13
    clear Rx_14
    go_wp2_with fail
    refine (markCard_any gy ys.length ys [] (1 + (xs.length : Int)) _ Ry_14.out (by omega) (by omega) hy1).mono ?_
    rintro e w15 ⟨rfl, hg, hrow⟩
    have B_15 := Lib.hid (below_only B_14.out hg G_Ry.out)
    have ca_15 := cell_only hg ca_14 (Nat.ne_of_lt L_ca_Ry.out)
    have cb_15 := cell_only hg cb_14 (Nat.ne_of_lt L_cb_Ry.out)
    have bx_15 := cell_only hg bx_14 (Nat.ne_of_lt L_bx_Ry.out)
    have by__15 := cell_only hg by__14 (Nat.ne_of_gt L_Ry_by_.out)
    have Rw_15 := Lib.hid (Row.only hg Rw_14.out (Nat.ne_of_lt L_Rw_Ry.out))
    have Ry_15 := Lib.hid hrow
    have Rg_15 := Lib.hid (Row.only hg Rg_14.out (Nat.ne_of_gt L_Ry_Rg.out))
    clear hg hrow B_14 ca_14 cb_14 bx_14 by__14 Rw_14 Ry_14 Rg_14
    clear Ry_15
    go_wp2_with fail
    refine (eqList_any (some ⟨gg, 0, none⟩) (some ⟨gw, 0, none⟩) cg cw zs (gg + 1) (gw + 1) _ Rg_15.out.ints Rw_15.out.ints hz).mono ?_
    rintro e w16 ⟨rfl, hb⟩
    have B_16 := Lib.hid (below_step B_15.out hb)
    have ca_16 := cell_kept ca_15 hb
    have cb_16 := cell_kept cb_15 hb
    have bx_16 := cell_kept bx_15 hb
    have by__16 := cell_kept by__15 hb
    have Rw_16 := Lib.hid (Rw_15.out.later hb)
    have Rg_16 := Lib.hid (Rg_15.out.later hb)
    clear hb ca_15 cb_15 bx_15 by__15 Rw_15 Rg_15 B_15
    go_wp2_with fail
    refine (markInts_any gg cg zs xg 1 _ Rg_16.out (by omega) (by omega) hz).mono ?_
    rintro e w17 ⟨rfl, hg, hrow⟩
    have B_17 := Lib.hid (below_only B_16.out hg G_Rg.out)
    have ca_17 := cell_only hg ca_16 (Nat.ne_of_lt L_ca_Rg.out)
    have cb_17 := cell_only hg cb_16 (Nat.ne_of_lt L_cb_Rg.out)
    have bx_17 := cell_only hg bx_16 (Nat.ne_of_lt L_bx_Rg.out)
    have by__17 := cell_only hg by__16 (Nat.ne_of_lt L_by__Rg.out)
    have Rw_17 := Lib.hid (Row.only hg Rw_16.out (Nat.ne_of_lt L_Rw_Rg.out))
    have Rg_17 := Lib.hid hrow
    clear hg hrow B_16 ca_16 cb_16 bx_16 by__16 Rw_16 Rg_16
    go_wp2_with fail
    refine (heldList_any (some ⟨gg, 0, none⟩) cg zs.length (gg + 1) 1 _ Rg_17.out.ints (by omega) (by omega) hz).mono ?_
    rintro e w18 ⟨rfl, hb⟩
    have B_18 := Lib.hid (below_step B_17.out hb)
    have ca_18 := cell_kept ca_17 hb
    have cb_18 := cell_kept cb_17 hb
    have bx_18 := cell_kept bx_17 hb
    have by__18 := cell_kept by__17 hb
    have Rw_18 := Lib.hid (Rw_17.out.later hb)
    have Rg_18 := Lib.hid (Rg_17.out.later hb)
    clear hb ca_17 cb_17 bx_17 by__17 Rw_17 Rg_17 B_17
    go_upto_region 31 with fail
    go_cut [15, 16] (fun s6 s7 wx => CutSome zs a w18 s6 s7 wx)
    case first =>
      have tok0 : True := trivial
      have K0 := Lib.hid (below_drew (Below.refl w18.heap.size w18))
      go_region_held3 (fun W => W.cell? ⟨w.heap.size, 0, none⟩ = some (.slice A xs.length c) ∧ W.cell? ⟨w.heap.size + 1, 0, none⟩ = some (.slice A' ys.length c'))
        (first | exact ⟨ca_18, cb_18⟩ | exact ⟨cell_kept ca_18 K0.out, cell_kept cb_18 K0.out⟩ | exact ⟨cell_kept ca_18 K1.out, cell_kept cb_18 K1.out⟩ | exact ⟨cell_kept ca_18 K2.out, cell_kept cb_18 K2.out⟩ | exact ⟨cell_kept ca_18 K3.out, cell_kept cb_18 K3.out⟩ | go_keep)
        (first
          | (go_at_call 15
             have _t := tok0
             refine (toCard_any A c xs w.heap.size _ ?_ ?_ hx1).mono ?_
             · first | exact H.out.below B_18.out.drew | exact H.out.below (below_boxed B_18.out.drew _)
             · first | exact B_18.out.drew.size | exact (below_boxed B_18.out.drew _).size
             rintro e w18_1 ⟨ga, rfl, hg, hb, hrow⟩
             have K1 : Hid (Below w18.heap.size w18 w18_1) := below_step K0.out hb
             have Ra_r1 := Lib.hid hrow
             have hg1 := Lib.hid hg
             clear hb hrow hg _t tok0)
          | (go_at_call 15
             refine (toCard_any A' c' ys w.heap.size _ ?_ ?_ hy1).mono ?_
             · first | exact H'.out.below (below_step B_18.out K1.out) | exact H'.out.below (below_boxed (below_step B_18.out K1.out) _)
             · first | exact (below_step B_18.out K1.out).size | exact (below_boxed (below_step B_18.out K1.out) _).size
             rintro e w18_2 ⟨gb, rfl, hg, hb, hrow⟩
             have K2 : Hid (Below w18.heap.size w18 w18_2) := below_step K1.out hb
             have Ra_r2 := Lib.hid (Row.later Ra_r1.out hb)
             have Rb_r2 := Lib.hid hrow
             have hg2 := Lib.hid hg
             clear hb hrow hg)
          | (go_at_call 34
             refine (HI.out _ (some ⟨ga, 0, none⟩) (some ⟨gb, 0, none⟩) (ga + 1) (gb + 1) ?_ ?_ ?_ ?_).mono ?_
             · first | exact Ra_r2.out.ints | exact (Ra_r2.out.alloc _).ints
             · first | exact Rb_r2.out.ints | exact (Rb_r2.out.alloc _).ints
             · first | exact Ra_r2.out.lt | exact (Ra_r2.out.alloc _).lt
             · first | exact Rb_r2.out.lt | exact (Rb_r2.out.alloc _).lt
             rintro e w18_3 ⟨gh, ch, xh, rfl, hg, hb, hrow⟩
             have K3 : Hid (Below w18.heap.size w18 w18_3) := below_step K2.out hb
             have Rh_r3 := Lib.hid hrow
             have hg3 := Lib.hid hg
             clear hb hrow hg))
      all_goals (go_wp2_with fail; go_meet; exact ⟨_, _, _, rfl, rfl, Nat.le_trans K2.out.size hg3.out, K3.out, Rh_r3.out⟩)
    case rest =>
      obtain ⟨gh, ch, xh, rfl, rfl, hg, hb, hrow⟩ := hcut
      rename World => w19
      have L_Rg_Rh : Hid (gg < gh) := Nat.lt_of_lt_of_le (Rg_18.out.lt) hg
      have B_19 := Lib.hid (below_step B_18.out hb)
      have ca_19 := cell_kept ca_18 hb
      have cb_19 := cell_kept cb_18 hb
      have bx_19 := cell_kept bx_18 hb
      have by__19 := cell_kept by__18 hb
      have Rw_19 := Lib.hid (Rw_18.out.later hb)
      have Rg_19 := Lib.hid (Rg_18.out.later hb)
      have Rh_19 := Lib.hid hrow
      clear hb hg hrow ca_18 cb_18 bx_18 by__18 Rw_18 Rg_18 B_18
      go_wp2_with fail
      refine (eqList_any (some ⟨gh, 0, none⟩) (some ⟨gw, 0, none⟩) ch cw zs (gh + 1) (gw + 1) _ Rh_19.out.ints Rw_19.out.ints hz).mono ?_
      rintro e w20 ⟨rfl, hb⟩
      have B_20 := Lib.hid (below_step B_19.out hb)
      have ca_20 := cell_kept ca_19 hb
      have cb_20 := cell_kept cb_19 hb
      have bx_20 := cell_kept bx_19 hb
      have by__20 := cell_kept by__19 hb
      have Rw_20 := Lib.hid (Rw_19.out.later hb)
      have Rg_20 := Lib.hid (Rg_19.out.later hb)
      have Rh_20 := Lib.hid (Rh_19.out.later hb)
      clear hb ca_19 cb_19 bx_19 by__19 Rw_19 Rg_19 Rh_19 B_19
      go_wp2_with fail
      refine (heldList_any (some ⟨gg, 0, none⟩) cg zs.length (gg + 1) 1 _ Rg_20.out.ints (by omega) (by omega) hz).mono ?_
      rintro e w21 ⟨rfl, hb⟩
      have B_21 := Lib.hid (below_step B_20.out hb)
      have ca_21 := cell_kept ca_20 hb
      have cb_21 := cell_kept cb_20 hb
      have bx_21 := cell_kept bx_20 hb
      have by__21 := cell_kept by__20 hb
      have Rw_21 := Lib.hid (Rw_20.out.later hb)
      have Rg_21 := Lib.hid (Rg_20.out.later hb)
      have Rh_21 := Lib.hid (Rh_20.out.later hb)
      clear hb ca_20 cb_20 bx_20 by__20 Rw_20 Rg_20 Rh_20 B_20
      go_wp2
      go_ret
      exact ⟨rfl, B_21.out⟩

theorem walk (A : Option Addr) (c : Nat) (xs : List Int) {w : World} (h : Ints w w.heap.size A xs) (hl : xs.length ≤ 9223372036854775807) (_ : ∀ n ∈ xs, (Lit.int .i64 n).wf = true)
    (A' : Option Addr) (c' : Nat) (ys : List Int) {w0 : World} (h' : Ints w0 w0.heap.size A' ys) (hl' : ys.length ≤ 9223372036854775807) (_ : ∀ n ∈ ys, (Lit.int .i64 n).wf = true) (w1 : World) (e1 : w = w1) (e0 : w0 = w1) :
    Calls Try.prog 9 #[.agg #[.slice A xs.length c], .agg #[.slice A' ys.length c']] w1 fun e w' => e = .returned (.bool true) ∧ Below w1.heap.size w1 w' := by
  subst e1
  subst e0
  by_cases hn : xs.length ≤ 1048576
  · by_cases hs : xs.length + ys.length ≤ 1048576
    · have hx1 : xs.length ≤ 1048576 := by omega
      have hy1 : ys.length ≤ 1048576 := by omega
      by_cases e : pairCode xs ys = 0
      · have hs2 := fun (W : World) (A A' : Option Addr) (B B' : Nat) (hI : Ints W B A xs) (hI' : Ints W B' A' ys) (hB : B ≤ W.heap.size) (hB' : B' ≤ W.heap.size) => specLost_good A A' xs.length ys.length xs ys B B' W hI hI' hB hB' hx1 hy1 e
        have hi2 := fun (W : World) (A A' : Option Addr) (B B' : Nat) (hI : Ints W B A xs) (hI' : Ints W B' A' ys) (hB : B ≤ W.heap.size) (hB' : B' ≤ W.heap.size) => implLost_good A A' xs.length ys.length xs ys B B' W hI hI' hB hB' hx1 hy1 e
        have hlen := selTo_length (moreQ xs ys) xs.length
        obtain ⟨zs, hz⟩ : ∃ zs, selTo (moreQ xs ys) xs.length = zs := ⟨_, rfl⟩
        rw [hz] at hs2 hi2 hlen
        cases zs with
        | nil =>
          refine walk_none A A' c c' xs ys 0 w0 h h' hs (fun W A A' B B' hI hI' hB hB' => (hs2 W A A' B B' hI hI' hB hB').mono ?_) (fun W A A' B B' hI hI' hB hB' => (hi2 W A A' B B' hI hI' hB hB').mono ?_)
          · rintro e w' ⟨A', cap, he, hb, _⟩
            exact ⟨A', cap, he, hb⟩
          · rintro e w' ⟨A', cap, he, hb, _⟩
            exact ⟨A', cap, he, hb⟩
        | cons z zs =>
          refine walk_some A A' c c' xs ys (z :: zs) 0 w0 h h' hs (by omega) (fun W A A' B B' hI hI' hB hB' => (hs2 W A A' B B' hI hI' hB hB').mono ?_) (fun W A A' B B' hI hI' hB hB' => (hi2 W A A' B B' hI hI' hB hB').mono ?_)
          · rintro e w' ⟨A', cap, he, hb, hr⟩
            obtain ⟨g, ex, rfl, hg, hrow⟩ := hr (by simp)
            exact ⟨g, cap, ex, he, hg, hb, hrow⟩
          · rintro e w' ⟨A', cap, he, hb, hr⟩
            obtain ⟨g, ex, rfl, hg, hrow⟩ := hr (by simp)
            exact ⟨g, cap, ex, he, hg, hb, hrow⟩
      · exact walk_none A A' c c' xs ys _ w0 h h' hs (fun W A A' B B' hI hI' hB hB' => (specMore_bad _ (Or.inr rfl) A A' _ _ xs ys B B' W hI hI' hB hB' hx1 hy1 e).mono fun _ _ hh => ⟨none, 0, hh.1, hh.2⟩) (fun W A A' B B' hI hI' hB hB' => (implLost_bad A A' _ _ xs ys B B' W hI hI' hB hB' hx1 hy1 e).mono fun _ _ hh => ⟨none, 0, hh.1, hh.2⟩)
    · exact walk_sum A A' c xs.length c' ys.length w0 hn hl' (by omega)
  · exact walk_big A A' c xs.length c' ys.length w0 hl (by omega)

set_option maxRecDepth 100000 in
theorem lifted (os : Os) (started : os.Started) (H : Type) (enc : TypeId × Value → H) :
    ReturnsInHanded {} Try.checked os 9 .any (Rows.fnExactLostHolesSpec.pre6 enc Try.prog Try.f9 Rows.fnExactLostHolesRow.domain false) (Rows.fnExactLostHolesSpec.post enc Try.prog Try.f9 false true false false) := by
  refine returnsInHanded_of_change (C := Try.checked) own started (by kernel_rfl) Try.func9
    (ChangeSpec.witness6 (enc := enc) (C := Try.checked) false ⟨#[], #[.agg #[.slice none 0 0], .agg #[.slice none 0 0]], []⟩ 8 (by kernel_rfl) (by kernel_rfl) (by kernel_rfl) (by kernel_rfl)) ?_
  intro W base args ds gs before hval0 hW _ _
  have hval : ∀ (j : Nat) t v, Try.f9.params[j]? = some t → args[j]? = some v → Value.okWide Try.prog W .any base t v := hval0
  have hW' := hW
  obtain ⟨p, q, hA0, hV, rfl, _, _⟩ := hW
  have hA : DataW.TrodAll enc Try.prog W 0 (fun _ => true) true Try.f9.params.toList args.toList ds p := hA0
  rw [Try.params9] at hA hval
  obtain ⟨v0, vs0, d0, ds0, p0, q0, hargs, rfl, rfl, h0, r0⟩ := trodAll_cons hA
  obtain ⟨v1, vs1, d1, ds1, p1, q1, rfl, rfl, rfl, h1, r1⟩ := trodAll_cons r0
  obtain ⟨rfl, rfl, rfl⟩ := trodAll_nil r1
  obtain rfl : args = #[v0, v1] := by cases args; simp_all
  obtain ⟨rfl, rfl⟩ := trodVars_none hV
  obtain ⟨A0, c0, xs0, rfl, i0, l0, w0⟩ := open_card (hval 0 24 v0 rfl rfl) h0
  obtain ⟨A1, c1, xs1, rfl, i1, l1, w1⟩ := open_card (hval 1 24 v1 rfl rfl) h1
  refine (walk A0 c0 xs0 i0 l0 w0 A1 c1 xs1 i1 l1 w1 W rfl rfl).mono fun e W' ⟨he, hb⟩ => ?_
  subst he
  refine ⟨_, rfl, law_post hW' rfl rfl ?_ rfl rfl rfl hb⟩
  intro t ht
  rw [Try.params9] at ht
  obtain rfl : t = 24 := by simpa using ht
  exact ⟨by kernel_rfl, of_decide_eq_true (by kernel_rfl)⟩

theorem over : Rows.fnExactLostHolesRow.holds Try.pinned (OpenSpec.ofChange Rows.fnExactLostHolesSpec) :=
  OpenClaim.holds_of_wide 9 Try.f9 rfl rfl rfl rfl rfl rfl rfl ⟨rfl, rfl, rfl, rfl, rfl⟩ rfl rfl rfl rfl rfl (by kernel_rfl) Try.func9 (by kernel_rfl)
    (of_decide_eq_true (by kernel_rfl)) (by unfold Func.isWrapper; first | (rw [if_pos (by decide +kernel)]; kernel_rfl) | (rw [if_neg (by decide +kernel)]; exact ⟨rfl, rfl⟩))
    (fun os started H enc _ => lifted os started H enc)

theorem proved : Rows.FnExactLostHolesSaid :=
  over
end Go.Proofs.Ythkfdfocghmmeaa.fnExactLostHoles
