/- For every two counters, the law FnExactJoinCounters returns true: impl.JoinCounters answers as spec.JoinCounters, in memory of its own, and leaves its arguments as they were. Conditions: none. -/
import Derived.Test.YtkiphejkgpfjjaaCntJoin
import Derived.Laws.NewDeep
import Derived.Test.YtkiphejkgpfjjaaLaw
import Derived.Test.YtkiphejkgpfjjaaBoxed
import Derived.Deep.RegionHeld3
import Derived.Deep.DeepCutAuto
namespace Go.Proofs.Ytkiphejkgpfjjaa.fnExactJoinCounters
open Go.ChangeShapes Go.WideShapes Go.ChangeAt Go.RowKit

theorem walk_big (A A' : Option Addr) (c n c' n' : Nat) (w : World) (hn : n ≤ 9223372036854775807) (hbig : 1048576 < n) :
    Calls Try.prog 8 #[.agg #[.slice A n c], .agg #[.slice A' n' c']] w fun e w' => e = .returned (.bool true) ∧ Below w.heap.size w w' := by
  have hs := fun W => szCard_any A n c 1048576 W (by omega) (by omega) hn
  have e : (if (1048576 : Int) < (n : Int) then (-1 : Int) else 1048576 - n) = -1 := if_pos (by omega)
  rw [e] at hs
  have HS := Lib.hid hs
  clear hs e
  go_enter Try.func8, Try.ntmps8
  go_wp2_with fail
  refine (HS.out _).mono ?_
  rintro e w1 ⟨rfl, hb1⟩
  have B1 := Lib.hid (below_step ((below_box w _).alloc (by simp) _) hb1)
  clear hb1
  go_wp2
  go_ret
  exact ⟨rfl, B1.out⟩

theorem walk_sum (A A' : Option Addr) (c n c' n' : Nat) (w : World) (hn : n ≤ 1048576) (hn' : n' ≤ 9223372036854775807) (hbig : 1048576 < n + n') :
    Calls Try.prog 8 #[.agg #[.slice A n c], .agg #[.slice A' n' c']] w fun e w' => e = .returned (.bool true) ∧ Below w.heap.size w w' := by
  have hs := fun W => szCard_any A n c 1048576 W (by omega) (by omega) (by omega)
  have hs' := fun W => szCard_any A' n' c' (1048576 - n) W (by omega) (by omega) (by omega)
  have e : (if (1048576 : Int) < (n : Int) then (-1 : Int) else 1048576 - n) = 1048576 - n := if_neg (by omega)
  have e' : (if (1048576 - n : Int) < (n' : Int) then (-1 : Int) else 1048576 - n - n') = -1 := if_pos (by omega)
  rw [e] at hs
  rw [e'] at hs'
  have HS := Lib.hid hs
  have HS' := Lib.hid hs'
  clear hs e hs' e'
  go_enter Try.func8, Try.ntmps8
  go_wp2_with fail
  refine (HS.out _).mono ?_
  rintro e w1 ⟨rfl, hb⟩
  have B1 := Lib.hid (below_step ((below_box w _).alloc (by simp) _) hb)
  have d1 := cell_kept (p := ⟨w.heap.size + 1, 0, none⟩) (v := .slice A' n' c') (by simp) hb
  clear hb
  go_wp2_with fail
  refine (HS'.out _).mono ?_
  rintro e w2 ⟨rfl, hb⟩
  have B2 := Lib.hid (below_step B1.out hb)
  clear hb
  go_wp2
  go_ret
  exact ⟨rfl, B2.out⟩

set_option maxRecDepth 100000 in
set_option maxHeartbeats 4000000 in
theorem walk_bad (A A' : Option Addr) (c c' : Nat) (xs ys : List Int) (a : Int) (w : World) (h : Ints w w.heap.size A xs) (h' : Ints w w.heap.size A' ys) (hn : xs.length + ys.length ≤ 1048576)
    (hs : ∀ (W : World) (A A' : Option Addr) (B B' : Nat), Ints W B A xs → Ints W B' A' ys → B ≤ W.heap.size → B' ≤ W.heap.size → Calls Try.prog 24 #[.agg #[.slice A xs.length xs.length], .agg #[.slice A' ys.length ys.length]] W (GivesCode a W))
    (hi : ∀ (W : World) (A A' : Option Addr) (B B' : Nat), Ints W B A xs → Ints W B' A' ys → B ≤ W.heap.size → B' ≤ W.heap.size → Calls Try.prog 25 #[.agg #[.slice A xs.length xs.length], .agg #[.slice A' ys.length ys.length]] W (GivesCode a W)) :
    Calls Try.prog 8 #[.agg #[.slice A xs.length c], .agg #[.slice A' ys.length c']] w fun e w' => e = .returned (.bool true) ∧ Below w.heap.size w w' := by
  have hq := fun W => szCard_any A xs.length c 1048576 W (by omega) (by omega) (by omega)
  have hq' := fun W => szCard_any A' ys.length c' (1048576 - xs.length) W (by omega) (by omega) (by omega)
  have e : (if (1048576 : Int) < (xs.length : Int) then (-1 : Int) else 1048576 - xs.length) = 1048576 - xs.length := if_neg (by omega)
  have e' : (if (1048576 - xs.length : Int) < (ys.length : Int) then (-1 : Int) else 1048576 - xs.length - ys.length) = 1048576 - xs.length - ys.length := if_neg (by omega)
  rw [e] at hq
  rw [e'] at hq'
  have HZ := Lib.hid hq
  have HZ' := Lib.hid hq'
  have H := Lib.hid h
  have H' := Lib.hid h'
  have HS := Lib.hid hs
  have HI := Lib.hid hi
  have hx1 : xs.length ≤ 1048576 := by omega
  have hy1 : ys.length ≤ 1048576 := by omega
  have hx2 : xs.length ≤ 140737488355328 := by omega
  have hy2 : ys.length ≤ 140737488355328 := by omega
  clear hq e hq' e' h h' hs hi
  go_enter Try.func8, Try.ntmps8
  go_wp2_with fail
  refine (HZ.out _).mono ?_
  rintro e w1 ⟨rfl, hb⟩
  have B_1 := Lib.hid (below_step ((below_box w _).alloc (by simp) _) hb)
  have ca_1 := cell_kept (p := ⟨w.heap.size, 0, none⟩) (v := .slice A xs.length c) (by simp [go_sem]) hb
  have cb_1 := cell_kept (p := ⟨w.heap.size + 1, 0, none⟩) (v := .slice A' ys.length c') (by simp [go_sem]) hb
  clear hb
  go_wp2_with fail
  refine (HZ'.out _).mono ?_
  rintro e w2 ⟨rfl, hb⟩
  have B_2 := Lib.hid (below_step B_1.out hb)
  have ca_2 := cell_kept ca_1 hb
  have cb_2 := cell_kept cb_1 hb
  clear hb ca_1 cb_1 B_1
  go_upto_region 8 with fail
  go_cut [6, 7] (fun s6 s7 wx => BoxedNil w2 a s6 s7 wx)
  case first =>
    have tok0 : True := trivial
    have K0 := Lib.hid (below_drew (Below.refl w2.heap.size w2))
    go_region_held3 (fun W => W.cell? ⟨w.heap.size, 0, none⟩ = some (.slice A xs.length c) ∧ W.cell? ⟨w.heap.size + 1, 0, none⟩ = some (.slice A' ys.length c'))
      (first | exact ⟨ca_2, cb_2⟩ | exact ⟨cell_kept ca_2 K0.out, cell_kept cb_2 K0.out⟩ | exact ⟨cell_kept ca_2 (below_boxed K0.out _), cell_kept cb_2 (below_boxed K0.out _)⟩ | exact ⟨cell_kept ca_2 K1.out, cell_kept cb_2 K1.out⟩ | exact ⟨cell_kept ca_2 (below_boxed K1.out _), cell_kept cb_2 (below_boxed K1.out _)⟩ | exact ⟨cell_kept ca_2 K2.out, cell_kept cb_2 K2.out⟩ | exact ⟨cell_kept ca_2 (below_boxed K2.out _), cell_kept cb_2 (below_boxed K2.out _)⟩ | exact ⟨cell_kept ca_2 K3.out, cell_kept cb_2 K3.out⟩ | exact ⟨cell_kept ca_2 (below_boxed K3.out _), cell_kept cb_2 (below_boxed K3.out _)⟩ | exact ⟨cell_kept ca_2 (below_stored K3.out (Nat.le_refl _)), cell_kept cb_2 (below_stored K3.out (Nat.le_refl _))⟩ | exact ⟨cell_kept ca_2 (below_stored K3.out K1.out.size), cell_kept cb_2 (below_stored K3.out K1.out.size)⟩ | exact ⟨cell_kept ca_2 (below_stored K3.out K2.out.size), cell_kept cb_2 (below_stored K3.out K2.out.size)⟩ | go_keep)
      (first
        | (go_at_call 11
           have _t := tok0
           refine (toCard_any A c xs w.heap.size _ ?_ ?_ hx1).mono ?_
           · first | exact H.out.below B_2.out.drew | exact H.out.below (below_boxed B_2.out.drew _)
           · first | exact B_2.out.drew.size | exact (below_boxed B_2.out.drew _).size
           rintro e w2_1 ⟨ga, rfl, hg, hb, hrow⟩
           have K1 : Hid (Below w2.heap.size w2 w2_1) := by first | exact below_step K0.out hb | exact below_step (below_boxed K0.out _) hb
           have Ra_r1 := Lib.hid hrow
           have hg1 := Lib.hid hg
           try (have cb0_1 := cell_kept (w := (w2.alloc (.cells #[.slice none 0 0] 27)).drew) (new_cell w2 (.slice none 0 0) _) hb)
           try (have fr0_1 := frozen_kept (w := (w2.alloc (.cells #[.slice none 0 0] 27)).drew) (new_cell w2 (.slice none 0 0) _) (new_frozen w2 _ _) hb)
           clear hb hrow hg _t tok0)
        | (go_at_call 11
           refine (toCard_any A' c' ys w.heap.size _ ?_ ?_ hy1).mono ?_
           · first | exact H'.out.below (below_step B_2.out K1.out) | exact H'.out.below (below_boxed (below_step B_2.out K1.out) _)
           · first | exact (below_step B_2.out K1.out).size | exact (below_boxed (below_step B_2.out K1.out) _).size
           rintro e w2_2 ⟨gb, rfl, hg, hb, hrow⟩
           have K2 : Hid (Below w2.heap.size w2 w2_2) := by first | exact below_step K1.out hb | exact below_step (below_boxed K1.out _) hb
           have Ra_r2 := Lib.hid (Row.later (by first | exact Ra_r1.out | exact Ra_r1.out.alloc _) hb)
           have Rb_r2 := Lib.hid hrow
           have hg2 := Lib.hid hg
           try (have cb0_2 := cell_kept cb0_1 hb)
           try (have fr0_2 := frozen_kept cb0_1 fr0_1 hb)
           try (have cb1_2 := cell_kept (new_cell w2_1 (.slice none 0 0) _) hb)
           try (have fr1_2 := frozen_kept (new_cell w2_1 (.slice none 0 0) _) (new_frozen w2_1 _ _) hb)
           clear hb hrow hg)
        | (go_at_call 24
           refine (HS.out _ (some ⟨ga, 0, none⟩) (some ⟨gb, 0, none⟩) (ga + 1) (gb + 1) ?_ ?_ ?_ ?_).mono ?_
           · first | exact Ra_r2.out.ints | exact (Ra_r2.out.alloc _).ints
           · first | exact Rb_r2.out.ints | exact (Rb_r2.out.alloc _).ints
           · first | exact Ra_r2.out.lt | exact (Ra_r2.out.alloc _).lt
           · first | exact Rb_r2.out.lt | exact (Rb_r2.out.alloc _).lt
           rintro e w2_3 ⟨rfl, hb⟩
           have K3 : Hid (Below w2.heap.size w2 w2_3) := by first | exact below_step K2.out hb | exact below_step (below_boxed K2.out _) hb
           try (have cb0_3 := cell_kept cb0_2 hb)
           try (have fr0_3 := frozen_kept cb0_2 fr0_2 hb)
           try (have cb1_3 := cell_kept cb1_2 hb)
           try (have fr1_3 := frozen_kept cb1_2 fr1_2 hb)
           try (have cb2_3 := cell_kept (new_cell w2_2 (.slice none 0 0) _) hb)
           try (have fr2_3 := frozen_kept (new_cell w2_2 (.slice none 0 0) _) (new_frozen w2_2 _ _) hb)
           clear hb))
    all_goals (go_wp2_with fail; go_meet; first | exact boxedNil_last K3.out | exact boxedNil_early K3.out (Nat.le_refl _) cb0_3 | exact boxedNil_early K3.out K1.out.size cb1_3 | exact boxedNil_early K3.out K2.out.size cb2_3)
  case rest =>
    obtain ⟨bbw, rfl, rfl, hb, hbb, hcell⟩ := hcut
    rename World => w3
    have B_3 := Lib.hid (below_step B_2.out hb)
    have ca_3 := cell_kept ca_2 hb
    have cb_3 := cell_kept cb_2 hb
    have bw_3 := hcell
    clear hb hbb hcell ca_2 cb_2 B_2
    go_wp2_with fail
    refine (toCard_any A c xs w.heap.size _ (H.out.below B_3.out) B_3.out.size hx1).mono ?_
    rintro e w4 ⟨gx, rfl, hg, hb, hrow⟩
    have L_ca_Rx : Hid (w.heap.size < gx) := Nat.lt_of_lt_of_le (World.block_lt_of_cell? _ _ ca_3) hg
    have L_cb_Rx : Hid (w.heap.size + 1 < gx) := Nat.lt_of_lt_of_le (World.block_lt_of_cell? _ _ cb_3) hg
    have L_bw_Rx : Hid (bbw < gx) := Nat.lt_of_lt_of_le (World.block_lt_of_cell? _ _ bw_3) hg
    have G_Rx := Lib.hid (Nat.le_trans B_3.out.size hg)
    have B_4 := Lib.hid (below_step B_3.out hb)
    have ca_4 := cell_kept ca_3 hb
    have cb_4 := cell_kept cb_3 hb
    have bw_4 := cell_kept bw_3 hb
    have Rx_4 := Lib.hid hrow
    clear hb hrow hg ca_3 cb_3 bw_3 B_3
    have L_Rx_bx : Hid (gx < w4.heap.size) := Nat.lt_of_lt_of_le (Rx_4.out.lt) (Nat.le_refl _)
    have hb := below_box w4 (.cells #[.slice (some ⟨gx, 0, none⟩) xs.length xs.length] 27)
    have B_5 := Lib.hid (below_step B_4.out hb)
    have ca_5 := cell_kept ca_4 hb
    have cb_5 := cell_kept cb_4 hb
    have bw_5 := cell_kept bw_4 hb
    have Rx_5 := Lib.hid (Rx_4.out.later hb)
    have bx_5 : (w4.alloc (.cells #[.slice (some ⟨gx, 0, none⟩) xs.length xs.length] 27)).cell? ⟨w4.heap.size, 0, none⟩ = some (.slice (some ⟨gx, 0, none⟩) xs.length xs.length) := by simp
    clear hb ca_4 cb_4 bw_4 Rx_4 B_4
    go_wp2_with fail
    refine (toCard_any A' c' ys w.heap.size _ (H'.out.below B_5.out) B_5.out.size hy1).mono ?_
    rintro e w6 ⟨gy, rfl, hg, hb, hrow⟩
    have L_ca_Ry : Hid (w.heap.size < gy) := Nat.lt_of_lt_of_le (World.block_lt_of_cell? _ _ ca_5) hg
    have L_cb_Ry : Hid (w.heap.size + 1 < gy) := Nat.lt_of_lt_of_le (World.block_lt_of_cell? _ _ cb_5) hg
    have L_bw_Ry : Hid (bbw < gy) := Nat.lt_of_lt_of_le (World.block_lt_of_cell? _ _ bw_5) hg
    have L_Rx_Ry : Hid (gx < gy) := Nat.lt_of_lt_of_le (Rx_5.out.lt) hg
    have L_bx_Ry : Hid (w4.heap.size < gy) := Nat.lt_of_lt_of_le (World.block_lt_of_cell? _ _ bx_5) hg
    have G_Ry := Lib.hid (Nat.le_trans B_5.out.size hg)
    have B_6 := Lib.hid (below_step B_5.out hb)
    have ca_6 := cell_kept ca_5 hb
    have cb_6 := cell_kept cb_5 hb
    have bw_6 := cell_kept bw_5 hb
    have bx_6 := cell_kept bx_5 hb
    have Rx_6 := Lib.hid (Rx_5.out.later hb)
    have Ry_6 := Lib.hid hrow
    clear hb hrow hg ca_5 cb_5 bw_5 bx_5 Rx_5 B_5
    have L_Rx_by_ : Hid (gx < w6.heap.size) := Nat.lt_of_lt_of_le (Rx_6.out.lt) (Nat.le_refl _)
    have L_Ry_by_ : Hid (gy < w6.heap.size) := Nat.lt_of_lt_of_le (Ry_6.out.lt) (Nat.le_refl _)
    have hb := below_box w6 (.cells #[.slice (some ⟨gy, 0, none⟩) ys.length ys.length] 27)
    have B_7 := Lib.hid (below_step B_6.out hb)
    have ca_7 := cell_kept ca_6 hb
    have cb_7 := cell_kept cb_6 hb
    have bw_7 := cell_kept bw_6 hb
    have bx_7 := cell_kept bx_6 hb
    have Rx_7 := Lib.hid (Rx_6.out.later hb)
    have Ry_7 := Lib.hid (Ry_6.out.later hb)
    have by__7 : (w6.alloc (.cells #[.slice (some ⟨gy, 0, none⟩) ys.length ys.length] 27)).cell? ⟨w6.heap.size, 0, none⟩ = some (.slice (some ⟨gy, 0, none⟩) ys.length ys.length) := by simp
    clear hb ca_6 cb_6 bw_6 bx_6 Rx_6 Ry_6 B_6
    go_wp2_with fail
    refine (HI.out _ (some ⟨gx, 0, none⟩) (some ⟨gy, 0, none⟩) (gx + 1) (gy + 1) Rx_7.out.ints Ry_7.out.ints Rx_7.out.lt Ry_7.out.lt).mono ?_
    rintro e w8 ⟨rfl, hb⟩
    have B_8 := Lib.hid (below_step B_7.out hb)
    have ca_8 := cell_kept ca_7 hb
    have cb_8 := cell_kept cb_7 hb
    have bw_8 := cell_kept bw_7 hb
    have bx_8 := cell_kept bx_7 hb
    have by__8 := cell_kept by__7 hb
    have Rx_8 := Lib.hid (Rx_7.out.later hb)
    have Ry_8 := Lib.hid (Ry_7.out.later hb)
    clear hb ca_7 cb_7 bw_7 bx_7 by__7 Rx_7 Ry_7 B_7
    have L_Rx_bg : Hid (gx < w8.heap.size) := Nat.lt_of_lt_of_le (Rx_8.out.lt) (Nat.le_refl _)
    have L_Ry_bg : Hid (gy < w8.heap.size) := Nat.lt_of_lt_of_le (Ry_8.out.lt) (Nat.le_refl _)
    have hb := below_box w8 (.cells #[.slice none 0 0] 27)
    have B_9 := Lib.hid (below_step B_8.out hb)
    have ca_9 := cell_kept ca_8 hb
    have cb_9 := cell_kept cb_8 hb
    have bw_9 := cell_kept bw_8 hb
    have bx_9 := cell_kept bx_8 hb
    have by__9 := cell_kept by__8 hb
    have Rx_9 := Lib.hid (Rx_8.out.later hb)
    have Ry_9 := Lib.hid (Ry_8.out.later hb)
    have bg_9 : (w8.alloc (.cells #[.slice none 0 0] 27)).cell? ⟨w8.heap.size, 0, none⟩ = some (.slice none 0 0) := by simp
    clear hb ca_8 cb_8 bw_8 bx_8 by__8 Rx_8 Ry_8 B_8
    go_wp2_with fail
    refine (eqCard_any none none 0 0 [] [] 0 0 _ Ints.nil Ints.nil (Nat.zero_le _) (Nat.zero_le _) (by simp) (by simp)).mono ?_
    rintro e w10 ⟨rfl, hb⟩
    have B_10 := Lib.hid (below_step B_9.out hb)
    have ca_10 := cell_kept ca_9 hb
    have cb_10 := cell_kept cb_9 hb
    have bw_10 := cell_kept bw_9 hb
    have bx_10 := cell_kept bx_9 hb
    have by__10 := cell_kept by__9 hb
    have bg_10 := cell_kept bg_9 hb
    have Rx_10 := Lib.hid (Rx_9.out.later hb)
    have Ry_10 := Lib.hid (Ry_9.out.later hb)
    clear hb ca_9 cb_9 bw_9 bx_9 by__9 bg_9 Rx_9 Ry_9 B_9
    go_wp2
    go_region_held3 (fun W => W.cell? ⟨w.heap.size, 0, none⟩ = some (.slice A xs.length c) ∧ W.cell? ⟨w4.heap.size, 0, none⟩ = some (.slice (some ⟨gx, 0, none⟩) xs.length xs.length))
      (first | exact ⟨ca_10, bx_10⟩ | exact ⟨ca_11, bx_11⟩ | exact ⟨ca_12, bx_12⟩)
      (first
        | (go_at_call 11
           refine (toCard_any A c xs w.heap.size _ ?_ ?_ hx1).mono ?_
           · exact H.out.below B_10.out.drew
           · exact B_10.out.drew.size
           rintro e w11 ⟨ge, rfl, hg, hb, hrow⟩
           have L_Rx_Re : Hid (gx < ge) := Nat.lt_of_lt_of_le (Rx_10.out.lt) hg
           have L_Ry_Re : Hid (gy < ge) := Nat.lt_of_lt_of_le (Ry_10.out.lt) hg
           have B_11 := Lib.hid (below_step B_10.out.drew hb)
           have ca_11 := cell_kept (w := w10.drew) ca_10 hb
           have cb_11 := cell_kept (w := w10.drew) cb_10 hb
           have bw_11 := cell_kept (w := w10.drew) bw_10 hb
           have bx_11 := cell_kept (w := w10.drew) bx_10 hb
           have by__11 := cell_kept (w := w10.drew) by__10 hb
           have bg_11 := cell_kept (w := w10.drew) bg_10 hb
           have Rx_11 := Lib.hid (Rx_10.out.drew.later hb)
           have Ry_11 := Lib.hid (Ry_10.out.drew.later hb)
           have Re_11 := Lib.hid hrow
           clear hb hrow hg)
        | (go_at_call 13
           refine (eqCard_any (some ⟨gx, 0, none⟩) (some ⟨ge, 0, none⟩) _ _ xs xs (gx + 1) (ge + 1) _ ?_ ?_ ?_ ?_ hx1 hx2).mono ?_
           · exact Rx_11.out.ints
           · exact Re_11.out.ints
           · exact Rx_11.out.lt
           · exact Re_11.out.lt
           rintro e w12 ⟨rfl, hb⟩
           have B_12 := Lib.hid (below_step B_11.out hb)
           have ca_12 := cell_kept ca_11 hb
           have cb_12 := cell_kept cb_11 hb
           have bw_12 := cell_kept bw_11 hb
           have bx_12 := cell_kept bx_11 hb
           have by__12 := cell_kept by__11 hb
           have bg_12 := cell_kept bg_11 hb
           have Rx_12 := Lib.hid (Rx_11.out.later hb)
           have Ry_12 := Lib.hid (Ry_11.out.later hb)
           have Re_12 := Lib.hid (Re_11.out.later hb)
           clear hb))
    clear ca_10 cb_10 bw_10 bx_10 by__10 bg_10 Rx_10 Ry_10 B_10 ca_11 cb_11 bw_11 bx_11 by__11 bg_11 Rx_11 Ry_11 Re_11 B_11
    clear Re_12
    go_wp2
    go_region_held3 (fun W => W.cell? ⟨w.heap.size + 1, 0, none⟩ = some (.slice A' ys.length c') ∧ W.cell? ⟨w6.heap.size, 0, none⟩ = some (.slice (some ⟨gy, 0, none⟩) ys.length ys.length))
      (first | exact ⟨cb_12, by__12⟩ | exact ⟨cb_13, by__13⟩ | exact ⟨cb_14, by__14⟩)
      (first
        | (go_at_call 11
           refine (toCard_any A' c' ys w.heap.size _ ?_ ?_ hy1).mono ?_
           · exact H'.out.below B_12.out.drew
           · exact B_12.out.drew.size
           rintro e w13 ⟨ge, rfl, hg, hb, hrow⟩
           have L_Rx_Re : Hid (gx < ge) := Nat.lt_of_lt_of_le (Rx_12.out.lt) hg
           have L_Ry_Re : Hid (gy < ge) := Nat.lt_of_lt_of_le (Ry_12.out.lt) hg
           have B_13 := Lib.hid (below_step B_12.out.drew hb)
           have ca_13 := cell_kept (w := w12.drew) ca_12 hb
           have cb_13 := cell_kept (w := w12.drew) cb_12 hb
           have bw_13 := cell_kept (w := w12.drew) bw_12 hb
           have bx_13 := cell_kept (w := w12.drew) bx_12 hb
           have by__13 := cell_kept (w := w12.drew) by__12 hb
           have bg_13 := cell_kept (w := w12.drew) bg_12 hb
           have Rx_13 := Lib.hid (Rx_12.out.drew.later hb)
           have Ry_13 := Lib.hid (Ry_12.out.drew.later hb)
           have Re_13 := Lib.hid hrow
           clear hb hrow hg)
        | (go_at_call 13
           refine (eqCard_any (some ⟨gy, 0, none⟩) (some ⟨ge, 0, none⟩) _ _ ys ys (gy + 1) (ge + 1) _ ?_ ?_ ?_ ?_ hy1 hy2).mono ?_
           · exact Ry_13.out.ints
           · exact Re_13.out.ints
           · exact Ry_13.out.lt
           · exact Re_13.out.lt
           rintro e w14 ⟨rfl, hb⟩
           have B_14 := Lib.hid (below_step B_13.out hb)
           have ca_14 := cell_kept ca_13 hb
           have cb_14 := cell_kept cb_13 hb
           have bw_14 := cell_kept bw_13 hb
           have bx_14 := cell_kept bx_13 hb
           have by__14 := cell_kept by__13 hb
           have bg_14 := cell_kept bg_13 hb
           have Rx_14 := Lib.hid (Rx_13.out.later hb)
           have Ry_14 := Lib.hid (Ry_13.out.later hb)
           have Re_14 := Lib.hid (Re_13.out.later hb)
           clear hb))
    clear ca_12 cb_12 bw_12 bx_12 by__12 bg_12 Rx_12 Ry_12 B_12 ca_13 cb_13 bw_13 bx_13 by__13 bg_13 Rx_13 Ry_13 Re_13 B_13
    clear Re_14
    go_wp2_with fail
    refine (markCard_any gx xs.length xs [] 1 _ Rx_14.out (by omega) (by omega) hx1).mono ?_
    rintro e w15 ⟨rfl, hg, hrow⟩
    have B_15 := Lib.hid (below_only B_14.out hg G_Rx.out)
    have ca_15 := cell_only hg ca_14 (Nat.ne_of_lt L_ca_Rx.out)
    have cb_15 := cell_only hg cb_14 (Nat.ne_of_lt L_cb_Rx.out)
    have bw_15 := cell_only hg bw_14 (Nat.ne_of_lt L_bw_Rx.out)
    have bx_15 := cell_only hg bx_14 (Nat.ne_of_gt L_Rx_bx.out)
    have by__15 := cell_only hg by__14 (Nat.ne_of_gt L_Rx_by_.out)
    have bg_15 := cell_only hg bg_14 (Nat.ne_of_gt L_Rx_bg.out)
    have Rx_15 := Lib.hid hrow
    have Ry_15 := Lib.hid (Row.only hg Ry_14.out (Nat.ne_of_gt L_Rx_Ry.out))
    clear hg hrow B_14 ca_14 cb_14 bw_14 bx_14 by__14 bg_14 Rx_14 Ry_14
    clear Rx_15
    go_wp2_with fail
    refine (markCard_any gy ys.length ys [] (1 + (xs.length : Int)) _ Ry_15.out (by omega) (by omega) hy1).mono ?_
    rintro e w16 ⟨rfl, hg, hrow⟩
    have B_16 := Lib.hid (below_only B_15.out hg G_Ry.out)
    have ca_16 := cell_only hg ca_15 (Nat.ne_of_lt L_ca_Ry.out)
    have cb_16 := cell_only hg cb_15 (Nat.ne_of_lt L_cb_Ry.out)
    have bw_16 := cell_only hg bw_15 (Nat.ne_of_lt L_bw_Ry.out)
    have bx_16 := cell_only hg bx_15 (Nat.ne_of_lt L_bx_Ry.out)
    have by__16 := cell_only hg by__15 (Nat.ne_of_gt L_Ry_by_.out)
    have bg_16 := cell_only hg bg_15 (Nat.ne_of_gt L_Ry_bg.out)
    have Ry_16 := Lib.hid hrow
    clear hg hrow B_15 ca_15 cb_15 bw_15 bx_15 by__15 bg_15 Ry_15
    clear Ry_16
    go_wp2_with fail
    refine (eqCard_any none none 0 0 [] [] 0 0 _ Ints.nil Ints.nil (Nat.zero_le _) (Nat.zero_le _) (by simp) (by simp)).mono ?_
    rintro e w17 ⟨rfl, hb⟩
    have B_17 := Lib.hid (below_step B_16.out hb)
    have ca_17 := cell_kept ca_16 hb
    have cb_17 := cell_kept cb_16 hb
    have bw_17 := cell_kept bw_16 hb
    have bx_17 := cell_kept bx_16 hb
    have by__17 := cell_kept by__16 hb
    have bg_17 := cell_kept bg_16 hb
    clear hb ca_16 cb_16 bw_16 bx_16 by__16 bg_16 B_16
    go_wp2_with fail
    refine (markCard_nil 0 1 _).mono ?_
    rintro e w18 ⟨rfl, hb⟩
    have B_18 := Lib.hid (below_step B_17.out hb)
    have ca_18 := cell_kept ca_17 hb
    have cb_18 := cell_kept cb_17 hb
    have bw_18 := cell_kept bw_17 hb
    have bx_18 := cell_kept bx_17 hb
    have by__18 := cell_kept by__17 hb
    have bg_18 := cell_kept bg_17 hb
    clear hb ca_17 cb_17 bw_17 bx_17 by__17 bg_17 B_17
    go_wp2_with fail
    refine (heldCard_any none 0 0 0 1 _ Ints.nil (Nat.zero_le _) (by omega) (by omega) (by omega)).mono ?_
    rintro e w19 ⟨rfl, hb⟩
    have B_19 := Lib.hid (below_step B_18.out hb)
    have ca_19 := cell_kept ca_18 hb
    have cb_19 := cell_kept cb_18 hb
    have bw_19 := cell_kept bw_18 hb
    have bx_19 := cell_kept bx_18 hb
    have by__19 := cell_kept by__18 hb
    have bg_19 := cell_kept bg_18 hb
    clear hb ca_18 cb_18 bw_18 bx_18 by__18 bg_18 B_18
    go_upto_region 31 with fail
    go_cut [15, 16] (fun s6 s7 wx => BoxedNil w19 a s6 s7 wx)
    case first =>
      have tok0 : True := trivial
      have K0 := Lib.hid (below_drew (Below.refl w19.heap.size w19))
      go_region_held3 (fun W => W.cell? ⟨w.heap.size, 0, none⟩ = some (.slice A xs.length c) ∧ W.cell? ⟨w.heap.size + 1, 0, none⟩ = some (.slice A' ys.length c'))
        (first | exact ⟨ca_19, cb_19⟩ | exact ⟨cell_kept ca_19 K0.out, cell_kept cb_19 K0.out⟩ | exact ⟨cell_kept ca_19 (below_boxed K0.out _), cell_kept cb_19 (below_boxed K0.out _)⟩ | exact ⟨cell_kept ca_19 K1.out, cell_kept cb_19 K1.out⟩ | exact ⟨cell_kept ca_19 (below_boxed K1.out _), cell_kept cb_19 (below_boxed K1.out _)⟩ | exact ⟨cell_kept ca_19 K2.out, cell_kept cb_19 K2.out⟩ | exact ⟨cell_kept ca_19 (below_boxed K2.out _), cell_kept cb_19 (below_boxed K2.out _)⟩ | exact ⟨cell_kept ca_19 K3.out, cell_kept cb_19 K3.out⟩ | exact ⟨cell_kept ca_19 (below_boxed K3.out _), cell_kept cb_19 (below_boxed K3.out _)⟩ | exact ⟨cell_kept ca_19 (below_stored K3.out (Nat.le_refl _)), cell_kept cb_19 (below_stored K3.out (Nat.le_refl _))⟩ | exact ⟨cell_kept ca_19 (below_stored K3.out K1.out.size), cell_kept cb_19 (below_stored K3.out K1.out.size)⟩ | exact ⟨cell_kept ca_19 (below_stored K3.out K2.out.size), cell_kept cb_19 (below_stored K3.out K2.out.size)⟩ | go_keep)
        (first
          | (go_at_call 11
             have _t := tok0
             refine (toCard_any A c xs w.heap.size _ ?_ ?_ hx1).mono ?_
             · first | exact H.out.below B_19.out.drew | exact H.out.below (below_boxed B_19.out.drew _)
             · first | exact B_19.out.drew.size | exact (below_boxed B_19.out.drew _).size
             rintro e w19_1 ⟨ga, rfl, hg, hb, hrow⟩
             have K1 : Hid (Below w19.heap.size w19 w19_1) := by first | exact below_step K0.out hb | exact below_step (below_boxed K0.out _) hb
             have Ra_r1 := Lib.hid hrow
             have hg1 := Lib.hid hg
             try (have cb0_1 := cell_kept (w := (w19.alloc (.cells #[.slice none 0 0] 27)).drew) (new_cell w19 (.slice none 0 0) _) hb)
             try (have fr0_1 := frozen_kept (w := (w19.alloc (.cells #[.slice none 0 0] 27)).drew) (new_cell w19 (.slice none 0 0) _) (new_frozen w19 _ _) hb)
             clear hb hrow hg _t tok0)
          | (go_at_call 11
             refine (toCard_any A' c' ys w.heap.size _ ?_ ?_ hy1).mono ?_
             · first | exact H'.out.below (below_step B_19.out K1.out) | exact H'.out.below (below_boxed (below_step B_19.out K1.out) _)
             · first | exact (below_step B_19.out K1.out).size | exact (below_boxed (below_step B_19.out K1.out) _).size
             rintro e w19_2 ⟨gb, rfl, hg, hb, hrow⟩
             have K2 : Hid (Below w19.heap.size w19 w19_2) := by first | exact below_step K1.out hb | exact below_step (below_boxed K1.out _) hb
             have Ra_r2 := Lib.hid (Row.later (by first | exact Ra_r1.out | exact Ra_r1.out.alloc _) hb)
             have Rb_r2 := Lib.hid hrow
             have hg2 := Lib.hid hg
             try (have cb0_2 := cell_kept cb0_1 hb)
             try (have fr0_2 := frozen_kept cb0_1 fr0_1 hb)
             try (have cb1_2 := cell_kept (new_cell w19_1 (.slice none 0 0) _) hb)
             try (have fr1_2 := frozen_kept (new_cell w19_1 (.slice none 0 0) _) (new_frozen w19_1 _ _) hb)
             clear hb hrow hg)
          | (go_at_call 25
             refine (HI.out _ (some ⟨ga, 0, none⟩) (some ⟨gb, 0, none⟩) (ga + 1) (gb + 1) ?_ ?_ ?_ ?_).mono ?_
             · first | exact Ra_r2.out.ints | exact (Ra_r2.out.alloc _).ints
             · first | exact Rb_r2.out.ints | exact (Rb_r2.out.alloc _).ints
             · first | exact Ra_r2.out.lt | exact (Ra_r2.out.alloc _).lt
             · first | exact Rb_r2.out.lt | exact (Rb_r2.out.alloc _).lt
             rintro e w19_3 ⟨rfl, hb⟩
             have K3 : Hid (Below w19.heap.size w19 w19_3) := by first | exact below_step K2.out hb | exact below_step (below_boxed K2.out _) hb
             try (have cb0_3 := cell_kept cb0_2 hb)
             try (have fr0_3 := frozen_kept cb0_2 fr0_2 hb)
             try (have cb1_3 := cell_kept cb1_2 hb)
             try (have fr1_3 := frozen_kept cb1_2 fr1_2 hb)
             try (have cb2_3 := cell_kept (new_cell w19_2 (.slice none 0 0) _) hb)
             try (have fr2_3 := frozen_kept (new_cell w19_2 (.slice none 0 0) _) (new_frozen w19_2 _ _) hb)
             clear hb))
      all_goals (go_wp2_with fail; go_meet; first | exact boxedNil_last K3.out | exact boxedNil_early K3.out (Nat.le_refl _) cb0_3 | exact boxedNil_early K3.out K1.out.size cb1_3 | exact boxedNil_early K3.out K2.out.size cb2_3)
    case rest =>
      obtain ⟨bbh, rfl, rfl, hb, hbb, hcell⟩ := hcut
      rename World => w20
      have B_20 := Lib.hid (below_step B_19.out hb)
      have ca_20 := cell_kept ca_19 hb
      have cb_20 := cell_kept cb_19 hb
      have bw_20 := cell_kept bw_19 hb
      have bx_20 := cell_kept bx_19 hb
      have by__20 := cell_kept by__19 hb
      have bg_20 := cell_kept bg_19 hb
      have bh_20 := hcell
      clear hb hbb hcell ca_19 cb_19 bw_19 bx_19 by__19 bg_19 B_19
      go_wp2_with fail
      refine (eqCard_any none none 0 0 [] [] 0 0 _ Ints.nil Ints.nil (Nat.zero_le _) (Nat.zero_le _) (by simp) (by simp)).mono ?_
      rintro e w21 ⟨rfl, hb⟩
      have B_21 := Lib.hid (below_step B_20.out hb)
      have ca_21 := cell_kept ca_20 hb
      have cb_21 := cell_kept cb_20 hb
      have bw_21 := cell_kept bw_20 hb
      have bx_21 := cell_kept bx_20 hb
      have by__21 := cell_kept by__20 hb
      have bg_21 := cell_kept bg_20 hb
      have bh_21 := cell_kept bh_20 hb
      clear hb ca_20 cb_20 bw_20 bx_20 by__20 bg_20 bh_20 B_20
      go_wp2_with fail
      refine (heldCard_any none 0 0 0 1 _ Ints.nil (Nat.zero_le _) (by omega) (by omega) (by omega)).mono ?_
      rintro e w22 ⟨rfl, hb⟩
      have B_22 := Lib.hid (below_step B_21.out hb)
      have ca_22 := cell_kept ca_21 hb
      have cb_22 := cell_kept cb_21 hb
      have bw_22 := cell_kept bw_21 hb
      have bx_22 := cell_kept bx_21 hb
      have by__22 := cell_kept by__21 hb
      have bg_22 := cell_kept bg_21 hb
      have bh_22 := cell_kept bh_21 hb
      clear hb ca_21 cb_21 bw_21 bx_21 by__21 bg_21 bh_21 B_21
      go_wp2
      go_ret
      exact ⟨rfl, B_22.out⟩

set_option maxRecDepth 100000 in
set_option maxHeartbeats 4000000 in
theorem walk_good (A A' : Option Addr) (c c' : Nat) (xs ys : List Int) (zs : List Int) (w : World) (h : Ints w w.heap.size A xs) (h' : Ints w w.heap.size A' ys) (hn : xs.length + ys.length ≤ 1048576) (hz : zs.length ≤ 1048576)
    (hs : ∀ (W : World) (A A' : Option Addr) (B B' : Nat), Ints W B A xs → Ints W B' A' ys → B ≤ W.heap.size → B' ≤ W.heap.size → Calls Try.prog 24 #[.agg #[.slice A xs.length xs.length], .agg #[.slice A' ys.length ys.length]] W (GivesCard zs W))
    (hi : ∀ (W : World) (A A' : Option Addr) (B B' : Nat), Ints W B A xs → Ints W B' A' ys → B ≤ W.heap.size → B' ≤ W.heap.size → Calls Try.prog 25 #[.agg #[.slice A xs.length xs.length], .agg #[.slice A' ys.length ys.length]] W (GivesCard zs W)) :
    Calls Try.prog 8 #[.agg #[.slice A xs.length c], .agg #[.slice A' ys.length c']] w fun e w' => e = .returned (.bool true) ∧ Below w.heap.size w w' := by
  have hq := fun W => szCard_any A xs.length c 1048576 W (by omega) (by omega) (by omega)
  have hq' := fun W => szCard_any A' ys.length c' (1048576 - xs.length) W (by omega) (by omega) (by omega)
  have e : (if (1048576 : Int) < (xs.length : Int) then (-1 : Int) else 1048576 - xs.length) = 1048576 - xs.length := if_neg (by omega)
  have e' : (if (1048576 - xs.length : Int) < (ys.length : Int) then (-1 : Int) else 1048576 - xs.length - ys.length) = 1048576 - xs.length - ys.length := if_neg (by omega)
  rw [e] at hq
  rw [e'] at hq'
  have HZ := Lib.hid hq
  have HZ' := Lib.hid hq'
  have H := Lib.hid h
  have H' := Lib.hid h'
  have HS := Lib.hid hs
  have HI := Lib.hid hi
  have hx1 : xs.length ≤ 1048576 := by omega
  have hy1 : ys.length ≤ 1048576 := by omega
  have hx2 : xs.length ≤ 140737488355328 := by omega
  have hy2 : ys.length ≤ 140737488355328 := by omega
  have hz2 : zs.length ≤ 140737488355328 := by omega
  clear hq e hq' e' h h' hs hi
  go_enter Try.func8, Try.ntmps8
  go_wp2_with fail
  refine (HZ.out _).mono ?_
  rintro e w1 ⟨rfl, hb⟩
  have B_1 := Lib.hid (below_step ((below_box w _).alloc (by simp) _) hb)
  have ca_1 := cell_kept (p := ⟨w.heap.size, 0, none⟩) (v := .slice A xs.length c) (by simp [go_sem]) hb
  have cb_1 := cell_kept (p := ⟨w.heap.size + 1, 0, none⟩) (v := .slice A' ys.length c') (by simp [go_sem]) hb
  clear hb
  go_wp2_with fail
  refine (HZ'.out _).mono ?_
  rintro e w2 ⟨rfl, hb⟩
  have B_2 := Lib.hid (below_step B_1.out hb)
  have ca_2 := cell_kept ca_1 hb
  have cb_2 := cell_kept cb_1 hb
  clear hb ca_1 cb_1 B_1
  go_upto_region 8 with fail
  go_cut [6, 7] (fun s6 s7 wx => BoxedCard w2 zs s6 s7 wx)
  case first =>
    have tok0 : True := trivial
    have K0 := Lib.hid (below_drew (Below.refl w2.heap.size w2))
    go_region_held3 (fun W => W.cell? ⟨w.heap.size, 0, none⟩ = some (.slice A xs.length c) ∧ W.cell? ⟨w.heap.size + 1, 0, none⟩ = some (.slice A' ys.length c'))
      (first | exact ⟨ca_2, cb_2⟩ | exact ⟨cell_kept ca_2 K0.out, cell_kept cb_2 K0.out⟩ | exact ⟨cell_kept ca_2 (below_boxed K0.out _), cell_kept cb_2 (below_boxed K0.out _)⟩ | exact ⟨cell_kept ca_2 K1.out, cell_kept cb_2 K1.out⟩ | exact ⟨cell_kept ca_2 (below_boxed K1.out _), cell_kept cb_2 (below_boxed K1.out _)⟩ | exact ⟨cell_kept ca_2 K2.out, cell_kept cb_2 K2.out⟩ | exact ⟨cell_kept ca_2 (below_boxed K2.out _), cell_kept cb_2 (below_boxed K2.out _)⟩ | exact ⟨cell_kept ca_2 K3.out, cell_kept cb_2 K3.out⟩ | exact ⟨cell_kept ca_2 (below_boxed K3.out _), cell_kept cb_2 (below_boxed K3.out _)⟩ | exact ⟨cell_kept ca_2 (below_stored K3.out (Nat.le_refl _)), cell_kept cb_2 (below_stored K3.out (Nat.le_refl _))⟩ | exact ⟨cell_kept ca_2 (below_stored K3.out K1.out.size), cell_kept cb_2 (below_stored K3.out K1.out.size)⟩ | exact ⟨cell_kept ca_2 (below_stored K3.out K2.out.size), cell_kept cb_2 (below_stored K3.out K2.out.size)⟩ | go_keep)
      (first
        | (go_at_call 11
           have _t := tok0
           refine (toCard_any A c xs w.heap.size _ ?_ ?_ hx1).mono ?_
           · first | exact H.out.below B_2.out.drew | exact H.out.below (below_boxed B_2.out.drew _)
           · first | exact B_2.out.drew.size | exact (below_boxed B_2.out.drew _).size
           rintro e w2_1 ⟨ga, rfl, hg, hb, hrow⟩
           have K1 : Hid (Below w2.heap.size w2 w2_1) := by first | exact below_step K0.out hb | exact below_step (below_boxed K0.out _) hb
           have Ra_r1 := Lib.hid hrow
           have hg1 := Lib.hid hg
           try (have cb0_1 := cell_kept (w := (w2.alloc (.cells #[.slice none 0 0] 27)).drew) (new_cell w2 (.slice none 0 0) _) hb)
           try (have fr0_1 := frozen_kept (w := (w2.alloc (.cells #[.slice none 0 0] 27)).drew) (new_cell w2 (.slice none 0 0) _) (new_frozen w2 _ _) hb)
           clear hb hrow hg _t tok0)
        | (go_at_call 11
           refine (toCard_any A' c' ys w.heap.size _ ?_ ?_ hy1).mono ?_
           · first | exact H'.out.below (below_step B_2.out K1.out) | exact H'.out.below (below_boxed (below_step B_2.out K1.out) _)
           · first | exact (below_step B_2.out K1.out).size | exact (below_boxed (below_step B_2.out K1.out) _).size
           rintro e w2_2 ⟨gb, rfl, hg, hb, hrow⟩
           have K2 : Hid (Below w2.heap.size w2 w2_2) := by first | exact below_step K1.out hb | exact below_step (below_boxed K1.out _) hb
           have Ra_r2 := Lib.hid (Row.later (by first | exact Ra_r1.out | exact Ra_r1.out.alloc _) hb)
           have Rb_r2 := Lib.hid hrow
           have hg2 := Lib.hid hg
           try (have cb0_2 := cell_kept cb0_1 hb)
           try (have fr0_2 := frozen_kept cb0_1 fr0_1 hb)
           try (have cb1_2 := cell_kept (new_cell w2_1 (.slice none 0 0) _) hb)
           try (have fr1_2 := frozen_kept (new_cell w2_1 (.slice none 0 0) _) (new_frozen w2_1 _ _) hb)
           clear hb hrow hg)
        | (go_at_call 24
           refine (HS.out _ (some ⟨ga, 0, none⟩) (some ⟨gb, 0, none⟩) (ga + 1) (gb + 1) ?_ ?_ ?_ ?_).mono ?_
           · first | exact Ra_r2.out.ints | exact (Ra_r2.out.alloc _).ints
           · first | exact Rb_r2.out.ints | exact (Rb_r2.out.alloc _).ints
           · first | exact Ra_r2.out.lt | exact (Ra_r2.out.alloc _).lt
           · first | exact Rb_r2.out.lt | exact (Rb_r2.out.alloc _).lt
           rintro e w2_3 ⟨gw, cw, xw, rfl, hg, hb, hrow⟩
           have K3 : Hid (Below w2.heap.size w2 w2_3) := by first | exact below_step K2.out hb | exact below_step (below_boxed K2.out _) hb
           have Rw_r3 := Lib.hid hrow
           have hg3 := Lib.hid hg
           try (have cb0_3 := cell_kept cb0_2 hb)
           try (have fr0_3 := frozen_kept cb0_2 fr0_2 hb)
           try (have cb1_3 := cell_kept cb1_2 hb)
           try (have fr1_3 := frozen_kept cb1_2 fr1_2 hb)
           try (have cb2_3 := cell_kept (new_cell w2_2 (.slice none 0 0) _) hb)
           try (have fr2_3 := frozen_kept (new_cell w2_2 (.slice none 0 0) _) (new_frozen w2_2 _ _) hb)
           clear hb hrow hg))
    all_goals (go_wp2_with fail; go_meet; first | exact boxed_last K3.out Rw_r3.out hg3.out K2.out.size | exact boxed_early K3.out Rw_r3.out (Nat.le_refl _) cb0_3 (Nat.lt_of_lt_of_le (World.block_lt_of_cell? _ _ cb0_2) hg3.out) (Nat.le_trans K2.out.size hg3.out) | exact boxed_early K3.out Rw_r3.out (Nat.le_refl _) cb0_3 (Nat.lt_of_lt_of_le (World.block_lt_of_cell? _ _ cb0_2) hg3.out) (Nat.le_trans (below_boxed K2.out _).size hg3.out) | exact boxed_early K3.out Rw_r3.out K1.out.size cb1_3 (Nat.lt_of_lt_of_le (World.block_lt_of_cell? _ _ cb1_2) hg3.out) (Nat.le_trans K2.out.size hg3.out) | exact boxed_early K3.out Rw_r3.out K1.out.size cb1_3 (Nat.lt_of_lt_of_le (World.block_lt_of_cell? _ _ cb1_2) hg3.out) (Nat.le_trans (below_boxed K2.out _).size hg3.out) | exact boxed_early K3.out Rw_r3.out K2.out.size cb2_3 (Nat.lt_of_lt_of_le (World.block_lt_of_cell? _ _ (new_cell w2_2 (.slice none 0 0) 27)) hg3.out) (Nat.le_trans K2.out.size hg3.out) | exact boxed_early K3.out Rw_r3.out K2.out.size cb2_3 (Nat.lt_of_lt_of_le (World.block_lt_of_cell? _ _ (new_cell w2_2 (.slice none 0 0) 27)) hg3.out) (Nat.le_trans (below_boxed K2.out _).size hg3.out))
  case rest =>
    obtain ⟨bbw, gw, cw, xw, rfl, rfl, hb, hbb, hg, hne, hcell, hrow⟩ := hcut
    rename World => w3
    have B_3 := Lib.hid (below_step B_2.out hb)
    have ca_3 := cell_kept ca_2 hb
    have cb_3 := cell_kept cb_2 hb
    have Rw_3 := Lib.hid hrow
    have bw_3 := hcell
    clear hb hbb hcell hg hne hrow ca_2 cb_2 B_2
    go_wp2_with fail
    refine (toCard_any A c xs w.heap.size _ (H.out.below B_3.out) B_3.out.size hx1).mono ?_
    rintro e w4 ⟨gx, rfl, hg, hb, hrow⟩
    have L_ca_Rx : Hid (w.heap.size < gx) := Nat.lt_of_lt_of_le (World.block_lt_of_cell? _ _ ca_3) hg
    have L_cb_Rx : Hid (w.heap.size + 1 < gx) := Nat.lt_of_lt_of_le (World.block_lt_of_cell? _ _ cb_3) hg
    have L_Rw_Rx : Hid (gw < gx) := Nat.lt_of_lt_of_le (Rw_3.out.lt) hg
    have L_bw_Rx : Hid (bbw < gx) := Nat.lt_of_lt_of_le (World.block_lt_of_cell? _ _ bw_3) hg
    have G_Rx := Lib.hid (Nat.le_trans B_3.out.size hg)
    have B_4 := Lib.hid (below_step B_3.out hb)
    have ca_4 := cell_kept ca_3 hb
    have cb_4 := cell_kept cb_3 hb
    have bw_4 := cell_kept bw_3 hb
    have Rw_4 := Lib.hid (Rw_3.out.later hb)
    have Rx_4 := Lib.hid hrow
    clear hb hrow hg ca_3 cb_3 bw_3 Rw_3 B_3
    have L_Rx_bx : Hid (gx < w4.heap.size) := Nat.lt_of_lt_of_le (Rx_4.out.lt) (Nat.le_refl _)
    have hb := below_box w4 (.cells #[.slice (some ⟨gx, 0, none⟩) xs.length xs.length] 27)
    have B_5 := Lib.hid (below_step B_4.out hb)
    have ca_5 := cell_kept ca_4 hb
    have cb_5 := cell_kept cb_4 hb
    have bw_5 := cell_kept bw_4 hb
    have Rw_5 := Lib.hid (Rw_4.out.later hb)
    have Rx_5 := Lib.hid (Rx_4.out.later hb)
    have bx_5 : (w4.alloc (.cells #[.slice (some ⟨gx, 0, none⟩) xs.length xs.length] 27)).cell? ⟨w4.heap.size, 0, none⟩ = some (.slice (some ⟨gx, 0, none⟩) xs.length xs.length) := by simp
    clear hb ca_4 cb_4 bw_4 Rw_4 Rx_4 B_4
    go_wp2_with fail
    refine (toCard_any A' c' ys w.heap.size _ (H'.out.below B_5.out) B_5.out.size hy1).mono ?_
    rintro e w6 ⟨gy, rfl, hg, hb, hrow⟩
    have L_ca_Ry : Hid (w.heap.size < gy) := Nat.lt_of_lt_of_le (World.block_lt_of_cell? _ _ ca_5) hg
    have L_cb_Ry : Hid (w.heap.size + 1 < gy) := Nat.lt_of_lt_of_le (World.block_lt_of_cell? _ _ cb_5) hg
    have L_Rw_Ry : Hid (gw < gy) := Nat.lt_of_lt_of_le (Rw_5.out.lt) hg
    have L_bw_Ry : Hid (bbw < gy) := Nat.lt_of_lt_of_le (World.block_lt_of_cell? _ _ bw_5) hg
    have L_Rx_Ry : Hid (gx < gy) := Nat.lt_of_lt_of_le (Rx_5.out.lt) hg
    have L_bx_Ry : Hid (w4.heap.size < gy) := Nat.lt_of_lt_of_le (World.block_lt_of_cell? _ _ bx_5) hg
    have G_Ry := Lib.hid (Nat.le_trans B_5.out.size hg)
    have B_6 := Lib.hid (below_step B_5.out hb)
    have ca_6 := cell_kept ca_5 hb
    have cb_6 := cell_kept cb_5 hb
    have bw_6 := cell_kept bw_5 hb
    have bx_6 := cell_kept bx_5 hb
    have Rw_6 := Lib.hid (Rw_5.out.later hb)
    have Rx_6 := Lib.hid (Rx_5.out.later hb)
    have Ry_6 := Lib.hid hrow
    clear hb hrow hg ca_5 cb_5 bw_5 bx_5 Rw_5 Rx_5 B_5
    have L_Rx_by_ : Hid (gx < w6.heap.size) := Nat.lt_of_lt_of_le (Rx_6.out.lt) (Nat.le_refl _)
    have L_Ry_by_ : Hid (gy < w6.heap.size) := Nat.lt_of_lt_of_le (Ry_6.out.lt) (Nat.le_refl _)
    have hb := below_box w6 (.cells #[.slice (some ⟨gy, 0, none⟩) ys.length ys.length] 27)
    have B_7 := Lib.hid (below_step B_6.out hb)
    have ca_7 := cell_kept ca_6 hb
    have cb_7 := cell_kept cb_6 hb
    have bw_7 := cell_kept bw_6 hb
    have bx_7 := cell_kept bx_6 hb
    have Rw_7 := Lib.hid (Rw_6.out.later hb)
    have Rx_7 := Lib.hid (Rx_6.out.later hb)
    have Ry_7 := Lib.hid (Ry_6.out.later hb)
    have by__7 : (w6.alloc (.cells #[.slice (some ⟨gy, 0, none⟩) ys.length ys.length] 27)).cell? ⟨w6.heap.size, 0, none⟩ = some (.slice (some ⟨gy, 0, none⟩) ys.length ys.length) := by simp
    clear hb ca_6 cb_6 bw_6 bx_6 Rw_6 Rx_6 Ry_6 B_6
    go_wp2_with fail
    refine (HI.out _ (some ⟨gx, 0, none⟩) (some ⟨gy, 0, none⟩) (gx + 1) (gy + 1) Rx_7.out.ints Ry_7.out.ints Rx_7.out.lt Ry_7.out.lt).mono ?_
    rintro e w8 ⟨gg, cg, xg, rfl, hg, hb, hrow⟩
    have L_ca_Rg : Hid (w.heap.size < gg) := Nat.lt_of_lt_of_le (World.block_lt_of_cell? _ _ ca_7) hg
    have L_cb_Rg : Hid (w.heap.size + 1 < gg) := Nat.lt_of_lt_of_le (World.block_lt_of_cell? _ _ cb_7) hg
    have L_Rw_Rg : Hid (gw < gg) := Nat.lt_of_lt_of_le (Rw_7.out.lt) hg
    have L_bw_Rg : Hid (bbw < gg) := Nat.lt_of_lt_of_le (World.block_lt_of_cell? _ _ bw_7) hg
    have L_Rx_Rg : Hid (gx < gg) := Nat.lt_of_lt_of_le (Rx_7.out.lt) hg
    have L_bx_Rg : Hid (w4.heap.size < gg) := Nat.lt_of_lt_of_le (World.block_lt_of_cell? _ _ bx_7) hg
    have L_Ry_Rg : Hid (gy < gg) := Nat.lt_of_lt_of_le (Ry_7.out.lt) hg
    have L_by__Rg : Hid (w6.heap.size < gg) := Nat.lt_of_lt_of_le (World.block_lt_of_cell? _ _ by__7) hg
    have G_Rg := Lib.hid (Nat.le_trans B_7.out.size hg)
    have B_8 := Lib.hid (below_step B_7.out hb)
    have ca_8 := cell_kept ca_7 hb
    have cb_8 := cell_kept cb_7 hb
    have bw_8 := cell_kept bw_7 hb
    have bx_8 := cell_kept bx_7 hb
    have by__8 := cell_kept by__7 hb
    have Rw_8 := Lib.hid (Rw_7.out.later hb)
    have Rx_8 := Lib.hid (Rx_7.out.later hb)
    have Ry_8 := Lib.hid (Ry_7.out.later hb)
    have Rg_8 := Lib.hid hrow
    clear hb hrow hg ca_7 cb_7 bw_7 bx_7 by__7 Rw_7 Rx_7 Ry_7 B_7
    have L_Rx_bg : Hid (gx < w8.heap.size) := Nat.lt_of_lt_of_le (Rx_8.out.lt) (Nat.le_refl _)
    have L_Ry_bg : Hid (gy < w8.heap.size) := Nat.lt_of_lt_of_le (Ry_8.out.lt) (Nat.le_refl _)
    have L_Rg_bg : Hid (gg < w8.heap.size) := Nat.lt_of_lt_of_le (Rg_8.out.lt) (Nat.le_refl _)
    have hb := below_box w8 (.cells #[.slice (some ⟨gg, 0, none⟩) zs.length cg] 27)
    have B_9 := Lib.hid (below_step B_8.out hb)
    have ca_9 := cell_kept ca_8 hb
    have cb_9 := cell_kept cb_8 hb
    have bw_9 := cell_kept bw_8 hb
    have bx_9 := cell_kept bx_8 hb
    have by__9 := cell_kept by__8 hb
    have Rw_9 := Lib.hid (Rw_8.out.later hb)
    have Rx_9 := Lib.hid (Rx_8.out.later hb)
    have Ry_9 := Lib.hid (Ry_8.out.later hb)
    have Rg_9 := Lib.hid (Rg_8.out.later hb)
    have bg_9 : (w8.alloc (.cells #[.slice (some ⟨gg, 0, none⟩) zs.length cg] 27)).cell? ⟨w8.heap.size, 0, none⟩ = some (.slice (some ⟨gg, 0, none⟩) zs.length cg) := by simp
    clear hb ca_8 cb_8 bw_8 bx_8 by__8 Rw_8 Rx_8 Ry_8 Rg_8 B_8
    go_wp2_with fail
    refine (eqCard_any (some ⟨gg, 0, none⟩) (some ⟨gw, 0, none⟩) cg cw zs zs (gg + 1) (gw + 1) _ Rg_9.out.ints Rw_9.out.ints Rg_9.out.lt Rw_9.out.lt hz hz2).mono ?_
    rintro e w10 ⟨rfl, hb⟩
    have B_10 := Lib.hid (below_step B_9.out hb)
    have ca_10 := cell_kept ca_9 hb
    have cb_10 := cell_kept cb_9 hb
    have bw_10 := cell_kept bw_9 hb
    have bx_10 := cell_kept bx_9 hb
    have by__10 := cell_kept by__9 hb
    have bg_10 := cell_kept bg_9 hb
    have Rw_10 := Lib.hid (Rw_9.out.later hb)
    have Rx_10 := Lib.hid (Rx_9.out.later hb)
    have Ry_10 := Lib.hid (Ry_9.out.later hb)
    have Rg_10 := Lib.hid (Rg_9.out.later hb)
    clear hb ca_9 cb_9 bw_9 bx_9 by__9 bg_9 Rw_9 Rx_9 Ry_9 Rg_9 B_9
    go_wp2
    go_region_held3 (fun W => W.cell? ⟨w.heap.size, 0, none⟩ = some (.slice A xs.length c) ∧ W.cell? ⟨w4.heap.size, 0, none⟩ = some (.slice (some ⟨gx, 0, none⟩) xs.length xs.length))
      (first | exact ⟨ca_10, bx_10⟩ | exact ⟨ca_11, bx_11⟩ | exact ⟨ca_12, bx_12⟩)
      (first
        | (go_at_call 11
           refine (toCard_any A c xs w.heap.size _ ?_ ?_ hx1).mono ?_
           · exact H.out.below B_10.out.drew
           · exact B_10.out.drew.size
           rintro e w11 ⟨ge, rfl, hg, hb, hrow⟩
           have L_Rx_Re : Hid (gx < ge) := Nat.lt_of_lt_of_le (Rx_10.out.lt) hg
           have L_Ry_Re : Hid (gy < ge) := Nat.lt_of_lt_of_le (Ry_10.out.lt) hg
           have L_Rg_Re : Hid (gg < ge) := Nat.lt_of_lt_of_le (Rg_10.out.lt) hg
           have B_11 := Lib.hid (below_step B_10.out.drew hb)
           have ca_11 := cell_kept (w := w10.drew) ca_10 hb
           have cb_11 := cell_kept (w := w10.drew) cb_10 hb
           have bw_11 := cell_kept (w := w10.drew) bw_10 hb
           have bx_11 := cell_kept (w := w10.drew) bx_10 hb
           have by__11 := cell_kept (w := w10.drew) by__10 hb
           have bg_11 := cell_kept (w := w10.drew) bg_10 hb
           have Rw_11 := Lib.hid (Rw_10.out.drew.later hb)
           have Rx_11 := Lib.hid (Rx_10.out.drew.later hb)
           have Ry_11 := Lib.hid (Ry_10.out.drew.later hb)
           have Rg_11 := Lib.hid (Rg_10.out.drew.later hb)
           have Re_11 := Lib.hid hrow
           clear hb hrow hg)
        | (go_at_call 13
           refine (eqCard_any (some ⟨gx, 0, none⟩) (some ⟨ge, 0, none⟩) _ _ xs xs (gx + 1) (ge + 1) _ ?_ ?_ ?_ ?_ hx1 hx2).mono ?_
           · exact Rx_11.out.ints
           · exact Re_11.out.ints
           · exact Rx_11.out.lt
           · exact Re_11.out.lt
           rintro e w12 ⟨rfl, hb⟩
           have B_12 := Lib.hid (below_step B_11.out hb)
           have ca_12 := cell_kept ca_11 hb
           have cb_12 := cell_kept cb_11 hb
           have bw_12 := cell_kept bw_11 hb
           have bx_12 := cell_kept bx_11 hb
           have by__12 := cell_kept by__11 hb
           have bg_12 := cell_kept bg_11 hb
           have Rw_12 := Lib.hid (Rw_11.out.later hb)
           have Rx_12 := Lib.hid (Rx_11.out.later hb)
           have Ry_12 := Lib.hid (Ry_11.out.later hb)
           have Rg_12 := Lib.hid (Rg_11.out.later hb)
           have Re_12 := Lib.hid (Re_11.out.later hb)
           clear hb))
    clear ca_10 cb_10 bw_10 bx_10 by__10 bg_10 Rw_10 Rx_10 Ry_10 Rg_10 B_10 ca_11 cb_11 bw_11 bx_11 by__11 bg_11 Rw_11 Rx_11 Ry_11 Rg_11 Re_11 B_11
    clear Re_12
    go_wp2
    go_region_held3 (fun W => W.cell? ⟨w.heap.size + 1, 0, none⟩ = some (.slice A' ys.length c') ∧ W.cell? ⟨w6.heap.size, 0, none⟩ = some (.slice (some ⟨gy, 0, none⟩) ys.length ys.length))
      (first | exact ⟨cb_12, by__12⟩ | exact ⟨cb_13, by__13⟩ | exact ⟨cb_14, by__14⟩)
      (first
        | (go_at_call 11
           refine (toCard_any A' c' ys w.heap.size _ ?_ ?_ hy1).mono ?_
           · exact H'.out.below B_12.out.drew
           · exact B_12.out.drew.size
           rintro e w13 ⟨ge, rfl, hg, hb, hrow⟩
           have L_Rx_Re : Hid (gx < ge) := Nat.lt_of_lt_of_le (Rx_12.out.lt) hg
           have L_Ry_Re : Hid (gy < ge) := Nat.lt_of_lt_of_le (Ry_12.out.lt) hg
           have L_Rg_Re : Hid (gg < ge) := Nat.lt_of_lt_of_le (Rg_12.out.lt) hg
           have B_13 := Lib.hid (below_step B_12.out.drew hb)
           have ca_13 := cell_kept (w := w12.drew) ca_12 hb
           have cb_13 := cell_kept (w := w12.drew) cb_12 hb
           have bw_13 := cell_kept (w := w12.drew) bw_12 hb
           have bx_13 := cell_kept (w := w12.drew) bx_12 hb
           have by__13 := cell_kept (w := w12.drew) by__12 hb
           have bg_13 := cell_kept (w := w12.drew) bg_12 hb
           have Rw_13 := Lib.hid (Rw_12.out.drew.later hb)
           have Rx_13 := Lib.hid (Rx_12.out.drew.later hb)
           have Ry_13 := Lib.hid (Ry_12.out.drew.later hb)
           have Rg_13 := Lib.hid (Rg_12.out.drew.later hb)
           have Re_13 := Lib.hid hrow
           clear hb hrow hg)
        | (go_at_call 13
           refine (eqCard_any (some ⟨gy, 0, none⟩) (some ⟨ge, 0, none⟩) _ _ ys ys (gy + 1) (ge + 1) _ ?_ ?_ ?_ ?_ hy1 hy2).mono ?_
           · exact Ry_13.out.ints
           · exact Re_13.out.ints
           · exact Ry_13.out.lt
           · exact Re_13.out.lt
           rintro e w14 ⟨rfl, hb⟩
           have B_14 := Lib.hid (below_step B_13.out hb)
           have ca_14 := cell_kept ca_13 hb
           have cb_14 := cell_kept cb_13 hb
           have bw_14 := cell_kept bw_13 hb
           have bx_14 := cell_kept bx_13 hb
           have by__14 := cell_kept by__13 hb
           have bg_14 := cell_kept bg_13 hb
           have Rw_14 := Lib.hid (Rw_13.out.later hb)
           have Rx_14 := Lib.hid (Rx_13.out.later hb)
           have Ry_14 := Lib.hid (Ry_13.out.later hb)
           have Rg_14 := Lib.hid (Rg_13.out.later hb)
           have Re_14 := Lib.hid (Re_13.out.later hb)
           clear hb))
    clear ca_12 cb_12 bw_12 bx_12 by__12 bg_12 Rw_12 Rx_12 Ry_12 Rg_12 B_12 ca_13 cb_13 bw_13 bx_13 by__13 bg_13 Rw_13 Rx_13 Ry_13 Rg_13 Re_13 B_13
    clear Re_14
    go_wp2_with fail
    refine (markCard_any gx xs.length xs [] 1 _ Rx_14.out (by omega) (by omega) hx1).mono ?_
    rintro e w15 ⟨rfl, hg, hrow⟩
    have B_15 := Lib.hid (below_only B_14.out hg G_Rx.out)
    have ca_15 := cell_only hg ca_14 (Nat.ne_of_lt L_ca_Rx.out)
    have cb_15 := cell_only hg cb_14 (Nat.ne_of_lt L_cb_Rx.out)
    have bw_15 := cell_only hg bw_14 (Nat.ne_of_lt L_bw_Rx.out)
    have bx_15 := cell_only hg bx_14 (Nat.ne_of_gt L_Rx_bx.out)
    have by__15 := cell_only hg by__14 (Nat.ne_of_gt L_Rx_by_.out)
    have bg_15 := cell_only hg bg_14 (Nat.ne_of_gt L_Rx_bg.out)
    have Rw_15 := Lib.hid (Row.only hg Rw_14.out (Nat.ne_of_lt L_Rw_Rx.out))
    have Rx_15 := Lib.hid hrow
    have Ry_15 := Lib.hid (Row.only hg Ry_14.out (Nat.ne_of_gt L_Rx_Ry.out))
    have Rg_15 := Lib.hid (Row.only hg Rg_14.out (Nat.ne_of_gt L_Rx_Rg.out))
    clear hg hrow B_14 ca_14 cb_14 bw_14 bx_14 by__14 bg_14 Rw_14 Rx_14 Ry_14 Rg_14
    clear Rx_15
    go_wp2_with fail
    refine (markCard_any gy ys.length ys [] (1 + (xs.length : Int)) _ Ry_15.out (by omega) (by omega) hy1).mono ?_
    rintro e w16 ⟨rfl, hg, hrow⟩
    have B_16 := Lib.hid (below_only B_15.out hg G_Ry.out)
    have ca_16 := cell_only hg ca_15 (Nat.ne_of_lt L_ca_Ry.out)
    have cb_16 := cell_only hg cb_15 (Nat.ne_of_lt L_cb_Ry.out)
    have bw_16 := cell_only hg bw_15 (Nat.ne_of_lt L_bw_Ry.out)
    have bx_16 := cell_only hg bx_15 (Nat.ne_of_lt L_bx_Ry.out)
    have by__16 := cell_only hg by__15 (Nat.ne_of_gt L_Ry_by_.out)
    have bg_16 := cell_only hg bg_15 (Nat.ne_of_gt L_Ry_bg.out)
    have Rw_16 := Lib.hid (Row.only hg Rw_15.out (Nat.ne_of_lt L_Rw_Ry.out))
    have Ry_16 := Lib.hid hrow
    have Rg_16 := Lib.hid (Row.only hg Rg_15.out (Nat.ne_of_gt L_Ry_Rg.out))
    clear hg hrow B_15 ca_15 cb_15 bw_15 bx_15 by__15 bg_15 Rw_15 Ry_15 Rg_15
    clear Ry_16
    go_wp2_with fail
    refine (eqCard_any (some ⟨gg, 0, none⟩) (some ⟨gw, 0, none⟩) cg cw zs zs (gg + 1) (gw + 1) _ Rg_16.out.ints Rw_16.out.ints Rg_16.out.lt Rw_16.out.lt hz hz2).mono ?_
    rintro e w17 ⟨rfl, hb⟩
    have B_17 := Lib.hid (below_step B_16.out hb)
    have ca_17 := cell_kept ca_16 hb
    have cb_17 := cell_kept cb_16 hb
    have bw_17 := cell_kept bw_16 hb
    have bx_17 := cell_kept bx_16 hb
    have by__17 := cell_kept by__16 hb
    have bg_17 := cell_kept bg_16 hb
    have Rw_17 := Lib.hid (Rw_16.out.later hb)
    have Rg_17 := Lib.hid (Rg_16.out.later hb)
    clear hb ca_16 cb_16 bw_16 bx_16 by__16 bg_16 Rw_16 Rg_16 B_16
    go_wp2_with fail
    refine (markCard_any gg cg zs xg 1 _ Rg_17.out (by omega) (by omega) hz).mono ?_
    rintro e w18 ⟨rfl, hg, hrow⟩
    have B_18 := Lib.hid (below_only B_17.out hg G_Rg.out)
    have ca_18 := cell_only hg ca_17 (Nat.ne_of_lt L_ca_Rg.out)
    have cb_18 := cell_only hg cb_17 (Nat.ne_of_lt L_cb_Rg.out)
    have bw_18 := cell_only hg bw_17 (Nat.ne_of_lt L_bw_Rg.out)
    have bx_18 := cell_only hg bx_17 (Nat.ne_of_lt L_bx_Rg.out)
    have by__18 := cell_only hg by__17 (Nat.ne_of_lt L_by__Rg.out)
    have bg_18 := cell_only hg bg_17 (Nat.ne_of_gt L_Rg_bg.out)
    have Rw_18 := Lib.hid (Row.only hg Rw_17.out (Nat.ne_of_lt L_Rw_Rg.out))
    have Rg_18 := Lib.hid hrow
    clear hg hrow B_17 ca_17 cb_17 bw_17 bx_17 by__17 bg_17 Rw_17 Rg_17
    go_wp2_with fail
    refine (heldCard_any (some ⟨gg, 0, none⟩) cg zs.length (gg + 1) 1 _ Rg_18.out.ints Rg_18.out.lt (by omega) (by omega) hz).mono ?_
    rintro e w19 ⟨rfl, hb⟩
    have B_19 := Lib.hid (below_step B_18.out hb)
    have ca_19 := cell_kept ca_18 hb
    have cb_19 := cell_kept cb_18 hb
    have bw_19 := cell_kept bw_18 hb
    have bx_19 := cell_kept bx_18 hb
    have by__19 := cell_kept by__18 hb
    have bg_19 := cell_kept bg_18 hb
    have Rw_19 := Lib.hid (Rw_18.out.later hb)
    have Rg_19 := Lib.hid (Rg_18.out.later hb)
    clear hb ca_18 cb_18 bw_18 bx_18 by__18 bg_18 Rw_18 Rg_18 B_18
    go_upto_region 31 with fail
    go_cut [15, 16] (fun s6 s7 wx => BoxedCard w19 zs s6 s7 wx)
    case first =>
      have tok0 : True := trivial
      have K0 := Lib.hid (below_drew (Below.refl w19.heap.size w19))
      go_region_held3 (fun W => W.cell? ⟨w.heap.size, 0, none⟩ = some (.slice A xs.length c) ∧ W.cell? ⟨w.heap.size + 1, 0, none⟩ = some (.slice A' ys.length c'))
        (first | exact ⟨ca_19, cb_19⟩ | exact ⟨cell_kept ca_19 K0.out, cell_kept cb_19 K0.out⟩ | exact ⟨cell_kept ca_19 (below_boxed K0.out _), cell_kept cb_19 (below_boxed K0.out _)⟩ | exact ⟨cell_kept ca_19 K1.out, cell_kept cb_19 K1.out⟩ | exact ⟨cell_kept ca_19 (below_boxed K1.out _), cell_kept cb_19 (below_boxed K1.out _)⟩ | exact ⟨cell_kept ca_19 K2.out, cell_kept cb_19 K2.out⟩ | exact ⟨cell_kept ca_19 (below_boxed K2.out _), cell_kept cb_19 (below_boxed K2.out _)⟩ | exact ⟨cell_kept ca_19 K3.out, cell_kept cb_19 K3.out⟩ | exact ⟨cell_kept ca_19 (below_boxed K3.out _), cell_kept cb_19 (below_boxed K3.out _)⟩ | exact ⟨cell_kept ca_19 (below_stored K3.out (Nat.le_refl _)), cell_kept cb_19 (below_stored K3.out (Nat.le_refl _))⟩ | exact ⟨cell_kept ca_19 (below_stored K3.out K1.out.size), cell_kept cb_19 (below_stored K3.out K1.out.size)⟩ | exact ⟨cell_kept ca_19 (below_stored K3.out K2.out.size), cell_kept cb_19 (below_stored K3.out K2.out.size)⟩ | go_keep)
        (first
          | (go_at_call 11
             have _t := tok0
             refine (toCard_any A c xs w.heap.size _ ?_ ?_ hx1).mono ?_
             · first | exact H.out.below B_19.out.drew | exact H.out.below (below_boxed B_19.out.drew _)
             · first | exact B_19.out.drew.size | exact (below_boxed B_19.out.drew _).size
             rintro e w19_1 ⟨ga, rfl, hg, hb, hrow⟩
             have K1 : Hid (Below w19.heap.size w19 w19_1) := by first | exact below_step K0.out hb | exact below_step (below_boxed K0.out _) hb
             have Ra_r1 := Lib.hid hrow
             have hg1 := Lib.hid hg
             try (have cb0_1 := cell_kept (w := (w19.alloc (.cells #[.slice none 0 0] 27)).drew) (new_cell w19 (.slice none 0 0) _) hb)
             try (have fr0_1 := frozen_kept (w := (w19.alloc (.cells #[.slice none 0 0] 27)).drew) (new_cell w19 (.slice none 0 0) _) (new_frozen w19 _ _) hb)
             clear hb hrow hg _t tok0)
          | (go_at_call 11
             refine (toCard_any A' c' ys w.heap.size _ ?_ ?_ hy1).mono ?_
             · first | exact H'.out.below (below_step B_19.out K1.out) | exact H'.out.below (below_boxed (below_step B_19.out K1.out) _)
             · first | exact (below_step B_19.out K1.out).size | exact (below_boxed (below_step B_19.out K1.out) _).size
             rintro e w19_2 ⟨gb, rfl, hg, hb, hrow⟩
             have K2 : Hid (Below w19.heap.size w19 w19_2) := by first | exact below_step K1.out hb | exact below_step (below_boxed K1.out _) hb
             have Ra_r2 := Lib.hid (Row.later (by first | exact Ra_r1.out | exact Ra_r1.out.alloc _) hb)
             have Rb_r2 := Lib.hid hrow
             have hg2 := Lib.hid hg
             try (have cb0_2 := cell_kept cb0_1 hb)
             try (have fr0_2 := frozen_kept cb0_1 fr0_1 hb)
             try (have cb1_2 := cell_kept (new_cell w19_1 (.slice none 0 0) _) hb)
             try (have fr1_2 := frozen_kept (new_cell w19_1 (.slice none 0 0) _) (new_frozen w19_1 _ _) hb)
             clear hb hrow hg)
          | (go_at_call 25
             refine (HI.out _ (some ⟨ga, 0, none⟩) (some ⟨gb, 0, none⟩) (ga + 1) (gb + 1) ?_ ?_ ?_ ?_).mono ?_
             · first | exact Ra_r2.out.ints | exact (Ra_r2.out.alloc _).ints
             · first | exact Rb_r2.out.ints | exact (Rb_r2.out.alloc _).ints
             · first | exact Ra_r2.out.lt | exact (Ra_r2.out.alloc _).lt
             · first | exact Rb_r2.out.lt | exact (Rb_r2.out.alloc _).lt
             rintro e w19_3 ⟨gh, ch, xh, rfl, hg, hb, hrow⟩
             have K3 : Hid (Below w19.heap.size w19 w19_3) := by first | exact below_step K2.out hb | exact below_step (below_boxed K2.out _) hb
             have Rh_r3 := Lib.hid hrow
             have hg3 := Lib.hid hg
             try (have cb0_3 := cell_kept cb0_2 hb)
             try (have fr0_3 := frozen_kept cb0_2 fr0_2 hb)
             try (have cb1_3 := cell_kept cb1_2 hb)
             try (have fr1_3 := frozen_kept cb1_2 fr1_2 hb)
             try (have cb2_3 := cell_kept (new_cell w19_2 (.slice none 0 0) _) hb)
             try (have fr2_3 := frozen_kept (new_cell w19_2 (.slice none 0 0) _) (new_frozen w19_2 _ _) hb)
             clear hb hrow hg))
      all_goals (go_wp2_with fail; go_meet; first | exact boxed_last K3.out Rh_r3.out hg3.out K2.out.size | exact boxed_early K3.out Rh_r3.out (Nat.le_refl _) cb0_3 (Nat.lt_of_lt_of_le (World.block_lt_of_cell? _ _ cb0_2) hg3.out) (Nat.le_trans K2.out.size hg3.out) | exact boxed_early K3.out Rh_r3.out (Nat.le_refl _) cb0_3 (Nat.lt_of_lt_of_le (World.block_lt_of_cell? _ _ cb0_2) hg3.out) (Nat.le_trans (below_boxed K2.out _).size hg3.out) | exact boxed_early K3.out Rh_r3.out K1.out.size cb1_3 (Nat.lt_of_lt_of_le (World.block_lt_of_cell? _ _ cb1_2) hg3.out) (Nat.le_trans K2.out.size hg3.out) | exact boxed_early K3.out Rh_r3.out K1.out.size cb1_3 (Nat.lt_of_lt_of_le (World.block_lt_of_cell? _ _ cb1_2) hg3.out) (Nat.le_trans (below_boxed K2.out _).size hg3.out) | exact boxed_early K3.out Rh_r3.out K2.out.size cb2_3 (Nat.lt_of_lt_of_le (World.block_lt_of_cell? _ _ (new_cell w19_2 (.slice none 0 0) 27)) hg3.out) (Nat.le_trans K2.out.size hg3.out) | exact boxed_early K3.out Rh_r3.out K2.out.size cb2_3 (Nat.lt_of_lt_of_le (World.block_lt_of_cell? _ _ (new_cell w19_2 (.slice none 0 0) 27)) hg3.out) (Nat.le_trans (below_boxed K2.out _).size hg3.out))
    case rest =>
      obtain ⟨bbh, gh, ch, xh, rfl, rfl, hb, hbb, hg, hne, hcell, hrow⟩ := hcut
      rename World => w20
      have L_Rg_Rh : Hid (gg < gh) := Nat.lt_of_lt_of_le (Rg_19.out.lt) hg
      have L_Rg_bh : Hid (gg < bbh) := Nat.lt_of_lt_of_le (Rg_19.out.lt) hbb
      have B_20 := Lib.hid (below_step B_19.out hb)
      have ca_20 := cell_kept ca_19 hb
      have cb_20 := cell_kept cb_19 hb
      have bw_20 := cell_kept bw_19 hb
      have bx_20 := cell_kept bx_19 hb
      have by__20 := cell_kept by__19 hb
      have bg_20 := cell_kept bg_19 hb
      have Rw_20 := Lib.hid (Rw_19.out.later hb)
      have Rg_20 := Lib.hid (Rg_19.out.later hb)
      have Rh_20 := Lib.hid hrow
      have bh_20 := hcell
      clear hb hbb hcell hg hne hrow ca_19 cb_19 bw_19 bx_19 by__19 bg_19 Rw_19 Rg_19 B_19
      go_wp2_with fail
      refine (eqCard_any (some ⟨gh, 0, none⟩) (some ⟨gw, 0, none⟩) ch cw zs zs (gh + 1) (gw + 1) _ Rh_20.out.ints Rw_20.out.ints Rh_20.out.lt Rw_20.out.lt hz hz2).mono ?_
      rintro e w21 ⟨rfl, hb⟩
      have B_21 := Lib.hid (below_step B_20.out hb)
      have ca_21 := cell_kept ca_20 hb
      have cb_21 := cell_kept cb_20 hb
      have bw_21 := cell_kept bw_20 hb
      have bx_21 := cell_kept bx_20 hb
      have by__21 := cell_kept by__20 hb
      have bg_21 := cell_kept bg_20 hb
      have bh_21 := cell_kept bh_20 hb
      have Rw_21 := Lib.hid (Rw_20.out.later hb)
      have Rg_21 := Lib.hid (Rg_20.out.later hb)
      have Rh_21 := Lib.hid (Rh_20.out.later hb)
      clear hb ca_20 cb_20 bw_20 bx_20 by__20 bg_20 bh_20 Rw_20 Rg_20 Rh_20 B_20
      go_wp2_with fail
      refine (heldCard_any (some ⟨gg, 0, none⟩) cg zs.length (gg + 1) 1 _ Rg_21.out.ints Rg_21.out.lt (by omega) (by omega) hz).mono ?_
      rintro e w22 ⟨rfl, hb⟩
      have B_22 := Lib.hid (below_step B_21.out hb)
      have ca_22 := cell_kept ca_21 hb
      have cb_22 := cell_kept cb_21 hb
      have bw_22 := cell_kept bw_21 hb
      have bx_22 := cell_kept bx_21 hb
      have by__22 := cell_kept by__21 hb
      have bg_22 := cell_kept bg_21 hb
      have bh_22 := cell_kept bh_21 hb
      have Rw_22 := Lib.hid (Rw_21.out.later hb)
      have Rg_22 := Lib.hid (Rg_21.out.later hb)
      have Rh_22 := Lib.hid (Rh_21.out.later hb)
      clear hb ca_21 cb_21 bw_21 bx_21 by__21 bg_21 bh_21 Rw_21 Rg_21 Rh_21 B_21
      go_wp2
      go_ret
      exact ⟨rfl, B_22.out⟩

theorem walk (A : Option Addr) (c : Nat) (xs : List Int) {w : World} (h : Ints w w.heap.size A xs) (hl : xs.length ≤ 9223372036854775807) (_ : ∀ n ∈ xs, (Lit.int .i64 n).wf = true)
    (A' : Option Addr) (c' : Nat) (ys : List Int) {w0 : World} (h' : Ints w0 w0.heap.size A' ys) (hl' : ys.length ≤ 9223372036854775807) (_ : ∀ n ∈ ys, (Lit.int .i64 n).wf = true) (w1 : World) (e1 : w = w1) (e0 : w0 = w1) :
    Calls Try.prog 8 #[.agg #[.slice A xs.length c], .agg #[.slice A' ys.length c']] w1 fun e w' => e = .returned (.bool true) ∧ Below w1.heap.size w1 w' := by
  subst e1
  subst e0
  by_cases hn : xs.length ≤ 1048576
  · by_cases hs : xs.length + ys.length ≤ 1048576
    · have hx1 : xs.length ≤ 1048576 := by omega
      have hy1 : ys.length ≤ 1048576 := by omega
      by_cases e : joinKC xs ys = 0
      · have hz := joinKA_length xs ys
        have ej := e
        exact walk_good A A' c c' xs ys (joinKA xs ys) w0 h h' hs hz (fun W A A' B B' hI hI' hB hB' => (specJoinK_any A A' _ _ xs ys B B' W hI hI' hB hB' hx1 hy1).mono fun _ _ hh => (hh.resolve_right fun k => k.1 ej).2) (fun W A A' B B' hI hI' hB hB' => (implJoinK_any A A' _ _ xs ys B B' W hI hI' hB hB' hx1 hy1).mono fun _ _ hh => (hh.resolve_right fun k => k.1 ej).2)
      · exact walk_bad A A' c c' xs ys _ w0 h h' hs (fun W A A' B B' hI hI' hB hB' => (specJoinK_any A A' _ _ xs ys B B' W hI hI' hB hB' hx1 hy1).mono fun _ _ hh => (hh.resolve_left fun k => e k.1).2) (fun W A A' B B' hI hI' hB hB' => (implJoinK_any A A' _ _ xs ys B B' W hI hI' hB hB' hx1 hy1).mono fun _ _ hh => (hh.resolve_left fun k => e k.1).2)
    · exact walk_sum A A' c xs.length c' ys.length w0 hn hl' (by omega)
  · exact walk_big A A' c xs.length c' ys.length w0 hl (by omega)

set_option maxRecDepth 100000 in
theorem lifted (os : Os) (started : os.Started) (H : Type) (enc : TypeId × Value → H) :
    ReturnsInHanded {} Try.checked os 8 .any (Rows.fnExactJoinCountersSpec.pre6 enc Try.prog Try.f8 Rows.fnExactJoinCountersRow.domain false) (Rows.fnExactJoinCountersSpec.post enc Try.prog Try.f8 false true false false) := by
  refine returnsInHanded_of_change (C := Try.checked) own started (by kernel_rfl) Try.func8
    (ChangeSpec.witness6 (enc := enc) (C := Try.checked) false ⟨#[], #[.agg #[.slice none 0 0], .agg #[.slice none 0 0]], []⟩ 8 (by kernel_rfl) (by kernel_rfl) (by kernel_rfl) (by kernel_rfl)) ?_
  intro W base args ds gs before hval0 hW _ _
  have hval : ∀ (j : Nat) t v, Try.f8.params[j]? = some t → args[j]? = some v → Value.okWide Try.prog W .any base t v := hval0
  have hW' := hW
  obtain ⟨p, q, hA0, hV, rfl, _, _⟩ := hW
  have hA : DataW.TrodAll enc Try.prog W 0 (fun _ => true) true Try.f8.params.toList args.toList ds p := hA0
  rw [Try.params8] at hA hval
  obtain ⟨v0, vs0, d0, ds0, p0, q0, hargs, rfl, rfl, h0, r0⟩ := trodAll_cons hA
  obtain ⟨v1, vs1, d1, ds1, p1, q1, rfl, rfl, rfl, h1, r1⟩ := trodAll_cons r0
  obtain ⟨rfl, rfl, rfl⟩ := trodAll_nil r1
  obtain rfl : args = #[v0, v1] := by cases args; simp_all
  obtain ⟨rfl, rfl⟩ := trodVars_none hV
  obtain ⟨A0, c0, xs0, rfl, i0, l0, w0⟩ := open_card (hval 0 24 v0 rfl rfl) h0
  obtain ⟨A1, c1, xs1, rfl, i1, l1, w1⟩ := open_card (hval 1 24 v1 rfl rfl) h1
  refine (walk A0 c0 xs0 i0 l0 w0 A1 c1 xs1 i1 l1 w1 W rfl rfl).mono fun e W' ⟨he, hb⟩ => ?_
  subst he
  refine ⟨_, rfl, law_post hW' rfl rfl ?_ rfl rfl rfl hb⟩
  intro t ht
  rw [Try.params8] at ht
  obtain rfl : t = 24 := by simpa using ht
  exact ⟨by kernel_rfl, of_decide_eq_true (by kernel_rfl)⟩

theorem over : Rows.fnExactJoinCountersRow.holds Try.pinned (OpenSpec.ofChange Rows.fnExactJoinCountersSpec) :=
  OpenClaim.holds_of_wide 8 Try.f8 rfl rfl rfl rfl rfl rfl rfl ⟨rfl, rfl, rfl, rfl, rfl⟩ rfl rfl rfl rfl rfl (by kernel_rfl) Try.func8 (by kernel_rfl)
    (of_decide_eq_true (by kernel_rfl)) (by unfold Func.isWrapper; first | (rw [if_pos (by decide +kernel)]; kernel_rfl) | (rw [if_neg (by decide +kernel)]; exact ⟨rfl, rfl⟩))
    (fun os started H enc _ => lifted os started H enc)

theorem proved : Rows.FnExactJoinCountersSaid :=
  over
end Go.Proofs.Ytkiphejkgpfjjaa.fnExactJoinCounters
