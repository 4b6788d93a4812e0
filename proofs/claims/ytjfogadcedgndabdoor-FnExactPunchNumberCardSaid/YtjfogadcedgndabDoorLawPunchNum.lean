/- For every card, field and number, the law FnExactPunchNumber returns true: impl.PunchNumber answers as spec.PunchNumber, in memory of its own, and leaves its argument as it was. Condition: the two sentinel errors and the library's table of powers of ten hold what the program's text lays in them (the card ties that). -/
import Derived.Test.YtjfogadcedgndabDoorPunchNumI
import Derived.Test.YtjfogadcedgndabDoorLaw
import Derived.Test.YtjfogadcedgndabDoorBoxed
import Derived.Deep.RegionHeld3
import Derived.Deep.DeepCutAuto
import Derived.Test.YtjfogadcedgndabDoorCards
import Derived.Test.YtjfogadcedgndabDoorTie
import Derived.LaidMore
import Derived.OpenVars
import Derived.Stop.Joined
namespace Go.Proofs.YtjfogadcedgndabDoor.fnExactPunchNumber
open Go.ChangeShapes Go.WideShapes Go.ChangeAt Go.RowKit

theorem walk_big (A : Option Addr) (c n : Nat) (f0 : Int) (f1 : Int) (nn : Int) (w : World) (hn : n ≤ 9223372036854775807) (hbig : 1048576 < n) :
    Calls Tryd.prog 3 #[.agg #[.slice A n c], .agg #[.int .i64 f0, .int .i64 f1], .int .i64 nn] w fun e w' => e = .returned (.bool true) ∧ Below w.heap.size w w' := by
  have hs := fun W => szCard_any A n c 1048576 W (by omega) (by omega) hn
  have e : (if (1048576 : Int) < (n : Int) then (-1 : Int) else 1048576 - n) = -1 := if_pos (by omega)
  rw [e] at hs
  have HS := Lib.hid hs
  clear hs e
  go_enter Tryd.func3, Tryd.ntmps3
  go_wp2_with fail
  refine (HS.out _).mono ?_
  rintro e w1 ⟨rfl, hb1⟩
  have B1 := Lib.hid (below_step ((below_box w _).alloc (by simp) _) hb1)
  clear hb1
  go_wp2
  go_ret
  exact ⟨rfl, B1.out⟩

set_option maxRecDepth 100000 in
set_option maxHeartbeats 4000000 in
theorem walk_bad (A : Option Addr) (c : Nat) (xs : List Int) (f0 : Int) (f1 : Int) (nn : Int) (a : Int) (w : World) (h : Ints w w.heap.size A xs) (hn : xs.length ≤ 1048576)
    (hs : ∀ (W : World) (A : Option Addr) (B : Nat), Below w.heap.size w W → Ints W B A xs → B ≤ W.heap.size → Calls Tryd.prog 6 #[.agg #[.slice A xs.length xs.length], .agg #[.int .i64 f0, .int .i64 f1], .int .i64 nn] W (GivesCode a W))
    (hi : ∀ (W : World) (A : Option Addr) (B : Nat), Below w.heap.size w W → Ints W B A xs → B ≤ W.heap.size → Calls Tryd.prog 9 #[.agg #[.slice A xs.length xs.length], .agg #[.int .i64 f0, .int .i64 f1], .int .i64 nn] W (GivesCode a W)) :
    Calls Tryd.prog 3 #[.agg #[.slice A xs.length c], .agg #[.int .i64 f0, .int .i64 f1], .int .i64 nn] w fun e w' => e = .returned (.bool true) ∧ Below w.heap.size w w' := by
  have hz := fun W => szCard_any A xs.length c 1048576 W (by omega) (by omega) (by omega)
  have e : (if (1048576 : Int) < (xs.length : Int) then (-1 : Int) else 1048576 - xs.length) = 1048576 - xs.length := if_neg (by omega)
  rw [e] at hz
  have HZ := Lib.hid hz
  have H := Lib.hid h
  have HS := Lib.hid hs
  have HI := Lib.hid hi
  have hn' : xs.length ≤ 140737488355328 := by omega
  clear hz e h hs hi
  go_enter Tryd.func3, Tryd.ntmps3
  go_wp2_with fail
  refine (HZ.out _).mono ?_
  rintro e w1 ⟨rfl, hb⟩
  have B_1 := Lib.hid (below_step ((below_box w _).alloc (by simp) _) hb)
  have ca_1 := cell_kept (p := ⟨w.heap.size, 0, none⟩) (v := .slice A xs.length c) (by simp [go_sem]) hb
  have fa_1 := cell_kept (p := ⟨w.heap.size + 1, 0, none⟩) (v := .int .i64 f0) (by simp [go_sem]) hb
  have fb_1 := cell_kept (p := ⟨w.heap.size + 1, 1, none⟩) (v := .int .i64 f1) (by simp [go_sem]) hb
  clear hb
  go_upto_region 5 with fail
  go_cut [8, 9] (fun s6 s7 wx => BoxedNil w1 a s6 s7 wx)
  case first =>
    have K0 := Lib.hid (below_drew (Below.refl w1.heap.size w1))
    go_region_held3 (fun W => W.cell? ⟨w.heap.size, 0, none⟩ = some (.slice A xs.length c) ∧ W.cell? ⟨w.heap.size + 1, 0, none⟩ = some (.int .i64 f0) ∧ W.cell? ⟨w.heap.size + 1, 1, none⟩ = some (.int .i64 f1))
      (first | exact ⟨ca_1, fa_1, fb_1⟩ | exact ⟨cell_kept ca_1 K0.out, cell_kept fa_1 K0.out, cell_kept fb_1 K0.out⟩ | exact ⟨cell_kept ca_1 (below_boxed K0.out _), cell_kept fa_1 (below_boxed K0.out _), cell_kept fb_1 (below_boxed K0.out _)⟩ | exact ⟨cell_kept ca_1 K1.out, cell_kept fa_1 K1.out, cell_kept fb_1 K1.out⟩ | exact ⟨cell_kept ca_1 (below_boxed K1.out _), cell_kept fa_1 (below_boxed K1.out _), cell_kept fb_1 (below_boxed K1.out _)⟩ | exact ⟨cell_kept ca_1 K2.out, cell_kept fa_1 K2.out, cell_kept fb_1 K2.out⟩ | exact ⟨cell_kept ca_1 (below_boxed K2.out _), cell_kept fa_1 (below_boxed K2.out _), cell_kept fb_1 (below_boxed K2.out _)⟩ | exact ⟨cell_kept ca_1 K3.out, cell_kept fa_1 K3.out, cell_kept fb_1 K3.out⟩ | exact ⟨cell_kept ca_1 (below_boxed K3.out _), cell_kept fa_1 (below_boxed K3.out _), cell_kept fb_1 (below_boxed K3.out _)⟩ | exact ⟨cell_kept ca_1 (below_stored K3.out (Nat.le_refl _)), cell_kept fa_1 (below_stored K3.out (Nat.le_refl _)), cell_kept fb_1 (below_stored K3.out (Nat.le_refl _))⟩ | exact ⟨cell_kept ca_1 (below_stored K3.out K1.out.size), cell_kept fa_1 (below_stored K3.out K1.out.size), cell_kept fb_1 (below_stored K3.out K1.out.size)⟩ | exact ⟨cell_kept ca_1 (below_stored K3.out K2.out.size), cell_kept fa_1 (below_stored K3.out K2.out.size), cell_kept fb_1 (below_stored K3.out K2.out.size)⟩ | go_keep)
      (first
        | (go_at_call 7
           refine (toCard_any A c xs w.heap.size _ ?_ ?_ hn).mono ?_
           · first | exact H.out.below B_1.out.drew | exact H.out.below (below_boxed B_1.out.drew _)
           · first | exact B_1.out.drew.size | exact (below_boxed B_1.out.drew _).size
           rintro e w1_1 ⟨ga, rfl, hg, hb, hrow⟩
           have K1 : Hid (Below w1.heap.size w1 w1_1) := by first | exact below_step K0.out hb | exact below_step (below_boxed K0.out _) hb
           have Ra_r1 := Lib.hid hrow
           have hg1 := Lib.hid hg
           try (have cb0_1 := cell_kept (w := (w1.alloc (.cells #[.slice none 0 0] 28)).drew) (new_cell w1 (.slice none 0 0) _) hb)
           try (have fr0_1 := frozen_kept (w := (w1.alloc (.cells #[.slice none 0 0] 28)).drew) (new_cell w1 (.slice none 0 0) _) (new_frozen w1 _ _) hb)
           clear hb hrow hg)
        | (go_at_call 8
           refine (toField_any f0 f1 _).mono ?_
           rintro e w1_2 ⟨rfl, hb⟩
           have K2 : Hid (Below w1.heap.size w1 w1_2) := by first | exact below_step K1.out hb | exact below_step (below_boxed K1.out _) hb
           have Ra_r2 := Lib.hid (Row.later (by first | exact Ra_r1.out | exact Ra_r1.out.alloc _) hb)
           try (have cb0_2 := cell_kept cb0_1 hb)
           try (have fr0_2 := frozen_kept cb0_1 fr0_1 hb)
           try (have cb1_2 := cell_kept (new_cell w1_1 (.slice none 0 0) _) hb)
           try (have fr1_2 := frozen_kept (new_cell w1_1 (.slice none 0 0) _) (new_frozen w1_1 _ _) hb)
           clear hb)
        | (go_at_call 6
           refine (HS.out _ (some ⟨ga, 0, none⟩) (ga + 1) ?_ ?_ ?_).mono ?_
           · first | exact (below_step B_1.out K2.out) | exact below_boxed (below_step B_1.out K2.out) _
           · first | exact Ra_r2.out.ints | exact (Ra_r2.out.alloc _).ints
           · first | exact Ra_r2.out.lt | exact (Ra_r2.out.alloc _).lt
           rintro e w1_3 ⟨rfl, hb⟩
           have K3 : Hid (Below w1.heap.size w1 w1_3) := by first | exact below_step K2.out hb | exact below_step (below_boxed K2.out _) hb
           try (have cb0_3 := cell_kept cb0_2 hb)
           try (have fr0_3 := frozen_kept cb0_2 fr0_2 hb)
           try (have cb1_3 := cell_kept cb1_2 hb)
           try (have fr1_3 := frozen_kept cb1_2 fr1_2 hb)
           try (have cb2_3 := cell_kept (new_cell w1_2 (.slice none 0 0) _) hb)
           try (have fr2_3 := frozen_kept (new_cell w1_2 (.slice none 0 0) _) (new_frozen w1_2 _ _) hb)
           clear hb))
    all_goals (go_wp2_with fail; go_meet; first | exact boxedNil_last K3.out | exact boxedNil_early K3.out (Nat.le_refl _) cb0_3 | exact boxedNil_early K3.out K1.out.size cb1_3 | exact boxedNil_early K3.out K2.out.size cb2_3)
  case rest =>
    obtain ⟨bbw, rfl, rfl, hb, hbb, hcell⟩ := hcut
    rename World => w2
    have B_2 := Lib.hid (below_step B_1.out hb)
    have ca_2 := cell_kept ca_1 hb
    have fa_2 := cell_kept fa_1 hb
    have fb_2 := cell_kept fb_1 hb
    have bw_2 := hcell
    clear hb hbb hcell ca_1 fa_1 fb_1 B_1
    go_wp2_with fail
    refine (toCard_any A c xs w.heap.size _ (H.out.below B_2.out) B_2.out.size hn).mono ?_
    rintro e w3 ⟨gx, rfl, hg, hb, hrow⟩
    have L_ca_Rx : Hid (w.heap.size < gx) := Nat.lt_of_lt_of_le (World.block_lt_of_cell? _ _ ca_2) hg
    have L_fa_Rx : Hid (w.heap.size + 1 < gx) := Nat.lt_of_lt_of_le (World.block_lt_of_cell? _ _ fa_2) hg
    have L_fb_Rx : Hid (w.heap.size + 1 < gx) := Nat.lt_of_lt_of_le (World.block_lt_of_cell? _ _ fb_2) hg
    have L_bw_Rx : Hid (bbw < gx) := Nat.lt_of_lt_of_le (World.block_lt_of_cell? _ _ bw_2) hg
    have G_Rx := Lib.hid (Nat.le_trans B_2.out.size hg)
    have B_3 := Lib.hid (below_step B_2.out hb)
    have ca_3 := cell_kept ca_2 hb
    have fa_3 := cell_kept fa_2 hb
    have fb_3 := cell_kept fb_2 hb
    have bw_3 := cell_kept bw_2 hb
    have Rx_3 := Lib.hid hrow
    clear hb hrow hg ca_2 fa_2 fb_2 bw_2 B_2
    have L_Rx_bx : Hid (gx < w3.heap.size) := Nat.lt_of_lt_of_le (Rx_3.out.lt) (Nat.le_refl _)
    have hb := below_box w3 (.cells #[.slice (some ⟨gx, 0, none⟩) xs.length xs.length] 28)
    have B_4 := Lib.hid (below_step B_3.out hb)
    have ca_4 := cell_kept ca_3 hb
    have fa_4 := cell_kept fa_3 hb
    have fb_4 := cell_kept fb_3 hb
    have bw_4 := cell_kept bw_3 hb
    have Rx_4 := Lib.hid (Rx_3.out.later hb)
    have bx_4 : (w3.alloc (.cells #[.slice (some ⟨gx, 0, none⟩) xs.length xs.length] 28)).cell? ⟨w3.heap.size, 0, none⟩ = some (.slice (some ⟨gx, 0, none⟩) xs.length xs.length) := by simp
    clear hb ca_3 fa_3 fb_3 bw_3 Rx_3 B_3
    go_upto_region 7 with fail
    generalize (w3.alloc (.cells #[.slice (some ⟨gx, 0, none⟩) xs.length xs.length] 28)) = v4 at *
    go_cut [11, 12] (fun s6 s7 wx => BoxedNil v4 a s6 s7 wx)
    case first =>
      have K0 := Lib.hid (below_drew (Below.refl v4.heap.size v4))
      go_region_held3 (fun W => W.cell? ⟨w3.heap.size, 0, none⟩ = some (.slice (some ⟨gx, 0, none⟩) xs.length xs.length) ∧ W.cell? ⟨w.heap.size + 1, 0, none⟩ = some (.int .i64 f0) ∧ W.cell? ⟨w.heap.size + 1, 1, none⟩ = some (.int .i64 f1))
        (first | exact ⟨bx_4, fa_4, fb_4⟩ | exact ⟨cell_kept bx_4 K0.out, cell_kept fa_4 K0.out, cell_kept fb_4 K0.out⟩ | exact ⟨cell_kept bx_4 (below_boxed K0.out _), cell_kept fa_4 (below_boxed K0.out _), cell_kept fb_4 (below_boxed K0.out _)⟩ | exact ⟨cell_kept bx_4 K1.out, cell_kept fa_4 K1.out, cell_kept fb_4 K1.out⟩ | exact ⟨cell_kept bx_4 (below_boxed K1.out _), cell_kept fa_4 (below_boxed K1.out _), cell_kept fb_4 (below_boxed K1.out _)⟩ | exact ⟨cell_kept bx_4 K2.out, cell_kept fa_4 K2.out, cell_kept fb_4 K2.out⟩ | exact ⟨cell_kept bx_4 (below_boxed K2.out _), cell_kept fa_4 (below_boxed K2.out _), cell_kept fb_4 (below_boxed K2.out _)⟩ | exact ⟨cell_kept bx_4 (below_stored K2.out (Nat.le_refl _)), cell_kept fa_4 (below_stored K2.out (Nat.le_refl _)), cell_kept fb_4 (below_stored K2.out (Nat.le_refl _))⟩ | exact ⟨cell_kept bx_4 (below_stored K2.out K1.out.size), cell_kept fa_4 (below_stored K2.out K1.out.size), cell_kept fb_4 (below_stored K2.out K1.out.size)⟩ | go_keep)
        (first
          | (go_at_call 8
             refine (toField_any f0 f1 _).mono ?_
             rintro e w4_1 ⟨rfl, hb⟩
             have K1 : Hid (Below v4.heap.size v4 w4_1) := by first | exact below_step K0.out hb | exact below_step (below_boxed K0.out _) hb
             have Rx_r1 := Lib.hid (Row.later (by first | exact Rx_4.out.drew | exact Rx_4.out.drew.alloc _) hb)
             try (have cb0_1 := cell_kept (w := (v4.alloc (.cells #[.slice none 0 0] 28)).drew) (new_cell v4 (.slice none 0 0) _) hb)
             try (have fr0_1 := frozen_kept (w := (v4.alloc (.cells #[.slice none 0 0] 28)).drew) (new_cell v4 (.slice none 0 0) _) (new_frozen v4 _ _) hb)
             clear hb)
          | (go_at_call 9
             refine (HI.out _ (some ⟨gx, 0, none⟩) (gx + 1) ?_ ?_ ?_).mono ?_
             · first | exact (below_step B_4.out K1.out) | exact below_boxed (below_step B_4.out K1.out) _
             · first | exact Rx_r1.out.ints | exact (Rx_r1.out.alloc _).ints
             · first | exact Rx_r1.out.lt | exact (Rx_r1.out.alloc _).lt
             rintro e w4_2 ⟨rfl, hb⟩
             have K2 : Hid (Below v4.heap.size v4 w4_2) := by first | exact below_step K1.out hb | exact below_step (below_boxed K1.out _) hb
             try (have cb0_2 := cell_kept cb0_1 hb)
             try (have fr0_2 := frozen_kept cb0_1 fr0_1 hb)
             try (have cb1_2 := cell_kept (new_cell w4_1 (.slice none 0 0) _) hb)
             try (have fr1_2 := frozen_kept (new_cell w4_1 (.slice none 0 0) _) (new_frozen w4_1 _ _) hb)
             clear hb))
      all_goals (go_wp2_with fail; go_meet; first | exact boxedNil_last K2.out | exact boxedNil_early K2.out (Nat.le_refl _) cb0_2 | exact boxedNil_early K2.out K1.out.size cb1_2)
    case rest =>
      obtain ⟨bbg, rfl, rfl, hb, hbb, hcell⟩ := hcut
      rename World => w5
      have L_Rx_bg : Hid (gx < bbg) := Nat.lt_of_lt_of_le (Rx_4.out.lt) hbb
      have B_5 := Lib.hid (below_step B_4.out hb)
      have ca_5 := cell_kept ca_4 hb
      have fa_5 := cell_kept fa_4 hb
      have fb_5 := cell_kept fb_4 hb
      have bw_5 := cell_kept bw_4 hb
      have bx_5 := cell_kept bx_4 hb
      have Rx_5 := Lib.hid (Rx_4.out.later hb)
      have bg_5 := hcell
      clear hb hbb hcell ca_4 fa_4 fb_4 bw_4 bx_4 Rx_4 B_4
      go_wp2_with fail
      refine (eqCard_any none none 0 0 [] [] 0 0 _ Ints.nil Ints.nil (Nat.zero_le _) (Nat.zero_le _) (by simp) (by simp)).mono ?_
      rintro e w6 ⟨rfl, hb⟩
      have B_6 := Lib.hid (below_step B_5.out hb)
      have ca_6 := cell_kept ca_5 hb
      have fa_6 := cell_kept fa_5 hb
      have fb_6 := cell_kept fb_5 hb
      have bw_6 := cell_kept bw_5 hb
      have bx_6 := cell_kept bx_5 hb
      have bg_6 := cell_kept bg_5 hb
      have Rx_6 := Lib.hid (Rx_5.out.later hb)
      clear hb ca_5 fa_5 fb_5 bw_5 bx_5 bg_5 Rx_5 B_5
      go_wp2
      go_region_held3 (fun W => W.cell? ⟨w.heap.size, 0, none⟩ = some (.slice A xs.length c) ∧ W.cell? ⟨w3.heap.size, 0, none⟩ = some (.slice (some ⟨gx, 0, none⟩) xs.length xs.length))
        (first | exact ⟨ca_6, bx_6⟩ | exact ⟨ca_7, bx_7⟩ | exact ⟨ca_8, bx_8⟩)
        (first
          | (go_at_call 7
             refine (toCard_any A c xs w.heap.size _ ?_ ?_ hn).mono ?_
             · exact H.out.below B_6.out.drew
             · exact B_6.out.drew.size
             rintro e w7 ⟨ge, rfl, hg, hb, hrow⟩
             have L_Rx_Re : Hid (gx < ge) := Nat.lt_of_lt_of_le (Rx_6.out.lt) hg
             have B_7 := Lib.hid (below_step B_6.out.drew hb)
             have ca_7 := cell_kept (w := w6.drew) ca_6 hb
             have fa_7 := cell_kept (w := w6.drew) fa_6 hb
             have fb_7 := cell_kept (w := w6.drew) fb_6 hb
             have bw_7 := cell_kept (w := w6.drew) bw_6 hb
             have bx_7 := cell_kept (w := w6.drew) bx_6 hb
             have bg_7 := cell_kept (w := w6.drew) bg_6 hb
             have Rx_7 := Lib.hid (Rx_6.out.drew.later hb)
             have Re_7 := Lib.hid hrow
             clear hb hrow hg)
          | (go_at_call 10
             refine (eqCard_any (some ⟨gx, 0, none⟩) (some ⟨ge, 0, none⟩) _ _ xs xs (gx + 1) (ge + 1) _ ?_ ?_ ?_ ?_ hn hn').mono ?_
             · exact Rx_7.out.ints
             · exact Re_7.out.ints
             · exact Rx_7.out.lt
             · exact Re_7.out.lt
             rintro e w8 ⟨rfl, hb⟩
             have B_8 := Lib.hid (below_step B_7.out hb)
             have ca_8 := cell_kept ca_7 hb
             have fa_8 := cell_kept fa_7 hb
             have fb_8 := cell_kept fb_7 hb
             have bw_8 := cell_kept bw_7 hb
             have bx_8 := cell_kept bx_7 hb
             have bg_8 := cell_kept bg_7 hb
             have Rx_8 := Lib.hid (Rx_7.out.later hb)
             have Re_8 := Lib.hid (Re_7.out.later hb)
             clear hb))
      clear ca_6 fa_6 fb_6 bw_6 bx_6 bg_6 Rx_6 B_6 ca_7 fa_7 fb_7 bw_7 bx_7 bg_7 Rx_7 Re_7 B_7
      clear Re_8
      go_wp2_with fail
      refine (markCard_any gx xs.length xs [] 1 _ Rx_8.out (by omega) (by omega) hn).mono ?_
      rintro e w9 ⟨rfl, hg, hrow⟩
      have B_9 := Lib.hid (below_only B_8.out hg G_Rx.out)
      have ca_9 := cell_only hg ca_8 (Nat.ne_of_lt L_ca_Rx.out)
      have fa_9 := cell_only hg fa_8 (Nat.ne_of_lt L_fa_Rx.out)
      have fb_9 := cell_only hg fb_8 (Nat.ne_of_lt L_fb_Rx.out)
      have bw_9 := cell_only hg bw_8 (Nat.ne_of_lt L_bw_Rx.out)
      have bx_9 := cell_only hg bx_8 (Nat.ne_of_gt L_Rx_bx.out)
      have bg_9 := cell_only hg bg_8 (Nat.ne_of_gt L_Rx_bg.out)
      have Rx_9 := Lib.hid hrow
      clear hg hrow B_8 ca_8 fa_8 fb_8 bw_8 bx_8 bg_8 Rx_8
      clear Rx_9
      go_wp2_with fail
      refine (eqCard_any none none 0 0 [] [] 0 0 _ Ints.nil Ints.nil (Nat.zero_le _) (Nat.zero_le _) (by simp) (by simp)).mono ?_
      rintro e w10 ⟨rfl, hb⟩
      have B_10 := Lib.hid (below_step B_9.out hb)
      have ca_10 := cell_kept ca_9 hb
      have fa_10 := cell_kept fa_9 hb
      have fb_10 := cell_kept fb_9 hb
      have bw_10 := cell_kept bw_9 hb
      have bx_10 := cell_kept bx_9 hb
      have bg_10 := cell_kept bg_9 hb
      clear hb ca_9 fa_9 fb_9 bw_9 bx_9 bg_9 B_9
      go_wp2_with fail
      refine (markCard_nil 0 1 _).mono ?_
      rintro e w11 ⟨rfl, hb⟩
      have B_11 := Lib.hid (below_step B_10.out hb)
      have ca_11 := cell_kept ca_10 hb
      have fa_11 := cell_kept fa_10 hb
      have fb_11 := cell_kept fb_10 hb
      have bw_11 := cell_kept bw_10 hb
      have bx_11 := cell_kept bx_10 hb
      have bg_11 := cell_kept bg_10 hb
      clear hb ca_10 fa_10 fb_10 bw_10 bx_10 bg_10 B_10
      go_wp2_with fail
      refine (heldCard_any none 0 0 0 1 _ Ints.nil (Nat.zero_le _) (by omega) (by omega) (by omega)).mono ?_
      rintro e w12 ⟨rfl, hb⟩
      have B_12 := Lib.hid (below_step B_11.out hb)
      have ca_12 := cell_kept ca_11 hb
      have fa_12 := cell_kept fa_11 hb
      have fb_12 := cell_kept fb_11 hb
      have bw_12 := cell_kept bw_11 hb
      have bx_12 := cell_kept bx_11 hb
      have bg_12 := cell_kept bg_11 hb
      clear hb ca_11 fa_11 fb_11 bw_11 bx_11 bg_11 B_11
      go_upto_region 24 with fail
      go_cut [16, 17] (fun s6 s7 wx => BoxedNil w12 a s6 s7 wx)
      case first =>
        have K0 := Lib.hid (below_drew (Below.refl w12.heap.size w12))
        go_region_held3 (fun W => W.cell? ⟨w.heap.size, 0, none⟩ = some (.slice A xs.length c) ∧ W.cell? ⟨w.heap.size + 1, 0, none⟩ = some (.int .i64 f0) ∧ W.cell? ⟨w.heap.size + 1, 1, none⟩ = some (.int .i64 f1))
          (first | exact ⟨ca_12, fa_12, fb_12⟩ | exact ⟨cell_kept ca_12 K0.out, cell_kept fa_12 K0.out, cell_kept fb_12 K0.out⟩ | exact ⟨cell_kept ca_12 (below_boxed K0.out _), cell_kept fa_12 (below_boxed K0.out _), cell_kept fb_12 (below_boxed K0.out _)⟩ | exact ⟨cell_kept ca_12 K1.out, cell_kept fa_12 K1.out, cell_kept fb_12 K1.out⟩ | exact ⟨cell_kept ca_12 (below_boxed K1.out _), cell_kept fa_12 (below_boxed K1.out _), cell_kept fb_12 (below_boxed K1.out _)⟩ | exact ⟨cell_kept ca_12 K2.out, cell_kept fa_12 K2.out, cell_kept fb_12 K2.out⟩ | exact ⟨cell_kept ca_12 (below_boxed K2.out _), cell_kept fa_12 (below_boxed K2.out _), cell_kept fb_12 (below_boxed K2.out _)⟩ | exact ⟨cell_kept ca_12 K3.out, cell_kept fa_12 K3.out, cell_kept fb_12 K3.out⟩ | exact ⟨cell_kept ca_12 (below_boxed K3.out _), cell_kept fa_12 (below_boxed K3.out _), cell_kept fb_12 (below_boxed K3.out _)⟩ | exact ⟨cell_kept ca_12 (below_stored K3.out (Nat.le_refl _)), cell_kept fa_12 (below_stored K3.out (Nat.le_refl _)), cell_kept fb_12 (below_stored K3.out (Nat.le_refl _))⟩ | exact ⟨cell_kept ca_12 (below_stored K3.out K1.out.size), cell_kept fa_12 (below_stored K3.out K1.out.size), cell_kept fb_12 (below_stored K3.out K1.out.size)⟩ | exact ⟨cell_kept ca_12 (below_stored K3.out K2.out.size), cell_kept fa_12 (below_stored K3.out K2.out.size), cell_kept fb_12 (below_stored K3.out K2.out.size)⟩ | go_keep)
          (first
            | (go_at_call 7
               refine (toCard_any A c xs w.heap.size _ ?_ ?_ hn).mono ?_
               · first | exact H.out.below B_12.out.drew | exact H.out.below (below_boxed B_12.out.drew _)
               · first | exact B_12.out.drew.size | exact (below_boxed B_12.out.drew _).size
               rintro e w12_1 ⟨gb, rfl, hg, hb, hrow⟩
               have K1 : Hid (Below w12.heap.size w12 w12_1) := by first | exact below_step K0.out hb | exact below_step (below_boxed K0.out _) hb
               have Rb_r1 := Lib.hid hrow
               have hg1 := Lib.hid hg
               try (have cb0_1 := cell_kept (w := (w12.alloc (.cells #[.slice none 0 0] 28)).drew) (new_cell w12 (.slice none 0 0) _) hb)
               try (have fr0_1 := frozen_kept (w := (w12.alloc (.cells #[.slice none 0 0] 28)).drew) (new_cell w12 (.slice none 0 0) _) (new_frozen w12 _ _) hb)
               clear hb hrow hg)
            | (go_at_call 8
               refine (toField_any f0 f1 _).mono ?_
               rintro e w12_2 ⟨rfl, hb⟩
               have K2 : Hid (Below w12.heap.size w12 w12_2) := by first | exact below_step K1.out hb | exact below_step (below_boxed K1.out _) hb
               have Rb_r2 := Lib.hid (Row.later (by first | exact Rb_r1.out | exact Rb_r1.out.alloc _) hb)
               try (have cb0_2 := cell_kept cb0_1 hb)
               try (have fr0_2 := frozen_kept cb0_1 fr0_1 hb)
               try (have cb1_2 := cell_kept (new_cell w12_1 (.slice none 0 0) _) hb)
               try (have fr1_2 := frozen_kept (new_cell w12_1 (.slice none 0 0) _) (new_frozen w12_1 _ _) hb)
               clear hb)
            | (go_at_call 9
               refine (HI.out _ (some ⟨gb, 0, none⟩) (gb + 1) ?_ ?_ ?_).mono ?_
               · first | exact (below_step B_12.out K2.out) | exact below_boxed (below_step B_12.out K2.out) _
               · first | exact Rb_r2.out.ints | exact (Rb_r2.out.alloc _).ints
               · first | exact Rb_r2.out.lt | exact (Rb_r2.out.alloc _).lt
               rintro e w12_3 ⟨rfl, hb⟩
               have K3 : Hid (Below w12.heap.size w12 w12_3) := by first | exact below_step K2.out hb | exact below_step (below_boxed K2.out _) hb
               try (have cb0_3 := cell_kept cb0_2 hb)
               try (have fr0_3 := frozen_kept cb0_2 fr0_2 hb)
               try (have cb1_3 := cell_kept cb1_2 hb)
               try (have fr1_3 := frozen_kept cb1_2 fr1_2 hb)
               try (have cb2_3 := cell_kept (new_cell w12_2 (.slice none 0 0) _) hb)
               try (have fr2_3 := frozen_kept (new_cell w12_2 (.slice none 0 0) _) (new_frozen w12_2 _ _) hb)
               clear hb))
        all_goals (go_wp2_with fail; go_meet; first | exact boxedNil_last K3.out | exact boxedNil_early K3.out (Nat.le_refl _) cb0_3 | exact boxedNil_early K3.out K1.out.size cb1_3 | exact boxedNil_early K3.out K2.out.size cb2_3)
      case rest =>
        obtain ⟨bbh, rfl, rfl, hb, hbb, hcell⟩ := hcut
        rename World => w13
        have B_13 := Lib.hid (below_step B_12.out hb)
        have ca_13 := cell_kept ca_12 hb
        have fa_13 := cell_kept fa_12 hb
        have fb_13 := cell_kept fb_12 hb
        have bw_13 := cell_kept bw_12 hb
        have bx_13 := cell_kept bx_12 hb
        have bg_13 := cell_kept bg_12 hb
        have bh_13 := hcell
        clear hb hbb hcell ca_12 fa_12 fb_12 bw_12 bx_12 bg_12 B_12
        go_wp2_with fail
        refine (eqCard_any none none 0 0 [] [] 0 0 _ Ints.nil Ints.nil (Nat.zero_le _) (Nat.zero_le _) (by simp) (by simp)).mono ?_
        rintro e w14 ⟨rfl, hb⟩
        have B_14 := Lib.hid (below_step B_13.out hb)
        have ca_14 := cell_kept ca_13 hb
        have fa_14 := cell_kept fa_13 hb
        have fb_14 := cell_kept fb_13 hb
        have bw_14 := cell_kept bw_13 hb
        have bx_14 := cell_kept bx_13 hb
        have bg_14 := cell_kept bg_13 hb
        have bh_14 := cell_kept bh_13 hb
        clear hb ca_13 fa_13 fb_13 bw_13 bx_13 bg_13 bh_13 B_13
        go_wp2_with fail
        refine (heldCard_any none 0 0 0 1 _ Ints.nil (Nat.zero_le _) (by omega) (by omega) (by omega)).mono ?_
        rintro e w15 ⟨rfl, hb⟩
        have B_15 := Lib.hid (below_step B_14.out hb)
        have ca_15 := cell_kept ca_14 hb
        have fa_15 := cell_kept fa_14 hb
        have fb_15 := cell_kept fb_14 hb
        have bw_15 := cell_kept bw_14 hb
        have bx_15 := cell_kept bx_14 hb
        have bg_15 := cell_kept bg_14 hb
        have bh_15 := cell_kept bh_14 hb
        clear hb ca_14 fa_14 fb_14 bw_14 bx_14 bg_14 bh_14 B_14
        go_wp2
        go_ret
        exact ⟨rfl, B_15.out⟩

set_option maxRecDepth 100000 in
set_option maxHeartbeats 4000000 in
theorem walk_good (A : Option Addr) (c : Nat) (xs : List Int) (f0 : Int) (f1 : Int) (nn : Int) (ys : List Int) (w : World) (h : Ints w w.heap.size A xs) (hn : xs.length ≤ 1048576) (hy : ys.length ≤ 1048576)
    (hs : ∀ (W : World) (A : Option Addr) (B : Nat), Below w.heap.size w W → Ints W B A xs → B ≤ W.heap.size → Calls Tryd.prog 6 #[.agg #[.slice A xs.length xs.length], .agg #[.int .i64 f0, .int .i64 f1], .int .i64 nn] W (GivesCard ys W))
    (hi : ∀ (W : World) (A : Option Addr) (B : Nat), Below w.heap.size w W → Ints W B A xs → B ≤ W.heap.size → Calls Tryd.prog 9 #[.agg #[.slice A xs.length xs.length], .agg #[.int .i64 f0, .int .i64 f1], .int .i64 nn] W (GivesCard ys W)) :
    Calls Tryd.prog 3 #[.agg #[.slice A xs.length c], .agg #[.int .i64 f0, .int .i64 f1], .int .i64 nn] w fun e w' => e = .returned (.bool true) ∧ Below w.heap.size w w' := by
  have hz := fun W => szCard_any A xs.length c 1048576 W (by omega) (by omega) (by omega)
  have e : (if (1048576 : Int) < (xs.length : Int) then (-1 : Int) else 1048576 - xs.length) = 1048576 - xs.length := if_neg (by omega)
  rw [e] at hz
  have HZ := Lib.hid hz
  have H := Lib.hid h
  have HS := Lib.hid hs
  have HI := Lib.hid hi
  have hn' : xs.length ≤ 140737488355328 := by omega
  have hy' : ys.length ≤ 140737488355328 := by omega
  clear hz e h hs hi
  go_enter Tryd.func3, Tryd.ntmps3
  go_wp2_with fail
  refine (HZ.out _).mono ?_
  rintro e w1 ⟨rfl, hb⟩
  have B_1 := Lib.hid (below_step ((below_box w _).alloc (by simp) _) hb)
  have ca_1 := cell_kept (p := ⟨w.heap.size, 0, none⟩) (v := .slice A xs.length c) (by simp [go_sem]) hb
  have fa_1 := cell_kept (p := ⟨w.heap.size + 1, 0, none⟩) (v := .int .i64 f0) (by simp [go_sem]) hb
  have fb_1 := cell_kept (p := ⟨w.heap.size + 1, 1, none⟩) (v := .int .i64 f1) (by simp [go_sem]) hb
  clear hb
  go_upto_region 5 with fail
  go_cut [8, 9] (fun s6 s7 wx => BoxedCard w1 ys s6 s7 wx)
  case first =>
    have K0 := Lib.hid (below_drew (Below.refl w1.heap.size w1))
    go_region_held3 (fun W => W.cell? ⟨w.heap.size, 0, none⟩ = some (.slice A xs.length c) ∧ W.cell? ⟨w.heap.size + 1, 0, none⟩ = some (.int .i64 f0) ∧ W.cell? ⟨w.heap.size + 1, 1, none⟩ = some (.int .i64 f1))
      (first | exact ⟨ca_1, fa_1, fb_1⟩ | exact ⟨cell_kept ca_1 K0.out, cell_kept fa_1 K0.out, cell_kept fb_1 K0.out⟩ | exact ⟨cell_kept ca_1 (below_boxed K0.out _), cell_kept fa_1 (below_boxed K0.out _), cell_kept fb_1 (below_boxed K0.out _)⟩ | exact ⟨cell_kept ca_1 K1.out, cell_kept fa_1 K1.out, cell_kept fb_1 K1.out⟩ | exact ⟨cell_kept ca_1 (below_boxed K1.out _), cell_kept fa_1 (below_boxed K1.out _), cell_kept fb_1 (below_boxed K1.out _)⟩ | exact ⟨cell_kept ca_1 K2.out, cell_kept fa_1 K2.out, cell_kept fb_1 K2.out⟩ | exact ⟨cell_kept ca_1 (below_boxed K2.out _), cell_kept fa_1 (below_boxed K2.out _), cell_kept fb_1 (below_boxed K2.out _)⟩ | exact ⟨cell_kept ca_1 K3.out, cell_kept fa_1 K3.out, cell_kept fb_1 K3.out⟩ | exact ⟨cell_kept ca_1 (below_boxed K3.out _), cell_kept fa_1 (below_boxed K3.out _), cell_kept fb_1 (below_boxed K3.out _)⟩ | exact ⟨cell_kept ca_1 (below_stored K3.out (Nat.le_refl _)), cell_kept fa_1 (below_stored K3.out (Nat.le_refl _)), cell_kept fb_1 (below_stored K3.out (Nat.le_refl _))⟩ | exact ⟨cell_kept ca_1 (below_stored K3.out K1.out.size), cell_kept fa_1 (below_stored K3.out K1.out.size), cell_kept fb_1 (below_stored K3.out K1.out.size)⟩ | exact ⟨cell_kept ca_1 (below_stored K3.out K2.out.size), cell_kept fa_1 (below_stored K3.out K2.out.size), cell_kept fb_1 (below_stored K3.out K2.out.size)⟩ | go_keep)
      (first
        | (go_at_call 7
           refine (toCard_any A c xs w.heap.size _ ?_ ?_ hn).mono ?_
           · first | exact H.out.below B_1.out.drew | exact H.out.below (below_boxed B_1.out.drew _)
           · first | exact B_1.out.drew.size | exact (below_boxed B_1.out.drew _).size
           rintro e w1_1 ⟨ga, rfl, hg, hb, hrow⟩
           have K1 : Hid (Below w1.heap.size w1 w1_1) := by first | exact below_step K0.out hb | exact below_step (below_boxed K0.out _) hb
           have Ra_r1 := Lib.hid hrow
           have hg1 := Lib.hid hg
           try (have cb0_1 := cell_kept (w := (w1.alloc (.cells #[.slice none 0 0] 28)).drew) (new_cell w1 (.slice none 0 0) _) hb)
           try (have fr0_1 := frozen_kept (w := (w1.alloc (.cells #[.slice none 0 0] 28)).drew) (new_cell w1 (.slice none 0 0) _) (new_frozen w1 _ _) hb)
           clear hb hrow hg)
        | (go_at_call 8
           refine (toField_any f0 f1 _).mono ?_
           rintro e w1_2 ⟨rfl, hb⟩
           have K2 : Hid (Below w1.heap.size w1 w1_2) := by first | exact below_step K1.out hb | exact below_step (below_boxed K1.out _) hb
           have Ra_r2 := Lib.hid (Row.later (by first | exact Ra_r1.out | exact Ra_r1.out.alloc _) hb)
           try (have cb0_2 := cell_kept cb0_1 hb)
           try (have fr0_2 := frozen_kept cb0_1 fr0_1 hb)
           try (have cb1_2 := cell_kept (new_cell w1_1 (.slice none 0 0) _) hb)
           try (have fr1_2 := frozen_kept (new_cell w1_1 (.slice none 0 0) _) (new_frozen w1_1 _ _) hb)
           clear hb)
        | (go_at_call 6
           refine (HS.out _ (some ⟨ga, 0, none⟩) (ga + 1) ?_ ?_ ?_).mono ?_
           · first | exact (below_step B_1.out K2.out) | exact below_boxed (below_step B_1.out K2.out) _
           · first | exact Ra_r2.out.ints | exact (Ra_r2.out.alloc _).ints
           · first | exact Ra_r2.out.lt | exact (Ra_r2.out.alloc _).lt
           rintro e w1_3 ⟨gw, cw, xw, rfl, hg, hb, hrow⟩
           have K3 : Hid (Below w1.heap.size w1 w1_3) := by first | exact below_step K2.out hb | exact below_step (below_boxed K2.out _) hb
           have Rw_r3 := Lib.hid hrow
           have hg3 := Lib.hid hg
           try (have cb0_3 := cell_kept cb0_2 hb)
           try (have fr0_3 := frozen_kept cb0_2 fr0_2 hb)
           try (have cb1_3 := cell_kept cb1_2 hb)
           try (have fr1_3 := frozen_kept cb1_2 fr1_2 hb)
           try (have cb2_3 := cell_kept (new_cell w1_2 (.slice none 0 0) _) hb)
           try (have fr2_3 := frozen_kept (new_cell w1_2 (.slice none 0 0) _) (new_frozen w1_2 _ _) hb)
           clear hb hrow hg))
    all_goals (go_wp2_with fail; go_meet; first | exact boxed_last K3.out Rw_r3.out hg3.out K2.out.size | exact boxed_early K3.out Rw_r3.out (Nat.le_refl _) cb0_3 (Nat.lt_of_lt_of_le (World.block_lt_of_cell? _ _ cb0_2) hg3.out) (Nat.le_trans K2.out.size hg3.out) | exact boxed_early K3.out Rw_r3.out (Nat.le_refl _) cb0_3 (Nat.lt_of_lt_of_le (World.block_lt_of_cell? _ _ cb0_2) hg3.out) (Nat.le_trans (below_boxed K2.out _).size hg3.out) | exact boxed_early K3.out Rw_r3.out K1.out.size cb1_3 (Nat.lt_of_lt_of_le (World.block_lt_of_cell? _ _ cb1_2) hg3.out) (Nat.le_trans K2.out.size hg3.out) | exact boxed_early K3.out Rw_r3.out K1.out.size cb1_3 (Nat.lt_of_lt_of_le (World.block_lt_of_cell? _ _ cb1_2) hg3.out) (Nat.le_trans (below_boxed K2.out _).size hg3.out) | exact boxed_early K3.out Rw_r3.out K2.out.size cb2_3 (Nat.lt_of_lt_of_le (World.block_lt_of_cell? _ _ (new_cell w1_2 (.slice none 0 0) 28)) hg3.out) (Nat.le_trans K2.out.size hg3.out) | exact boxed_early K3.out Rw_r3.out K2.out.size cb2_3 (Nat.lt_of_lt_of_le (World.block_lt_of_cell? _ _ (new_cell w1_2 (.slice none 0 0) 28)) hg3.out) (Nat.le_trans (below_boxed K2.out _).size hg3.out))
  case rest =>
    obtain ⟨bbw, gw, cw, xw, rfl, rfl, hb, hbb, hg, hne, hcell, hrow⟩ := hcut
    rename World => w2
    have B_2 := Lib.hid (below_step B_1.out hb)
    have ca_2 := cell_kept ca_1 hb
    have fa_2 := cell_kept fa_1 hb
    have fb_2 := cell_kept fb_1 hb
    have Rw_2 := Lib.hid hrow
    have bw_2 := hcell
    clear hb hbb hcell hg hne hrow ca_1 fa_1 fb_1 B_1
    go_wp2_with fail
    refine (toCard_any A c xs w.heap.size _ (H.out.below B_2.out) B_2.out.size hn).mono ?_
    rintro e w3 ⟨gx, rfl, hg, hb, hrow⟩
    have L_ca_Rx : Hid (w.heap.size < gx) := Nat.lt_of_lt_of_le (World.block_lt_of_cell? _ _ ca_2) hg
    have L_fa_Rx : Hid (w.heap.size + 1 < gx) := Nat.lt_of_lt_of_le (World.block_lt_of_cell? _ _ fa_2) hg
    have L_fb_Rx : Hid (w.heap.size + 1 < gx) := Nat.lt_of_lt_of_le (World.block_lt_of_cell? _ _ fb_2) hg
    have L_Rw_Rx : Hid (gw < gx) := Nat.lt_of_lt_of_le (Rw_2.out.lt) hg
    have L_bw_Rx : Hid (bbw < gx) := Nat.lt_of_lt_of_le (World.block_lt_of_cell? _ _ bw_2) hg
    have G_Rx := Lib.hid (Nat.le_trans B_2.out.size hg)
    have B_3 := Lib.hid (below_step B_2.out hb)
    have ca_3 := cell_kept ca_2 hb
    have fa_3 := cell_kept fa_2 hb
    have fb_3 := cell_kept fb_2 hb
    have bw_3 := cell_kept bw_2 hb
    have Rw_3 := Lib.hid (Rw_2.out.later hb)
    have Rx_3 := Lib.hid hrow
    clear hb hrow hg ca_2 fa_2 fb_2 bw_2 Rw_2 B_2
    have L_Rx_bx : Hid (gx < w3.heap.size) := Nat.lt_of_lt_of_le (Rx_3.out.lt) (Nat.le_refl _)
    have hb := below_box w3 (.cells #[.slice (some ⟨gx, 0, none⟩) xs.length xs.length] 28)
    have B_4 := Lib.hid (below_step B_3.out hb)
    have ca_4 := cell_kept ca_3 hb
    have fa_4 := cell_kept fa_3 hb
    have fb_4 := cell_kept fb_3 hb
    have bw_4 := cell_kept bw_3 hb
    have Rw_4 := Lib.hid (Rw_3.out.later hb)
    have Rx_4 := Lib.hid (Rx_3.out.later hb)
    have bx_4 : (w3.alloc (.cells #[.slice (some ⟨gx, 0, none⟩) xs.length xs.length] 28)).cell? ⟨w3.heap.size, 0, none⟩ = some (.slice (some ⟨gx, 0, none⟩) xs.length xs.length) := by simp
    clear hb ca_3 fa_3 fb_3 bw_3 Rw_3 Rx_3 B_3
    go_upto_region 7 with fail
    generalize (w3.alloc (.cells #[.slice (some ⟨gx, 0, none⟩) xs.length xs.length] 28)) = v4 at *
    go_cut [11, 12] (fun s6 s7 wx => BoxedCard v4 ys s6 s7 wx)
    case first =>
      have K0 := Lib.hid (below_drew (Below.refl v4.heap.size v4))
      go_region_held3 (fun W => W.cell? ⟨w3.heap.size, 0, none⟩ = some (.slice (some ⟨gx, 0, none⟩) xs.length xs.length) ∧ W.cell? ⟨w.heap.size + 1, 0, none⟩ = some (.int .i64 f0) ∧ W.cell? ⟨w.heap.size + 1, 1, none⟩ = some (.int .i64 f1))
        (first | exact ⟨bx_4, fa_4, fb_4⟩ | exact ⟨cell_kept bx_4 K0.out, cell_kept fa_4 K0.out, cell_kept fb_4 K0.out⟩ | exact ⟨cell_kept bx_4 (below_boxed K0.out _), cell_kept fa_4 (below_boxed K0.out _), cell_kept fb_4 (below_boxed K0.out _)⟩ | exact ⟨cell_kept bx_4 K1.out, cell_kept fa_4 K1.out, cell_kept fb_4 K1.out⟩ | exact ⟨cell_kept bx_4 (below_boxed K1.out _), cell_kept fa_4 (below_boxed K1.out _), cell_kept fb_4 (below_boxed K1.out _)⟩ | exact ⟨cell_kept bx_4 K2.out, cell_kept fa_4 K2.out, cell_kept fb_4 K2.out⟩ | exact ⟨cell_kept bx_4 (below_boxed K2.out _), cell_kept fa_4 (below_boxed K2.out _), cell_kept fb_4 (below_boxed K2.out _)⟩ | exact ⟨cell_kept bx_4 (below_stored K2.out (Nat.le_refl _)), cell_kept fa_4 (below_stored K2.out (Nat.le_refl _)), cell_kept fb_4 (below_stored K2.out (Nat.le_refl _))⟩ | exact ⟨cell_kept bx_4 (below_stored K2.out K1.out.size), cell_kept fa_4 (below_stored K2.out K1.out.size), cell_kept fb_4 (below_stored K2.out K1.out.size)⟩ | go_keep)
        (first
          | (go_at_call 8
             refine (toField_any f0 f1 _).mono ?_
             rintro e w4_1 ⟨rfl, hb⟩
             have K1 : Hid (Below v4.heap.size v4 w4_1) := by first | exact below_step K0.out hb | exact below_step (below_boxed K0.out _) hb
             have Rx_r1 := Lib.hid (Row.later (by first | exact Rx_4.out.drew | exact Rx_4.out.drew.alloc _) hb)
             try (have cb0_1 := cell_kept (w := (v4.alloc (.cells #[.slice none 0 0] 28)).drew) (new_cell v4 (.slice none 0 0) _) hb)
             try (have fr0_1 := frozen_kept (w := (v4.alloc (.cells #[.slice none 0 0] 28)).drew) (new_cell v4 (.slice none 0 0) _) (new_frozen v4 _ _) hb)
             clear hb)
          | (go_at_call 9
             refine (HI.out _ (some ⟨gx, 0, none⟩) (gx + 1) ?_ ?_ ?_).mono ?_
             · first | exact (below_step B_4.out K1.out) | exact below_boxed (below_step B_4.out K1.out) _
             · first | exact Rx_r1.out.ints | exact (Rx_r1.out.alloc _).ints
             · first | exact Rx_r1.out.lt | exact (Rx_r1.out.alloc _).lt
             rintro e w4_2 ⟨gg, cg, xg, rfl, hg, hb, hrow⟩
             have K2 : Hid (Below v4.heap.size v4 w4_2) := by first | exact below_step K1.out hb | exact below_step (below_boxed K1.out _) hb
             have Rg_r2 := Lib.hid hrow
             have hg2 := Lib.hid hg
             try (have cb0_2 := cell_kept cb0_1 hb)
             try (have fr0_2 := frozen_kept cb0_1 fr0_1 hb)
             try (have cb1_2 := cell_kept (new_cell w4_1 (.slice none 0 0) _) hb)
             try (have fr1_2 := frozen_kept (new_cell w4_1 (.slice none 0 0) _) (new_frozen w4_1 _ _) hb)
             clear hb hrow hg))
      all_goals (go_wp2_with fail; go_meet; first | exact boxed_last K2.out Rg_r2.out hg2.out K1.out.size | exact boxed_early K2.out Rg_r2.out (Nat.le_refl _) cb0_2 (Nat.lt_of_lt_of_le (World.block_lt_of_cell? _ _ cb0_1) hg2.out) (Nat.le_trans K1.out.size hg2.out) | exact boxed_early K2.out Rg_r2.out (Nat.le_refl _) cb0_2 (Nat.lt_of_lt_of_le (World.block_lt_of_cell? _ _ cb0_1) hg2.out) (Nat.le_trans (below_boxed K1.out _).size hg2.out) | exact boxed_early K2.out Rg_r2.out K1.out.size cb1_2 (Nat.lt_of_lt_of_le (World.block_lt_of_cell? _ _ (new_cell w4_1 (.slice none 0 0) 28)) hg2.out) (Nat.le_trans K1.out.size hg2.out) | exact boxed_early K2.out Rg_r2.out K1.out.size cb1_2 (Nat.lt_of_lt_of_le (World.block_lt_of_cell? _ _ (new_cell w4_1 (.slice none 0 0) 28)) hg2.out) (Nat.le_trans (below_boxed K1.out _).size hg2.out))
    case rest =>
      obtain ⟨bbg, gg, cg, xg, rfl, rfl, hb, hbb, hg, hne, hcell, hrow⟩ := hcut
      rename World => w5
      have L_ca_Rg : Hid (w.heap.size < gg) := Nat.lt_of_lt_of_le (World.block_lt_of_cell? _ _ ca_4) hg
      have L_fa_Rg : Hid (w.heap.size + 1 < gg) := Nat.lt_of_lt_of_le (World.block_lt_of_cell? _ _ fa_4) hg
      have L_fb_Rg : Hid (w.heap.size + 1 < gg) := Nat.lt_of_lt_of_le (World.block_lt_of_cell? _ _ fb_4) hg
      have L_Rw_Rg : Hid (gw < gg) := Nat.lt_of_lt_of_le (Rw_4.out.lt) hg
      have L_bw_Rg : Hid (bbw < gg) := Nat.lt_of_lt_of_le (World.block_lt_of_cell? _ _ bw_4) hg
      have L_Rx_Rg : Hid (gx < gg) := Nat.lt_of_lt_of_le (Rx_4.out.lt) hg
      have L_bx_Rg : Hid (w3.heap.size < gg) := Nat.lt_of_lt_of_le (World.block_lt_of_cell? _ _ bx_4) hg
      have G_Rg := Lib.hid (Nat.le_trans B_4.out.size hg)
      have N_Rg := Lib.hid hne
      have L_Rx_bg : Hid (gx < bbg) := Nat.lt_of_lt_of_le (Rx_4.out.lt) hbb
      have B_5 := Lib.hid (below_step B_4.out hb)
      have ca_5 := cell_kept ca_4 hb
      have fa_5 := cell_kept fa_4 hb
      have fb_5 := cell_kept fb_4 hb
      have bw_5 := cell_kept bw_4 hb
      have bx_5 := cell_kept bx_4 hb
      have Rw_5 := Lib.hid (Rw_4.out.later hb)
      have Rx_5 := Lib.hid (Rx_4.out.later hb)
      have Rg_5 := Lib.hid hrow
      have bg_5 := hcell
      clear hb hbb hcell hg hne hrow ca_4 fa_4 fb_4 bw_4 bx_4 Rw_4 Rx_4 B_4
      go_wp2_with fail
      refine (eqCard_any (some ⟨gg, 0, none⟩) (some ⟨gw, 0, none⟩) cg cw ys ys (gg + 1) (gw + 1) _ Rg_5.out.ints Rw_5.out.ints Rg_5.out.lt Rw_5.out.lt hy hy').mono ?_
      rintro e w6 ⟨rfl, hb⟩
      have B_6 := Lib.hid (below_step B_5.out hb)
      have ca_6 := cell_kept ca_5 hb
      have fa_6 := cell_kept fa_5 hb
      have fb_6 := cell_kept fb_5 hb
      have bw_6 := cell_kept bw_5 hb
      have bx_6 := cell_kept bx_5 hb
      have bg_6 := cell_kept bg_5 hb
      have Rw_6 := Lib.hid (Rw_5.out.later hb)
      have Rx_6 := Lib.hid (Rx_5.out.later hb)
      have Rg_6 := Lib.hid (Rg_5.out.later hb)
      clear hb ca_5 fa_5 fb_5 bw_5 bx_5 bg_5 Rw_5 Rx_5 Rg_5 B_5
      go_wp2
      go_region_held3 (fun W => W.cell? ⟨w.heap.size, 0, none⟩ = some (.slice A xs.length c) ∧ W.cell? ⟨w3.heap.size, 0, none⟩ = some (.slice (some ⟨gx, 0, none⟩) xs.length xs.length))
        (first | exact ⟨ca_6, bx_6⟩ | exact ⟨ca_7, bx_7⟩ | exact ⟨ca_8, bx_8⟩)
        (first
          | (go_at_call 7
             refine (toCard_any A c xs w.heap.size _ ?_ ?_ hn).mono ?_
             · exact H.out.below B_6.out.drew
             · exact B_6.out.drew.size
             rintro e w7 ⟨ge, rfl, hg, hb, hrow⟩
             have L_Rx_Re : Hid (gx < ge) := Nat.lt_of_lt_of_le (Rx_6.out.lt) hg
             have L_Rg_Re : Hid (gg < ge) := Nat.lt_of_lt_of_le (Rg_6.out.lt) hg
             have B_7 := Lib.hid (below_step B_6.out.drew hb)
             have ca_7 := cell_kept (w := w6.drew) ca_6 hb
             have fa_7 := cell_kept (w := w6.drew) fa_6 hb
             have fb_7 := cell_kept (w := w6.drew) fb_6 hb
             have bw_7 := cell_kept (w := w6.drew) bw_6 hb
             have bx_7 := cell_kept (w := w6.drew) bx_6 hb
             have bg_7 := cell_kept (w := w6.drew) bg_6 hb
             have Rw_7 := Lib.hid (Rw_6.out.drew.later hb)
             have Rx_7 := Lib.hid (Rx_6.out.drew.later hb)
             have Rg_7 := Lib.hid (Rg_6.out.drew.later hb)
             have Re_7 := Lib.hid hrow
             clear hb hrow hg)
          | (go_at_call 10
             refine (eqCard_any (some ⟨gx, 0, none⟩) (some ⟨ge, 0, none⟩) _ _ xs xs (gx + 1) (ge + 1) _ ?_ ?_ ?_ ?_ hn hn').mono ?_
             · exact Rx_7.out.ints
             · exact Re_7.out.ints
             · exact Rx_7.out.lt
             · exact Re_7.out.lt
             rintro e w8 ⟨rfl, hb⟩
             have B_8 := Lib.hid (below_step B_7.out hb)
             have ca_8 := cell_kept ca_7 hb
             have fa_8 := cell_kept fa_7 hb
             have fb_8 := cell_kept fb_7 hb
             have bw_8 := cell_kept bw_7 hb
             have bx_8 := cell_kept bx_7 hb
             have bg_8 := cell_kept bg_7 hb
             have Rw_8 := Lib.hid (Rw_7.out.later hb)
             have Rx_8 := Lib.hid (Rx_7.out.later hb)
             have Rg_8 := Lib.hid (Rg_7.out.later hb)
             have Re_8 := Lib.hid (Re_7.out.later hb)
             clear hb))
      clear ca_6 fa_6 fb_6 bw_6 bx_6 bg_6 Rw_6 Rx_6 Rg_6 B_6 ca_7 fa_7 fb_7 bw_7 bx_7 bg_7 Rw_7 Rx_7 Rg_7 Re_7 B_7
      clear Re_8
      go_wp2_with fail
      refine (markCard_any gx xs.length xs [] 1 _ Rx_8.out (by omega) (by omega) hn).mono ?_
      rintro e w9 ⟨rfl, hg, hrow⟩
      have B_9 := Lib.hid (below_only B_8.out hg G_Rx.out)
      have ca_9 := cell_only hg ca_8 (Nat.ne_of_lt L_ca_Rx.out)
      have fa_9 := cell_only hg fa_8 (Nat.ne_of_lt L_fa_Rx.out)
      have fb_9 := cell_only hg fb_8 (Nat.ne_of_lt L_fb_Rx.out)
      have bw_9 := cell_only hg bw_8 (Nat.ne_of_lt L_bw_Rx.out)
      have bx_9 := cell_only hg bx_8 (Nat.ne_of_gt L_Rx_bx.out)
      have bg_9 := cell_only hg bg_8 (Nat.ne_of_gt L_Rx_bg.out)
      have Rw_9 := Lib.hid (Row.only hg Rw_8.out (Nat.ne_of_lt L_Rw_Rx.out))
      have Rx_9 := Lib.hid hrow
      have Rg_9 := Lib.hid (Row.only hg Rg_8.out (Nat.ne_of_gt L_Rx_Rg.out))
      clear hg hrow B_8 ca_8 fa_8 fb_8 bw_8 bx_8 bg_8 Rw_8 Rx_8 Rg_8
      clear Rx_9
      go_wp2_with fail
      refine (eqCard_any (some ⟨gg, 0, none⟩) (some ⟨gw, 0, none⟩) cg cw ys ys (gg + 1) (gw + 1) _ Rg_9.out.ints Rw_9.out.ints Rg_9.out.lt Rw_9.out.lt hy hy').mono ?_
      rintro e w10 ⟨rfl, hb⟩
      have B_10 := Lib.hid (below_step B_9.out hb)
      have ca_10 := cell_kept ca_9 hb
      have fa_10 := cell_kept fa_9 hb
      have fb_10 := cell_kept fb_9 hb
      have bw_10 := cell_kept bw_9 hb
      have bx_10 := cell_kept bx_9 hb
      have bg_10 := cell_kept bg_9 hb
      have Rw_10 := Lib.hid (Rw_9.out.later hb)
      have Rg_10 := Lib.hid (Rg_9.out.later hb)
      clear hb ca_9 fa_9 fb_9 bw_9 bx_9 bg_9 Rw_9 Rg_9 B_9
      go_wp2_with fail
      refine (markCard_any gg cg ys xg 1 _ Rg_10.out (by omega) (by omega) hy).mono ?_
      rintro e w11 ⟨rfl, hg, hrow⟩
      have B_11 := Lib.hid (below_only B_10.out hg G_Rg.out)
      have ca_11 := cell_only hg ca_10 (Nat.ne_of_lt L_ca_Rg.out)
      have fa_11 := cell_only hg fa_10 (Nat.ne_of_lt L_fa_Rg.out)
      have fb_11 := cell_only hg fb_10 (Nat.ne_of_lt L_fb_Rg.out)
      have bw_11 := cell_only hg bw_10 (Nat.ne_of_lt L_bw_Rg.out)
      have bx_11 := cell_only hg bx_10 (Nat.ne_of_lt L_bx_Rg.out)
      have bg_11 := cell_only hg bg_10 N_Rg.out
      have Rw_11 := Lib.hid (Row.only hg Rw_10.out (Nat.ne_of_lt L_Rw_Rg.out))
      have Rg_11 := Lib.hid hrow
      clear hg hrow B_10 ca_10 fa_10 fb_10 bw_10 bx_10 bg_10 Rw_10 Rg_10
      go_wp2_with fail
      refine (heldCard_any (some ⟨gg, 0, none⟩) cg ys.length (gg + 1) 1 _ Rg_11.out.ints Rg_11.out.lt (by omega) (by omega) hy).mono ?_
      rintro e w12 ⟨rfl, hb⟩
      have B_12 := Lib.hid (below_step B_11.out hb)
      have ca_12 := cell_kept ca_11 hb
      have fa_12 := cell_kept fa_11 hb
      have fb_12 := cell_kept fb_11 hb
      have bw_12 := cell_kept bw_11 hb
      have bx_12 := cell_kept bx_11 hb
      have bg_12 := cell_kept bg_11 hb
      have Rw_12 := Lib.hid (Rw_11.out.later hb)
      have Rg_12 := Lib.hid (Rg_11.out.later hb)
      clear hb ca_11 fa_11 fb_11 bw_11 bx_11 bg_11 Rw_11 Rg_11 B_11
      go_upto_region 24 with fail
      go_cut [16, 17] (fun s6 s7 wx => BoxedCard w12 ys s6 s7 wx)
      case first =>
        have K0 := Lib.hid (below_drew (Below.refl w12.heap.size w12))
        go_region_held3 (fun W => W.cell? ⟨w.heap.size, 0, none⟩ = some (.slice A xs.length c) ∧ W.cell? ⟨w.heap.size + 1, 0, none⟩ = some (.int .i64 f0) ∧ W.cell? ⟨w.heap.size + 1, 1, none⟩ = some (.int .i64 f1))
          (first | exact ⟨ca_12, fa_12, fb_12⟩ | exact ⟨cell_kept ca_12 K0.out, cell_kept fa_12 K0.out, cell_kept fb_12 K0.out⟩ | exact ⟨cell_kept ca_12 (below_boxed K0.out _), cell_kept fa_12 (below_boxed K0.out _), cell_kept fb_12 (below_boxed K0.out _)⟩ | exact ⟨cell_kept ca_12 K1.out, cell_kept fa_12 K1.out, cell_kept fb_12 K1.out⟩ | exact ⟨cell_kept ca_12 (below_boxed K1.out _), cell_kept fa_12 (below_boxed K1.out _), cell_kept fb_12 (below_boxed K1.out _)⟩ | exact ⟨cell_kept ca_12 K2.out, cell_kept fa_12 K2.out, cell_kept fb_12 K2.out⟩ | exact ⟨cell_kept ca_12 (below_boxed K2.out _), cell_kept fa_12 (below_boxed K2.out _), cell_kept fb_12 (below_boxed K2.out _)⟩ | exact ⟨cell_kept ca_12 K3.out, cell_kept fa_12 K3.out, cell_kept fb_12 K3.out⟩ | exact ⟨cell_kept ca_12 (below_boxed K3.out _), cell_kept fa_12 (below_boxed K3.out _), cell_kept fb_12 (below_boxed K3.out _)⟩ | exact ⟨cell_kept ca_12 (below_stored K3.out (Nat.le_refl _)), cell_kept fa_12 (below_stored K3.out (Nat.le_refl _)), cell_kept fb_12 (below_stored K3.out (Nat.le_refl _))⟩ | exact ⟨cell_kept ca_12 (below_stored K3.out K1.out.size), cell_kept fa_12 (below_stored K3.out K1.out.size), cell_kept fb_12 (below_stored K3.out K1.out.size)⟩ | exact ⟨cell_kept ca_12 (below_stored K3.out K2.out.size), cell_kept fa_12 (below_stored K3.out K2.out.size), cell_kept fb_12 (below_stored K3.out K2.out.size)⟩ | go_keep)
          (first
            | (go_at_call 7
               refine (toCard_any A c xs w.heap.size _ ?_ ?_ hn).mono ?_
               · first | exact H.out.below B_12.out.drew | exact H.out.below (below_boxed B_12.out.drew _)
               · first | exact B_12.out.drew.size | exact (below_boxed B_12.out.drew _).size
               rintro e w12_1 ⟨gb, rfl, hg, hb, hrow⟩
               have K1 : Hid (Below w12.heap.size w12 w12_1) := by first | exact below_step K0.out hb | exact below_step (below_boxed K0.out _) hb
               have Rb_r1 := Lib.hid hrow
               have hg1 := Lib.hid hg
               try (have cb0_1 := cell_kept (w := (w12.alloc (.cells #[.slice none 0 0] 28)).drew) (new_cell w12 (.slice none 0 0) _) hb)
               try (have fr0_1 := frozen_kept (w := (w12.alloc (.cells #[.slice none 0 0] 28)).drew) (new_cell w12 (.slice none 0 0) _) (new_frozen w12 _ _) hb)
               clear hb hrow hg)
            | (go_at_call 8
               refine (toField_any f0 f1 _).mono ?_
               rintro e w12_2 ⟨rfl, hb⟩
               have K2 : Hid (Below w12.heap.size w12 w12_2) := by first | exact below_step K1.out hb | exact below_step (below_boxed K1.out _) hb
               have Rb_r2 := Lib.hid (Row.later (by first | exact Rb_r1.out | exact Rb_r1.out.alloc _) hb)
               try (have cb0_2 := cell_kept cb0_1 hb)
               try (have fr0_2 := frozen_kept cb0_1 fr0_1 hb)
               try (have cb1_2 := cell_kept (new_cell w12_1 (.slice none 0 0) _) hb)
               try (have fr1_2 := frozen_kept (new_cell w12_1 (.slice none 0 0) _) (new_frozen w12_1 _ _) hb)
               clear hb)
            | (go_at_call 9
               refine (HI.out _ (some ⟨gb, 0, none⟩) (gb + 1) ?_ ?_ ?_).mono ?_
               · first | exact (below_step B_12.out K2.out) | exact below_boxed (below_step B_12.out K2.out) _
               · first | exact Rb_r2.out.ints | exact (Rb_r2.out.alloc _).ints
               · first | exact Rb_r2.out.lt | exact (Rb_r2.out.alloc _).lt
               rintro e w12_3 ⟨gh, ch, xh, rfl, hg, hb, hrow⟩
               have K3 : Hid (Below w12.heap.size w12 w12_3) := by first | exact below_step K2.out hb | exact below_step (below_boxed K2.out _) hb
               have Rh_r3 := Lib.hid hrow
               have hg3 := Lib.hid hg
               try (have cb0_3 := cell_kept cb0_2 hb)
               try (have fr0_3 := frozen_kept cb0_2 fr0_2 hb)
               try (have cb1_3 := cell_kept cb1_2 hb)
               try (have fr1_3 := frozen_kept cb1_2 fr1_2 hb)
               try (have cb2_3 := cell_kept (new_cell w12_2 (.slice none 0 0) _) hb)
               try (have fr2_3 := frozen_kept (new_cell w12_2 (.slice none 0 0) _) (new_frozen w12_2 _ _) hb)
               clear hb hrow hg))
        all_goals (go_wp2_with fail; go_meet; first | exact boxed_last K3.out Rh_r3.out hg3.out K2.out.size | exact boxed_early K3.out Rh_r3.out (Nat.le_refl _) cb0_3 (Nat.lt_of_lt_of_le (World.block_lt_of_cell? _ _ cb0_2) hg3.out) (Nat.le_trans K2.out.size hg3.out) | exact boxed_early K3.out Rh_r3.out (Nat.le_refl _) cb0_3 (Nat.lt_of_lt_of_le (World.block_lt_of_cell? _ _ cb0_2) hg3.out) (Nat.le_trans (below_boxed K2.out _).size hg3.out) | exact boxed_early K3.out Rh_r3.out K1.out.size cb1_3 (Nat.lt_of_lt_of_le (World.block_lt_of_cell? _ _ cb1_2) hg3.out) (Nat.le_trans K2.out.size hg3.out) | exact boxed_early K3.out Rh_r3.out K1.out.size cb1_3 (Nat.lt_of_lt_of_le (World.block_lt_of_cell? _ _ cb1_2) hg3.out) (Nat.le_trans (below_boxed K2.out _).size hg3.out) | exact boxed_early K3.out Rh_r3.out K2.out.size cb2_3 (Nat.lt_of_lt_of_le (World.block_lt_of_cell? _ _ (new_cell w12_2 (.slice none 0 0) 28)) hg3.out) (Nat.le_trans K2.out.size hg3.out) | exact boxed_early K3.out Rh_r3.out K2.out.size cb2_3 (Nat.lt_of_lt_of_le (World.block_lt_of_cell? _ _ (new_cell w12_2 (.slice none 0 0) 28)) hg3.out) (Nat.le_trans (below_boxed K2.out _).size hg3.out))
      case rest =>
        obtain ⟨bbh, gh, ch, xh, rfl, rfl, hb, hbb, hg, hne, hcell, hrow⟩ := hcut
        rename World => w13
        have L_Rg_Rh : Hid (gg < gh) := Nat.lt_of_lt_of_le (Rg_12.out.lt) hg
        have L_Rg_bh : Hid (gg < bbh) := Nat.lt_of_lt_of_le (Rg_12.out.lt) hbb
        have B_13 := Lib.hid (below_step B_12.out hb)
        have ca_13 := cell_kept ca_12 hb
        have fa_13 := cell_kept fa_12 hb
        have fb_13 := cell_kept fb_12 hb
        have bw_13 := cell_kept bw_12 hb
        have bx_13 := cell_kept bx_12 hb
        have bg_13 := cell_kept bg_12 hb
        have Rw_13 := Lib.hid (Rw_12.out.later hb)
        have Rg_13 := Lib.hid (Rg_12.out.later hb)
        have Rh_13 := Lib.hid hrow
        have bh_13 := hcell
        clear hb hbb hcell hg hne hrow ca_12 fa_12 fb_12 bw_12 bx_12 bg_12 Rw_12 Rg_12 B_12
        go_wp2_with fail
        refine (eqCard_any (some ⟨gh, 0, none⟩) (some ⟨gw, 0, none⟩) ch cw ys ys (gh + 1) (gw + 1) _ Rh_13.out.ints Rw_13.out.ints Rh_13.out.lt Rw_13.out.lt hy hy').mono ?_
        rintro e w14 ⟨rfl, hb⟩
        have B_14 := Lib.hid (below_step B_13.out hb)
        have ca_14 := cell_kept ca_13 hb
        have fa_14 := cell_kept fa_13 hb
        have fb_14 := cell_kept fb_13 hb
        have bw_14 := cell_kept bw_13 hb
        have bx_14 := cell_kept bx_13 hb
        have bg_14 := cell_kept bg_13 hb
        have bh_14 := cell_kept bh_13 hb
        have Rw_14 := Lib.hid (Rw_13.out.later hb)
        have Rg_14 := Lib.hid (Rg_13.out.later hb)
        have Rh_14 := Lib.hid (Rh_13.out.later hb)
        clear hb ca_13 fa_13 fb_13 bw_13 bx_13 bg_13 bh_13 Rw_13 Rg_13 Rh_13 B_13
        go_wp2_with fail
        refine (heldCard_any (some ⟨gg, 0, none⟩) cg ys.length (gg + 1) 1 _ Rg_14.out.ints Rg_14.out.lt (by omega) (by omega) hy).mono ?_
        rintro e w15 ⟨rfl, hb⟩
        have B_15 := Lib.hid (below_step B_14.out hb)
        have ca_15 := cell_kept ca_14 hb
        have fa_15 := cell_kept fa_14 hb
        have fb_15 := cell_kept fb_14 hb
        have bw_15 := cell_kept bw_14 hb
        have bx_15 := cell_kept bx_14 hb
        have bg_15 := cell_kept bg_14 hb
        have bh_15 := cell_kept bh_14 hb
        have Rw_15 := Lib.hid (Rw_14.out.later hb)
        have Rg_15 := Lib.hid (Rg_14.out.later hb)
        have Rh_15 := Lib.hid (Rh_14.out.later hb)
        clear hb ca_14 fa_14 fb_14 bw_14 bx_14 bg_14 bh_14 Rw_14 Rg_14 Rh_14 B_14
        go_wp2
        go_ret
        exact ⟨rfl, B_15.out⟩

theorem gL : Tryd.prog.globalNamed "loop.example/g01012/impl.errLong" = some 0 := by kernel_rfl
theorem gLT : (Tryd.prog.globals[0]?).map (·.type) = some 53 := by kernel_rfl
theorem gF : Tryd.prog.globalNamed "loop.example/g01012/impl.errForeign" = some 1 := by kernel_rfl
theorem gFT : (Tryd.prog.globals[1]?).map (·.type) = some 53 := by kernel_rfl
theorem star : "*" ++ "errors.errorString" = "*errors.errorString" := by decide
theorem rowE (u : TypeId) (h : Tryd.prog.typeName? 3 u = some "*errors.errorString") : u = 135 :=
  typeName_ptr_named (nm := "errors.errorString") (by rw [star]; kernel_rfl) (by kernel_rfl) (by decide) u (by rw [star]; exact h)
theorem cellsE : Tryd.prog.cellsOf 157 = 1 := by kernel_rfl
theorem cellsS : Tryd.prog.cellsOf 9 = 1 := by kernel_rfl

theorem tail2_of {W : World} (h : laidMetH Tryd.prog Rows.fnExactPunchNumberRow.laid W) : laidMet Tryd.prog (("internal/strconv.uint64pow10", Lib.tabData .u64 Lib.pow10Tab) :: ("loop.example/g01012/impl.errLong", Rows.laid_loop_example_g01012_impl_errLong) :: ("loop.example/g01012/impl.errForeign", Rows.laid_loop_example_g01012_impl_errForeign) :: []) W :=
  laidMet.tail (laidMet.tail (show laidMet Tryd.prog (("math/bits.deBruijn32tab", Rows.laid_math_bits_deBruijn32tab) :: ("math/bits.deBruijn64tab", Rows.laid_math_bits_deBruijn64tab) :: ("internal/strconv.uint64pow10", Lib.tabData .u64 Lib.pow10Tab) :: ("loop.example/g01012/impl.errLong", Rows.laid_loop_example_g01012_impl_errLong) :: ("loop.example/g01012/impl.errForeign", Rows.laid_loop_example_g01012_impl_errForeign) :: []) W from h))
theorem gPow : Tryd.prog.globalNamed "internal/strconv.uint64pow10" = some 3 := by kernel_rfl
theorem gPowType : (Tryd.prog.globals[3]?).map (·.type) = some 125 := by kernel_rfl
theorem pow10_of {W : World} (h : laidMetH Tryd.prog Rows.fnExactPunchNumberRow.laid W) : Pow10 W :=
  Lib.tabIs_of_head (k := .u64) (zs := Lib.pow10Tab) gPow gPowType Tryd.underlying125 Tryd.underlying68 (by kernel_rfl) (by kernel_rfl) (tail2_of h)

/-- What the row's list gives: two sentinels. -/
theorem sents_of {W : World} (h : laidMetH Tryd.prog Rows.fnExactPunchNumberRow.laid W) : ∃ aL aF, Sents2 W aL aF := by
  obtain ⟨a0, a1, _, _, c0, c1, t0, t1, h0, h1, _, _, _, _, _, _, n01, b0, b1⟩ := laid_sentinels2 (laidMet.tail (tail2_of h)) gL gLT gF gFT Tryd.underlying53 rowE Tryd.underlying135 Tryd.underlying157 rfl rfl Tryd.underlying9 cellsE cellsS
  exact ⟨a0, a1, ⟨by simpa using World.var?_cell gL h0 0, c0, t0, b0⟩, ⟨by simpa using World.var?_cell gF h1 0, c1, t1, b1⟩, n01⟩

theorem walk (A : Option Addr) (c : Nat) (xs : List Int) {w : World} (h : Ints w w.heap.size A xs) (hl : xs.length ≤ 9223372036854775807) (_ : ∀ n ∈ xs, (Lit.int .i64 n).wf = true) (f0 f1 : Int) (_ : (Lit.int .i64 f0).wf = true) (_ : (Lit.int .i64 f1).wf = true) (nn : Int) (_ : (Lit.int .i64 nn).wf = true) (w1 : World) (e1 : w = w1) (hL : laidMetH Tryd.prog Rows.fnExactPunchNumberRow.laid w1) :
    Calls Tryd.prog 3 #[.agg #[.slice A xs.length c], .agg #[.int .i64 f0, .int .i64 f1], .int .i64 nn] w1 fun e w' => e = .returned (.bool true) ∧ Below w1.heap.size w1 w' := by
  subst e1
  obtain ⟨aL, aF, hS⟩ := sents_of hL
  have hP := pow10_of hL
  by_cases hn : xs.length ≤ 1048576
  · by_cases e : partCode xs f0 f1 = 0
    · obtain ⟨_, hok, hf⟩ : partCode xs f0 f1 = 0 ∧ okB xs = true ∧ fieldB f0 f1 xs.length = true := by
        rcases partCode_cases xs f0 f1 with h' | h' | h' <;> first | exact h' | (rw [e] at h'; exact absurd h'.1 (by decide))
      have hf' : 0 ≤ f0 ∧ f0 < f1 ∧ f1 ≤ xs.length := by simpa [fieldB] using hf
      have hx20 := (okB_parts hok).2
      obtain ⟨i, rfl⟩ : ∃ i : Nat, f0 = i := ⟨f0.toNat, by omega⟩
      obtain ⟨j, rfl⟩ : ∃ j : Nat, f1 = j := ⟨f1.toNat, by omega⟩
      have hij : i < j := by omega
      have hj : j ≤ xs.length := by omega
      cases hr : inB nn (-999999999999) 999999999999
      · refine walk_bad A c xs i j nn 2 w h hn (fun W A B _ hI hB => specPutN_range A xs.length xs B i j nn W hI hB hn e hr) (fun W A B _ hI hB => ?_)
        obtain ⟨b, off, rfl, _⟩ := hI (by omega)
        exact implPutN_range b off xs.length xs B i j nn W hI hB (Nat.le_refl _) ⟨hn, by omega⟩ hij hj e hr
      · by_cases hlt : nn.natAbs < 10 ^ (j - i)
        · refine walk_good A c xs i j nn (putAt xs i (numW nn (j - i))) w h hn (by rw [putAt_length xs i _ (by rw [numW_length]; omega)]; exact hn) (fun W A B _ hI hB => specPutN_good A xs.length xs B i j nn W hI hB hn e hij hj (by omega) hr hlt) (fun W A B hW hI hB => ?_)
          obtain ⟨b, off, rfl, _⟩ := hI (by omega)
          refine (implPutN_some b off xs.length xs B i j nn W hI hB (Nat.le_refl _) ⟨hn, by omega⟩ hij hj e hr (hS.below hW) (hP.below hW)).mono fun e' w' hh => ?_
          rcases hh with ⟨h', _⟩ | ⟨_, h'⟩
          · omega
          · exact h'
        · refine walk_bad A c xs i j nn 5 w h hn (fun W A B _ hI hB => specPutN_full A xs.length xs B i j nn W hI hB hn e hij (by omega) hr (by omega)) (fun W A B hW hI hB => ?_)
          obtain ⟨b, off, rfl, _⟩ := hI (by omega)
          refine (implPutN_some b off xs.length xs B i j nn W hI hB (Nat.le_refl _) ⟨hn, by omega⟩ hij hj e hr (hS.below hW) (hP.below hW)).mono fun e' w' hh => ?_
          rcases hh with ⟨_, h'⟩ | ⟨h', _⟩
          · exact h'
          · omega
    · exact walk_bad A c xs f0 f1 nn _ w h hn (fun W A B _ hI hB => specPutN_bad A xs.length xs B f0 f1 nn W hI hB hn e) (fun W A B _ hI hB => implPutN_bad A xs.length xs B f0 f1 nn W hI hB hn e)
  · exact walk_big A c xs.length f0 f1 nn w hl (by omega)

/-- The door's own heap meets the condition: three closed facts. -/
theorem door_met (os : Os) (args : Array Value) : laidMetH Tryd.prog Rows.fnExactPunchNumberRow.laid ((World.doorLaid Tryd.prog 4000 os).forCall (fun _ _ => 0) ⟨#[], args, []⟩).memory :=
  laidMetH_of_parts3 (fuel := 8) (laidMet_of_run' 8 (by kernel_rfl) (by kernel_rfl)) (by kernel_rfl) (by kernel_rfl)

set_option maxRecDepth 100000 in
theorem lifted (os : Os) (started : os.Started) (H : Type) (enc : TypeId × Value → H) :
    ReturnsInHanded {} Tryd.checked os 3 .any (fun w args => (Rows.fnExactPunchNumberSpec.pre enc Tryd.prog Tryd.f3 [] false w args ∧ laidMetH Tryd.prog Rows.fnExactPunchNumberRow.laid w) ∧ sizedMet enc Tryd.prog Tryd.f3 (OpenSpec.ofChange Rows.fnExactPunchNumberSpec) false w args)
      (Rows.fnExactPunchNumberSpec.post enc Tryd.prog Tryd.f3 false true false false) := by
  refine returnsInHanded_of_change_and (C := Tryd.checked) (X := fun w _ => laidMetH Tryd.prog Rows.fnExactPunchNumberRow.laid w) (fun _ _ _ hh h => h.of_heap hh) own started (by kernel_rfl) Tryd.func3
    (ChangeSpec.witness_shaped (enc := enc) (C := Tryd.checked) (os := os) (X := fun w _ => laidMetH Tryd.prog Rows.fnExactPunchNumberRow.laid w) false (World.doorLaid Tryd.prog 4000 os) #[.agg #[.slice none 0 0], .agg #[.int .i64 0, .int .i64 0], .int .i64 0] 8 rfl (World.shaped_of_RefB (by kernel_rfl) (by kernel_rfl)) (by kernel_rfl) (by kernel_rfl) (by kernel_rfl) (door_met os _)) ?_
  intro W base args ds gs before hval0 hW _ _ hL _
  have hval : ∀ (j : Nat) t v, Tryd.f3.params[j]? = some t → args[j]? = some v → Value.okWide Tryd.prog W .any base t v := hval0
  have hW' := hW
  obtain ⟨p, q, hA0, hV, rfl, _, _⟩ := hW
  have hA : DataW.TrodAll enc Tryd.prog W 0 (fun _ => true) true Tryd.f3.params.toList args.toList ds p := hA0
  rw [Tryd.params3] at hA hval
  obtain ⟨v0, vs0, d0, ds0, p0, q0, hargs, rfl, rfl, h0, r0⟩ := trodAll_cons hA
  obtain ⟨v1, vs1, d1, ds1, p1, q1, rfl, rfl, rfl, h1, r1⟩ := trodAll_cons r0
  obtain ⟨v2, vs2, d2, ds2, p2, q2, rfl, rfl, rfl, h2, r2⟩ := trodAll_cons r1
  obtain ⟨rfl, rfl, rfl⟩ := trodAll_nil r2
  obtain rfl : args = #[v0, v1, v2] := by cases args; simp_all
  obtain ⟨g1, g2, rfl⟩ : ∃ g1 g2, gs = [g1, g2] := by
    clear hL hW' hA hval
    match gs, hV with
    | [], h => exact h.elim
    | [_], ⟨_, _, _, _, _, _, _, _, _, _, h, _⟩ => exact h.elim
    | [g1, g2], _ => exact ⟨g1, g2, rfl⟩
    | _ :: _ :: _ :: _, ⟨_, _, _, _, _, _, _, _, _, _, ⟨_, _, _, _, _, _, _, _, _, _, h, _⟩, _⟩ => exact h.elim
  obtain ⟨A0, c0, xs0, rfl, i0, l0, w0⟩ := open_card (hval 0 24 v0 rfl rfl) h0
  obtain ⟨a1, b1, rfl, w1, u1⟩ := open_field (hval 1 26 v1 rfl rfl) h1
  obtain ⟨a2, rfl, rfl, rfl, w2⟩ := open_int Tryd.underlying2 (hval 2 2 v2 rfl rfl) h2
  refine (walk A0 c0 xs0 i0 l0 w0 a1 b1 w1 u1 a2 w2 W rfl hL).mono fun e W' ⟨he, hb⟩ => ?_
  subst he
  have hread : ∀ t ∈ Tryd.f3.params.toList, Tryd.prog.readableRec t = true ∧ t < Tryd.prog.types.size := by
    intro t ht
    rw [Tryd.params3] at ht
    have ht' : t = 24 ∨ t = 26 ∨ t = 2 := by simpa using ht
    rcases ht' with rfl | rfl | rfl <;> exact ⟨by kernel_rfl, of_decide_eq_true (by kernel_rfl)⟩
  have hlt := fun x hx => hW'.lt x (List.mem_append_left q hx)
  refine ⟨_, rfl, _, [g1, g2], _, [], _, q, hW', ?_, args_stay hread hA0 (fun x hx => hb.same (hlt x hx)) (fun x hx => by simpa using hlt x hx), ?_, ?_, fun h => by cases h⟩
  · exact trodAll_mk1 (shut_bool Tryd.underlying4 true)
  · exact Below.trodVars laidOut hb (by kernel_rfl) hV
  · exact World.keptBut_mono (fun x hx => ⟨hx, by rcases List.mem_append.1 hx with h' | h' <;> first | exact Or.inr (Or.inl h') | exact Or.inr (Or.inr h') | exact Or.inr (Or.inr (by simpa using h'))⟩) (hb.frame (· ∈ _))

theorem said : Rows.FnExactPunchNumberSaid :=
  OpenClaim.holds_of_wide 3 Tryd.f3 rfl rfl rfl rfl rfl rfl rfl ⟨rfl, rfl, rfl, rfl, rfl⟩ rfl rfl rfl rfl rfl (by kernel_rfl) Tryd.func3 (by kernel_rfl)
    (of_decide_eq_true (by kernel_rfl)) (by unfold Func.isWrapper; first | (rw [if_pos (by decide +kernel)]; kernel_rfl) | (rw [if_neg (by decide +kernel)]; exact ⟨rfl, rfl⟩))
    (fun os started H enc _ => lifted os started H enc)

/-- No parameter wants a stand-in; the program's own looks are as the card says. -/
theorem plain (f : FuncId) (fn : Func) (hf : Tryd.pinned.checked.prog.funcNamed "loop.example/g01012/laws.FnExactPunchNumber" = some f) (hfn : Tryd.pinned.checked.prog.funcs[f]? = some fn) :
    Rows.fnExactPunchNumberCard.stood.looks = Tryd.pinned.checked.prog.looks [] ∧ ∀ (j : Nat) t, fn.params[j]? = some t → Tryd.pinned.checked.prog.wantsStandIn t = false := by
  obtain rfl : f = 3 := Option.some.inj ((show Tryd.prog.funcNamed "loop.example/g01012/laws.FnExactPunchNumber" = some 3 by kernel_rfl).symm.trans hf) |>.symm
  obtain rfl : fn = Tryd.f3 := (Option.some.inj (Tryd.func3.symm.trans hfn)).symm
  refine ⟨by kernel_rfl, fun j t ht => ?_⟩
  rw [Tryd.params3] at ht
  have hm : t ∈ [24, 26, 2] := by simpa using Array.mem_of_getElem? ht
  have hall : ([24, 26, 2].all fun u => !Tryd.prog.wantsStandIn u) = true := by kernel_rfl
  exact (show Tryd.prog.wantsStandIn t = false by simpa using List.all_eq_true.1 hall t hm)

theorem proved : Rows.FnExactPunchNumberCardSaid :=
  Claim7.holds_tied_plain_at .later [] _ _ _ _ said (fun _ h => by cases h) (by kernel_rfl) (fun _ h => by cases h) fnExactPunchNumber_row_tie rfl ⟨rfl, rfl⟩ (by kernel_rfl) rfl plain (by kernel_rfl)
end Go.Proofs.YtjfogadcedgndabDoor.fnExactPunchNumber
