/- For every layout, the law FnExactFreeColumns returns true: impl.FreeColumns answers as spec.FreeColumns, leaves its argument as it was, and its answer is new memory. Conditions: none. -/
import Derived.Test.YtjglnljogpdcnaaMarkLay
import Derived.Test.YtjglnljogpdcnaaLists
import Derived.Test.YtjglnljogpdcnaaFree
import Derived.Deep.RegionHeld3
namespace Go.Proofs.Ytjglnljogpdcnaa.fnExactFreeColumns
open Go.ChangeShapes Go.WideShapes Go.ChangeAt Go.RowKit

theorem walk_big (A : Option Addr) (c : Nat) (u : Int) (ds : List It) (w : World) (h : Items w w.heap.size A ds) (hn : ds.length ≤ 9223372036854775807) (hs : ∀ d ∈ ds, d.name.size ≤ 9223372036854775807) (hbig : 1048576 < ds.length + itSize ds) :
    Calls Try.prog 6 #[.agg #[.int .i64 u, .slice A ds.length c]] w fun e w' => e = .returned (.bool true) ∧ Below w.heap.size w w' := by
  have hz := fun (W : World) (hW : Items W w.heap.size A ds) (hBW : w.heap.size ≤ W.heap.size) => szLayout_big A c ds w.heap.size u 1048576 W hW hBW (by omega) hn hs hbig
  have HZ := Lib.hid hz
  obtain ⟨n, hN⟩ : ∃ n, ds.length = n := ⟨_, rfl⟩
  rw [hN] at HZ ⊢
  have H := Lib.hid h
  clear hz h hs hbig hN hn
  go_enter Try.func6, Try.ntmps6
  go_wp2_with fail
  refine (HZ.out _ (H.out.alloc (Nat.le_refl _) _) (by simp)).mono ?_
  rintro e w1 ⟨rfl, hb⟩
  have B1 := Lib.hid (below_step (below_box w _) hb)
  clear hb
  go_wp2
  go_ret
  exact ⟨rfl, B1.out⟩


set_option maxRecDepth 100000 in
set_option maxHeartbeats 4000000 in
theorem walk_none (A : Option Addr) (c : Nat) (u : Int) (ds : List It) (a : Int) (w : World) (h : Items w w.heap.size A ds) (hfit : ds.length + itSize ds ≤ 1048576)
    (hs : ∀ (W : World) (g : Nat), IRow W g ds [] → Calls Try.prog 21 #[.agg #[.int .i64 u, .slice (some ⟨g, 0, none⟩) ds.length ds.length]] W (GivesNone a W))
    (hi : ∀ (W : World) (g : Nat), IRow W g ds [] → Calls Try.prog 22 #[.agg #[.int .i64 u, .slice (some ⟨g, 0, none⟩) ds.length ds.length]] W (GivesNone a W)) :
    Calls Try.prog 6 #[.agg #[.int .i64 u, .slice A ds.length c]] w fun e w' => e = .returned (.bool true) ∧ Below w.heap.size w w' := by
  have hz := fun (W : World) (hW : Items W w.heap.size A ds) (hBW : w.heap.size ≤ W.heap.size) => szLayout_fit A c ds w.heap.size u 1048576 W hW hBW (by omega) hfit
  obtain ⟨q, hq⟩ : ∃ q, 1048576 - ds.length - itSize ds = q := ⟨_, rfl⟩
  have hqi : (((1048576 : Nat) : Int) - ds.length - itSize ds) = (q : Int) := by omega
  rw [hqi] at hz
  have hl : ds.length ≤ 1048576 := by omega
  have ht := fun (W : World) (hW : Items W w.heap.size A ds) (hBW : w.heap.size ≤ W.heap.size) => toLayout_any A c ds w.heap.size u W hW hBW hl
  have he := fun (W : World) (g g' : Nat) (hW : IRow W g ds []) (hW' : IRow W g' ds []) => eqLayout_same (some ⟨g, 0, none⟩) (some ⟨g', 0, none⟩) ds.length ds.length u ds (g + 1) (g' + 1) W hW.items hW'.items hW.lt hW'.lt hl
  have hm : ∀ (W : World) (g : Nat), IRow W g ds [] → Calls Try.prog 19 #[.agg #[.int .i64 u, .slice (some ⟨g, 0, none⟩) ds.length ds.length], .int .i64 1] W fun e w' => e = .returned (.int .i64 ((1 + ds.length * 4 : Nat) : Int)) ∧ W.grownBy w' (some g) ∧ IRow w' g (mitems 1 ds.length) [] := fun W g hW => by
    have := markLayout_any g ds.length u ds [] 1 W hW (by omega) (by omega) hl
    simpa using this
  unfold GivesLay at ht
  have H := Lib.hid h
  have HZ := Lib.hid hz
  have HT := Lib.hid ht
  have HE := Lib.hid he
  have HM := Lib.hid hm
  have HS := Lib.hid hs
  have HI := Lib.hid hi
  have hq0 : ¬ (q : Int) < 0 := by omega
  obtain ⟨m, hm1⟩ : ∃ m, 1 + ds.length * 4 = m := ⟨_, rfl⟩
  rw [hm1] at HM
  have hm0 : ¬ (m : Int) < 0 := by omega
  obtain ⟨n, hN⟩ : ∃ n, ds.length = n := ⟨_, rfl⟩
  rw [hN] at HZ HT HE HS HI HM ⊢
  clear hz ht he hm hm1 h hfit hq hqi hl hN hs hi
  go_enter Try.func6, Try.ntmps6
  go_wp2_with fail
  refine (HZ.out _ (H.out.alloc (Nat.le_refl _) _) (by simp)).mono ?_
  rintro e w1 ⟨rfl, hb⟩
  have B_1 := Lib.hid (below_step (below_box w _) hb)
  have ca_1 := cell_kept (p := ⟨w.heap.size, 0, none⟩) (v := .int .i64 u) (by simp [go_sem]) hb
  have cb_1 := cell_kept (p := ⟨w.heap.size, 1, none⟩) (v := .slice A n c) (by simp [go_sem]) hb
  clear hb
  go_wp2_with fail
  refine (HT.out _ (H.out.below B_1.out) B_1.out.size).mono ?_
  rintro e w2 ⟨ga, rfl, hg, hb, hrow⟩
  have B_2 := Lib.hid (below_step B_1.out hb)
  have ca_2 := cell_kept ca_1 hb
  have cb_2 := cell_kept cb_1 hb
  have Ia_2 := Lib.hid hrow
  clear hb hrow hg ca_1 cb_1 B_1
  go_wp2_with fail
  refine (HS.out _ ga Ia_2.out).mono ?_
  rintro e w3 ⟨Aw, cw, rfl, hb⟩
  have B_3 := Lib.hid (below_step B_2.out hb)
  have ca_3 := cell_kept ca_2 hb
  have cb_3 := cell_kept cb_2 hb
  have Ia_3 := Lib.hid (Ia_2.out.later hb)
  clear hb ca_2 cb_2 Ia_2 B_2
  clear Ia_3
  go_wp2_with fail
  refine (HT.out _ (H.out.below B_3.out) B_3.out.size).mono ?_
  rintro e w4 ⟨gx, rfl, hg, hb, hrow⟩
  have L_ca_Ix : Hid (w.heap.size < gx) := Nat.lt_of_lt_of_le (World.block_lt_of_cell? _ _ ca_3) hg
  have L_cb_Ix : Hid (w.heap.size < gx) := Nat.lt_of_lt_of_le (World.block_lt_of_cell? _ _ cb_3) hg
  have G_Ix := Lib.hid (Nat.le_trans B_3.out.size hg)
  have B_4 := Lib.hid (below_step B_3.out hb)
  have ca_4 := cell_kept ca_3 hb
  have cb_4 := cell_kept cb_3 hb
  have Ix_4 := Lib.hid hrow
  clear hb hrow hg ca_3 cb_3 B_3
  have L_Ix_cx : Hid (gx < w4.heap.size) := Nat.lt_of_lt_of_le (Ix_4.out.lt) (Nat.le_refl _)
  have L_Ix_cy : Hid (gx < w4.heap.size) := Nat.lt_of_lt_of_le (Ix_4.out.lt) (Nat.le_refl _)
  have hb := below_box w4 (.cells #[.int .i64 u, .slice (some ⟨gx, 0, none⟩) n n] 29)
  have B_5 := Lib.hid (below_step B_4.out hb)
  have ca_5 := cell_kept ca_4 hb
  have cb_5 := cell_kept cb_4 hb
  have Ix_5 := Lib.hid (Ix_4.out.later hb)
  have cx_5 : (w4.alloc (.cells #[.int .i64 u, .slice (some ⟨gx, 0, none⟩) n n] 29)).cell? ⟨w4.heap.size, 0, none⟩ = some (.int .i64 u) := by simp [go_sem]
  have cy_5 : (w4.alloc (.cells #[.int .i64 u, .slice (some ⟨gx, 0, none⟩) n n] 29)).cell? ⟨w4.heap.size, 1, none⟩ = some (.slice (some ⟨gx, 0, none⟩) n n) := by simp [go_sem]
  clear hb ca_4 cb_4 Ix_4 B_4
  go_wp2_with fail
  refine (HI.out _ gx Ix_5.out).mono ?_
  rintro e w6 ⟨Ag, cg, rfl, hb⟩
  have B_6 := Lib.hid (below_step B_5.out hb)
  have ca_6 := cell_kept ca_5 hb
  have cb_6 := cell_kept cb_5 hb
  have cx_6 := cell_kept cx_5 hb
  have cy_6 := cell_kept cy_5 hb
  have Ix_6 := Lib.hid (Ix_5.out.later hb)
  clear hb ca_5 cb_5 cx_5 cy_5 Ix_5 B_5
  go_wp2_with fail
  refine (eqNil_any Ag Aw cg cw _).mono ?_
  rintro e w7 ⟨rfl, hb⟩
  have B_7 := Lib.hid (below_step B_6.out hb)
  have ca_7 := cell_kept ca_6 hb
  have cb_7 := cell_kept cb_6 hb
  have cx_7 := cell_kept cx_6 hb
  have cy_7 := cell_kept cy_6 hb
  have Ix_7 := Lib.hid (Ix_6.out.later hb)
  clear hb ca_6 cb_6 cx_6 cy_6 Ix_6 B_6
  go_wp2
  go_region_held3 (fun W => W.cell? ⟨w.heap.size, 0, none⟩ = some (.int .i64 u) ∧ W.cell? ⟨w.heap.size, 1, none⟩ = some (.slice A n c) ∧ W.cell? ⟨w4.heap.size, 0, none⟩ = some (.int .i64 u) ∧ W.cell? ⟨w4.heap.size, 1, none⟩ = some (.slice (some ⟨gx, 0, none⟩) n n))
    (first | exact ⟨ca_7, cb_7, cx_7, cy_7⟩ | exact ⟨ca_8, cb_8, cx_8, cy_8⟩ | exact ⟨ca_9, cb_9, cx_9, cy_9⟩)
    (first
      | (go_at_call 10
         refine (HT.out _ ?_ ?_).mono ?_
         · exact H.out.below B_7.out.drew
         · exact B_7.out.drew.size
         rintro e w8 ⟨ge, rfl, hg, hb, hrow⟩
         have L_Ix_Ie : Hid (gx < ge) := Nat.lt_of_lt_of_le (Ix_7.out.lt) hg
         have B_8 := Lib.hid (below_step B_7.out.drew hb)
         have ca_8 := cell_kept (w := w7.drew) ca_7 hb
         have cb_8 := cell_kept (w := w7.drew) cb_7 hb
         have cx_8 := cell_kept (w := w7.drew) cx_7 hb
         have cy_8 := cell_kept (w := w7.drew) cy_7 hb
         have Ix_8 := Lib.hid (Ix_7.out.drew.later hb)
         have Ie_8 := Lib.hid hrow
         clear hb hrow hg)
      | (go_at_call 12
         refine (HE.out _ gx ge ?_ ?_).mono ?_
         · exact Ix_8.out
         · exact Ie_8.out
         rintro e w9 ⟨rfl, hb⟩
         have B_9 := Lib.hid (below_step B_8.out hb)
         have ca_9 := cell_kept ca_8 hb
         have cb_9 := cell_kept cb_8 hb
         have cx_9 := cell_kept cx_8 hb
         have cy_9 := cell_kept cy_8 hb
         have Ix_9 := Lib.hid (Ix_8.out.later hb)
         have Ie_9 := Lib.hid (Ie_8.out.later hb)
         clear hb))
  clear ca_7 cb_7 cx_7 cy_7 Ix_7 B_7 ca_8 cb_8 cx_8 cy_8 Ix_8 Ie_8 B_8
  clear Ie_9
  go_wp2_with fail
  refine (HM.out _ gx Ix_9.out).mono ?_
  rintro e w10 ⟨rfl, hg, hrow⟩
  have B_10 := Lib.hid (below_only B_9.out hg G_Ix.out)
  have ca_10 := cell_only hg ca_9 (Nat.ne_of_lt L_ca_Ix.out)
  have cb_10 := cell_only hg cb_9 (Nat.ne_of_lt L_cb_Ix.out)
  have cx_10 := cell_only hg cx_9 (Nat.ne_of_gt L_Ix_cx.out)
  have cy_10 := cell_only hg cy_9 (Nat.ne_of_gt L_Ix_cy.out)
  have Ix_10 := Lib.hid hrow
  clear hg hrow B_9 ca_9 cb_9 cx_9 cy_9 Ix_9
  clear Ix_10
  clear cx_10
  clear cy_10
  go_wp2_with fail
  refine (eqNil_any Ag Aw cg cw _).mono ?_
  rintro e w11 ⟨rfl, hb⟩
  have B_11 := Lib.hid (below_step B_10.out hb)
  have ca_11 := cell_kept ca_10 hb
  have cb_11 := cell_kept cb_10 hb
  clear hb ca_10 cb_10 B_10
  go_wp2_with fail
  refine (markNil_any Ag cg 1 _).mono ?_
  rintro e w12 ⟨rfl, hb⟩
  have B_12 := Lib.hid (below_step B_11.out hb)
  have ca_12 := cell_kept ca_11 hb
  have cb_12 := cell_kept cb_11 hb
  clear hb ca_11 cb_11 B_11
  go_wp2_with fail
  refine (heldNil_any Ag cg 1 _ (by omega) (by omega)).mono ?_
  rintro e w13 ⟨rfl, hb⟩
  have B_13 := Lib.hid (below_step B_12.out hb)
  have ca_13 := cell_kept ca_12 hb
  have cb_13 := cell_kept cb_12 hb
  clear hb ca_12 cb_12 B_12
  go_wp2_with fail
  refine (HT.out _ (H.out.below B_13.out) B_13.out.size).mono ?_
  rintro e w14 ⟨gb, rfl, hg, hb, hrow⟩
  have B_14 := Lib.hid (below_step B_13.out hb)
  have ca_14 := cell_kept ca_13 hb
  have cb_14 := cell_kept cb_13 hb
  have Ib_14 := Lib.hid hrow
  clear hb hrow hg ca_13 cb_13 B_13
  go_wp2_with fail
  refine (HI.out _ gb Ib_14.out).mono ?_
  rintro e w15 ⟨Ah, ch, rfl, hb⟩
  have B_15 := Lib.hid (below_step B_14.out hb)
  have ca_15 := cell_kept ca_14 hb
  have cb_15 := cell_kept cb_14 hb
  have Ib_15 := Lib.hid (Ib_14.out.later hb)
  clear hb ca_14 cb_14 Ib_14 B_14
  clear Ib_15
  go_wp2_with fail
  refine (eqNil_any Ah Aw ch cw _).mono ?_
  rintro e w16 ⟨rfl, hb⟩
  have B_16 := Lib.hid (below_step B_15.out hb)
  have ca_16 := cell_kept ca_15 hb
  have cb_16 := cell_kept cb_15 hb
  clear hb ca_15 cb_15 B_15
  go_wp2_with fail
  refine (heldNil_any Ag cg 1 _ (by omega) (by omega)).mono ?_
  rintro e w17 ⟨rfl, hb⟩
  have B_17 := Lib.hid (below_step B_16.out hb)
  have ca_17 := cell_kept ca_16 hb
  have cb_17 := cell_kept cb_16 hb
  clear hb ca_16 cb_16 B_16
  go_wp2
  go_ret
  exact ⟨rfl, B_17.out⟩

set_option maxRecDepth 100000 in
set_option maxHeartbeats 4000000 in
theorem walk_some (A : Option Addr) (c : Nat) (u : Int) (ds : List It) (ys : List Int) (a : Int) (w : World) (h : Items w w.heap.size A ds) (hfit : ds.length + itSize ds ≤ 1048576) (hy : ys.length ≤ 1048576)
    (hs : ∀ (W : World) (g : Nat), IRow W g ds [] → Calls Try.prog 21 #[.agg #[.int .i64 u, .slice (some ⟨g, 0, none⟩) ds.length ds.length]] W (GivesSome ys a W))
    (hi : ∀ (W : World) (g : Nat), IRow W g ds [] → Calls Try.prog 22 #[.agg #[.int .i64 u, .slice (some ⟨g, 0, none⟩) ds.length ds.length]] W (GivesSome ys a W)) :
    Calls Try.prog 6 #[.agg #[.int .i64 u, .slice A ds.length c]] w fun e w' => e = .returned (.bool true) ∧ Below w.heap.size w w' := by
  have hz := fun (W : World) (hW : Items W w.heap.size A ds) (hBW : w.heap.size ≤ W.heap.size) => szLayout_fit A c ds w.heap.size u 1048576 W hW hBW (by omega) hfit
  obtain ⟨q, hq⟩ : ∃ q, 1048576 - ds.length - itSize ds = q := ⟨_, rfl⟩
  have hqi : (((1048576 : Nat) : Int) - ds.length - itSize ds) = (q : Int) := by omega
  rw [hqi] at hz
  have hl : ds.length ≤ 1048576 := by omega
  have ht := fun (W : World) (hW : Items W w.heap.size A ds) (hBW : w.heap.size ≤ W.heap.size) => toLayout_any A c ds w.heap.size u W hW hBW hl
  have he := fun (W : World) (g g' : Nat) (hW : IRow W g ds []) (hW' : IRow W g' ds []) => eqLayout_same (some ⟨g, 0, none⟩) (some ⟨g', 0, none⟩) ds.length ds.length u ds (g + 1) (g' + 1) W hW.items hW'.items hW.lt hW'.lt hl
  have hm : ∀ (W : World) (g : Nat), IRow W g ds [] → Calls Try.prog 19 #[.agg #[.int .i64 u, .slice (some ⟨g, 0, none⟩) ds.length ds.length], .int .i64 1] W fun e w' => e = .returned (.int .i64 ((1 + ds.length * 4 : Nat) : Int)) ∧ W.grownBy w' (some g) ∧ IRow w' g (mitems 1 ds.length) [] := fun W g hW => by
    have := markLayout_any g ds.length u ds [] 1 W hW (by omega) (by omega) hl
    simpa using this
  unfold GivesLay at ht
  have H := Lib.hid h
  have HZ := Lib.hid hz
  have HT := Lib.hid ht
  have HE := Lib.hid he
  have HM := Lib.hid hm
  have HS := Lib.hid hs
  have HI := Lib.hid hi
  have hq0 : ¬ (q : Int) < 0 := by omega
  obtain ⟨m, hm1⟩ : ∃ m, 1 + ds.length * 4 = m := ⟨_, rfl⟩
  rw [hm1] at HM
  have hm0 : ¬ (m : Int) < 0 := by omega
  obtain ⟨n, hN⟩ : ∃ n, ds.length = n := ⟨_, rfl⟩
  rw [hN] at HZ HT HE HS HI HM ⊢
  clear hz ht he hm hm1 h hfit hq hqi hl hN hs hi
  go_enter Try.func6, Try.ntmps6
  go_wp2_with fail
  refine (HZ.out _ (H.out.alloc (Nat.le_refl _) _) (by simp)).mono ?_
  rintro e w1 ⟨rfl, hb⟩
  have B_1 := Lib.hid (below_step (below_box w _) hb)
  have ca_1 := cell_kept (p := ⟨w.heap.size, 0, none⟩) (v := .int .i64 u) (by simp [go_sem]) hb
  have cb_1 := cell_kept (p := ⟨w.heap.size, 1, none⟩) (v := .slice A n c) (by simp [go_sem]) hb
  clear hb
  go_wp2_with fail
  refine (HT.out _ (H.out.below B_1.out) B_1.out.size).mono ?_
  rintro e w2 ⟨ga, rfl, hg, hb, hrow⟩
  have B_2 := Lib.hid (below_step B_1.out hb)
  have ca_2 := cell_kept ca_1 hb
  have cb_2 := cell_kept cb_1 hb
  have Ia_2 := Lib.hid hrow
  clear hb hrow hg ca_1 cb_1 B_1
  go_wp2_with fail
  refine (HS.out _ ga Ia_2.out).mono ?_
  rintro e w3 ⟨gw, cw, xw, rfl, hg, hb, hrow⟩
  have B_3 := Lib.hid (below_step B_2.out hb)
  have ca_3 := cell_kept ca_2 hb
  have cb_3 := cell_kept cb_2 hb
  have Ia_3 := Lib.hid (Ia_2.out.later hb)
  have Rw_3 := Lib.hid hrow
  clear hb hrow hg ca_2 cb_2 Ia_2 B_2
  clear Ia_3
  go_wp2_with fail
  refine (HT.out _ (H.out.below B_3.out) B_3.out.size).mono ?_
  rintro e w4 ⟨gx, rfl, hg, hb, hrow⟩
  have L_ca_Ix : Hid (w.heap.size < gx) := Nat.lt_of_lt_of_le (World.block_lt_of_cell? _ _ ca_3) hg
  have L_cb_Ix : Hid (w.heap.size < gx) := Nat.lt_of_lt_of_le (World.block_lt_of_cell? _ _ cb_3) hg
  have L_Rw_Ix : Hid (gw < gx) := Nat.lt_of_lt_of_le (Rw_3.out.lt) hg
  have G_Ix := Lib.hid (Nat.le_trans B_3.out.size hg)
  have B_4 := Lib.hid (below_step B_3.out hb)
  have ca_4 := cell_kept ca_3 hb
  have cb_4 := cell_kept cb_3 hb
  have Rw_4 := Lib.hid (Rw_3.out.later hb)
  have Ix_4 := Lib.hid hrow
  clear hb hrow hg ca_3 cb_3 Rw_3 B_3
  have L_Ix_cx : Hid (gx < w4.heap.size) := Nat.lt_of_lt_of_le (Ix_4.out.lt) (Nat.le_refl _)
  have L_Ix_cy : Hid (gx < w4.heap.size) := Nat.lt_of_lt_of_le (Ix_4.out.lt) (Nat.le_refl _)
  have hb := below_box w4 (.cells #[.int .i64 u, .slice (some ⟨gx, 0, none⟩) n n] 29)
  have B_5 := Lib.hid (below_step B_4.out hb)
  have ca_5 := cell_kept ca_4 hb
  have cb_5 := cell_kept cb_4 hb
  have Rw_5 := Lib.hid (Rw_4.out.later hb)
  have Ix_5 := Lib.hid (Ix_4.out.later hb)
  have cx_5 : (w4.alloc (.cells #[.int .i64 u, .slice (some ⟨gx, 0, none⟩) n n] 29)).cell? ⟨w4.heap.size, 0, none⟩ = some (.int .i64 u) := by simp [go_sem]
  have cy_5 : (w4.alloc (.cells #[.int .i64 u, .slice (some ⟨gx, 0, none⟩) n n] 29)).cell? ⟨w4.heap.size, 1, none⟩ = some (.slice (some ⟨gx, 0, none⟩) n n) := by simp [go_sem]
  clear hb ca_4 cb_4 Rw_4 Ix_4 B_4
  go_wp2_with fail
  refine (HI.out _ gx Ix_5.out).mono ?_
  rintro e w6 ⟨gg, cg, xg, rfl, hg, hb, hrow⟩
  have L_ca_Rg : Hid (w.heap.size < gg) := Nat.lt_of_lt_of_le (World.block_lt_of_cell? _ _ ca_5) hg
  have L_cb_Rg : Hid (w.heap.size < gg) := Nat.lt_of_lt_of_le (World.block_lt_of_cell? _ _ cb_5) hg
  have L_Rw_Rg : Hid (gw < gg) := Nat.lt_of_lt_of_le (Rw_5.out.lt) hg
  have L_Ix_Rg : Hid (gx < gg) := Nat.lt_of_lt_of_le (Ix_5.out.lt) hg
  have L_cx_Rg : Hid (w4.heap.size < gg) := Nat.lt_of_lt_of_le (World.block_lt_of_cell? _ _ cx_5) hg
  have L_cy_Rg : Hid (w4.heap.size < gg) := Nat.lt_of_lt_of_le (World.block_lt_of_cell? _ _ cy_5) hg
  have G_Rg := Lib.hid (Nat.le_trans B_5.out.size hg)
  have B_6 := Lib.hid (below_step B_5.out hb)
  have ca_6 := cell_kept ca_5 hb
  have cb_6 := cell_kept cb_5 hb
  have cx_6 := cell_kept cx_5 hb
  have cy_6 := cell_kept cy_5 hb
  have Rw_6 := Lib.hid (Rw_5.out.later hb)
  have Ix_6 := Lib.hid (Ix_5.out.later hb)
  have Rg_6 := Lib.hid hrow
  clear hb hrow hg ca_5 cb_5 cx_5 cy_5 Rw_5 Ix_5 B_5
  go_wp2_with fail
  refine (eqList_any (some ⟨gg, 0, none⟩) (some ⟨gw, 0, none⟩) cg cw ys (gg + 1) (gw + 1) _ Rg_6.out.ints Rw_6.out.ints hy).mono ?_
  rintro e w7 ⟨rfl, hb⟩
  have B_7 := Lib.hid (below_step B_6.out hb)
  have ca_7 := cell_kept ca_6 hb
  have cb_7 := cell_kept cb_6 hb
  have cx_7 := cell_kept cx_6 hb
  have cy_7 := cell_kept cy_6 hb
  have Rw_7 := Lib.hid (Rw_6.out.later hb)
  have Ix_7 := Lib.hid (Ix_6.out.later hb)
  have Rg_7 := Lib.hid (Rg_6.out.later hb)
  clear hb ca_6 cb_6 cx_6 cy_6 Rw_6 Ix_6 Rg_6 B_6
  go_wp2
  go_region_held3 (fun W => W.cell? ⟨w.heap.size, 0, none⟩ = some (.int .i64 u) ∧ W.cell? ⟨w.heap.size, 1, none⟩ = some (.slice A n c) ∧ W.cell? ⟨w4.heap.size, 0, none⟩ = some (.int .i64 u) ∧ W.cell? ⟨w4.heap.size, 1, none⟩ = some (.slice (some ⟨gx, 0, none⟩) n n))
    (first | exact ⟨ca_7, cb_7, cx_7, cy_7⟩ | exact ⟨ca_8, cb_8, cx_8, cy_8⟩ | exact ⟨ca_9, cb_9, cx_9, cy_9⟩)
    (first
      | (go_at_call 10
         refine (HT.out _ ?_ ?_).mono ?_
         · exact H.out.below B_7.out.drew
         · exact B_7.out.drew.size
         rintro e w8 ⟨ge, rfl, hg, hb, hrow⟩
         have L_Ix_Ie : Hid (gx < ge) := Nat.lt_of_lt_of_le (Ix_7.out.lt) hg
         have L_Rg_Ie : Hid (gg < ge) := Nat.lt_of_lt_of_le (Rg_7.out.lt) hg
         have B_8 := Lib.hid (below_step B_7.out.drew hb)
         have ca_8 := cell_kept (w := w7.drew) ca_7 hb
         have cb_8 := cell_kept (w := w7.drew) cb_7 hb
         have cx_8 := cell_kept (w := w7.drew) cx_7 hb
         have cy_8 := cell_kept (w := w7.drew) cy_7 hb
         have Rw_8 := Lib.hid (Rw_7.out.drew.later hb)
         have Ix_8 := Lib.hid (Ix_7.out.drew.later hb)
         have Rg_8 := Lib.hid (Rg_7.out.drew.later hb)
         have Ie_8 := Lib.hid hrow
         clear hb hrow hg)
      | (go_at_call 12
         refine (HE.out _ gx ge ?_ ?_).mono ?_
         · exact Ix_8.out
         · exact Ie_8.out
         rintro e w9 ⟨rfl, hb⟩
         have B_9 := Lib.hid (below_step B_8.out hb)
         have ca_9 := cell_kept ca_8 hb
         have cb_9 := cell_kept cb_8 hb
         have cx_9 := cell_kept cx_8 hb
         have cy_9 := cell_kept cy_8 hb
         have Rw_9 := Lib.hid (Rw_8.out.later hb)
         have Ix_9 := Lib.hid (Ix_8.out.later hb)
         have Rg_9 := Lib.hid (Rg_8.out.later hb)
         have Ie_9 := Lib.hid (Ie_8.out.later hb)
         clear hb))
  clear ca_7 cb_7 cx_7 cy_7 Rw_7 Ix_7 Rg_7 B_7 ca_8 cb_8 cx_8 cy_8 Rw_8 Ix_8 Rg_8 Ie_8 B_8
  clear Ie_9
  go_wp2_with fail
  refine (HM.out _ gx Ix_9.out).mono ?_
  rintro e w10 ⟨rfl, hg, hrow⟩
  have B_10 := Lib.hid (below_only B_9.out hg G_Ix.out)
  have ca_10 := cell_only hg ca_9 (Nat.ne_of_lt L_ca_Ix.out)
  have cb_10 := cell_only hg cb_9 (Nat.ne_of_lt L_cb_Ix.out)
  have cx_10 := cell_only hg cx_9 (Nat.ne_of_gt L_Ix_cx.out)
  have cy_10 := cell_only hg cy_9 (Nat.ne_of_gt L_Ix_cy.out)
  have Rw_10 := Lib.hid (Row.only hg Rw_9.out (Nat.ne_of_lt L_Rw_Ix.out))
  have Ix_10 := Lib.hid hrow
  have Rg_10 := Lib.hid (Row.only hg Rg_9.out (Nat.ne_of_gt L_Ix_Rg.out))
  clear hg hrow B_9 ca_9 cb_9 cx_9 cy_9 Rw_9 Ix_9 Rg_9
  clear Ix_10
  clear cx_10
  clear cy_10
  go_wp2_with fail
  refine (eqList_any (some ⟨gg, 0, none⟩) (some ⟨gw, 0, none⟩) cg cw ys (gg + 1) (gw + 1) _ Rg_10.out.ints Rw_10.out.ints hy).mono ?_
  rintro e w11 ⟨rfl, hb⟩
  have B_11 := Lib.hid (below_step B_10.out hb)
  have ca_11 := cell_kept ca_10 hb
  have cb_11 := cell_kept cb_10 hb
  have Rw_11 := Lib.hid (Rw_10.out.later hb)
  have Rg_11 := Lib.hid (Rg_10.out.later hb)
  clear hb ca_10 cb_10 Rw_10 Rg_10 B_10
  go_wp2_with fail
  refine (markInts_any gg cg ys xg 1 _ Rg_11.out (by omega) (by omega) hy).mono ?_
  rintro e w12 ⟨rfl, hg, hrow⟩
  have B_12 := Lib.hid (below_only B_11.out hg G_Rg.out)
  have ca_12 := cell_only hg ca_11 (Nat.ne_of_lt L_ca_Rg.out)
  have cb_12 := cell_only hg cb_11 (Nat.ne_of_lt L_cb_Rg.out)
  have Rw_12 := Lib.hid (Row.only hg Rw_11.out (Nat.ne_of_lt L_Rw_Rg.out))
  have Rg_12 := Lib.hid hrow
  clear hg hrow B_11 ca_11 cb_11 Rw_11 Rg_11
  go_wp2_with fail
  refine (heldList_any (some ⟨gg, 0, none⟩) cg ys.length (gg + 1) 1 _ Rg_12.out.ints (by omega) (by omega) hy).mono ?_
  rintro e w13 ⟨rfl, hb⟩
  have B_13 := Lib.hid (below_step B_12.out hb)
  have ca_13 := cell_kept ca_12 hb
  have cb_13 := cell_kept cb_12 hb
  have Rw_13 := Lib.hid (Rw_12.out.later hb)
  have Rg_13 := Lib.hid (Rg_12.out.later hb)
  clear hb ca_12 cb_12 Rw_12 Rg_12 B_12
  go_wp2_with fail
  refine (HT.out _ (H.out.below B_13.out) B_13.out.size).mono ?_
  rintro e w14 ⟨gb, rfl, hg, hb, hrow⟩
  have L_Rg_Ib : Hid (gg < gb) := Nat.lt_of_lt_of_le (Rg_13.out.lt) hg
  have B_14 := Lib.hid (below_step B_13.out hb)
  have ca_14 := cell_kept ca_13 hb
  have cb_14 := cell_kept cb_13 hb
  have Rw_14 := Lib.hid (Rw_13.out.later hb)
  have Rg_14 := Lib.hid (Rg_13.out.later hb)
  have Ib_14 := Lib.hid hrow
  clear hb hrow hg ca_13 cb_13 Rw_13 Rg_13 B_13
  go_wp2_with fail
  refine (HI.out _ gb Ib_14.out).mono ?_
  rintro e w15 ⟨gh, ch, xh, rfl, hg, hb, hrow⟩
  have L_Rg_Rh : Hid (gg < gh) := Nat.lt_of_lt_of_le (Rg_14.out.lt) hg
  have B_15 := Lib.hid (below_step B_14.out hb)
  have ca_15 := cell_kept ca_14 hb
  have cb_15 := cell_kept cb_14 hb
  have Rw_15 := Lib.hid (Rw_14.out.later hb)
  have Rg_15 := Lib.hid (Rg_14.out.later hb)
  have Ib_15 := Lib.hid (Ib_14.out.later hb)
  have Rh_15 := Lib.hid hrow
  clear hb hrow hg ca_14 cb_14 Rw_14 Rg_14 Ib_14 B_14
  clear Ib_15
  go_wp2_with fail
  refine (eqList_any (some ⟨gh, 0, none⟩) (some ⟨gw, 0, none⟩) ch cw ys (gh + 1) (gw + 1) _ Rh_15.out.ints Rw_15.out.ints hy).mono ?_
  rintro e w16 ⟨rfl, hb⟩
  have B_16 := Lib.hid (below_step B_15.out hb)
  have ca_16 := cell_kept ca_15 hb
  have cb_16 := cell_kept cb_15 hb
  have Rw_16 := Lib.hid (Rw_15.out.later hb)
  have Rg_16 := Lib.hid (Rg_15.out.later hb)
  have Rh_16 := Lib.hid (Rh_15.out.later hb)
  clear hb ca_15 cb_15 Rw_15 Rg_15 Rh_15 B_15
  go_wp2_with fail
  refine (heldList_any (some ⟨gg, 0, none⟩) cg ys.length (gg + 1) 1 _ Rg_16.out.ints (by omega) (by omega) hy).mono ?_
  rintro e w17 ⟨rfl, hb⟩
  have B_17 := Lib.hid (below_step B_16.out hb)
  have ca_17 := cell_kept ca_16 hb
  have cb_17 := cell_kept cb_16 hb
  have Rw_17 := Lib.hid (Rw_16.out.later hb)
  have Rg_17 := Lib.hid (Rg_16.out.later hb)
  have Rh_17 := Lib.hid (Rh_16.out.later hb)
  clear hb ca_16 cb_16 Rw_16 Rg_16 Rh_16 B_16
  go_wp2
  go_ret
  exact ⟨rfl, B_17.out⟩

theorem walk (u : Int) (A : Option Addr) (c : Nat) (ds : List It) {w : World} (h : Items w w.heap.size A ds) (hn : ds.length ≤ 9223372036854775807) (hs : ∀ d ∈ ds, d.name.size ≤ 9223372036854775807) (W : World) (e1 : w = W) :
    Calls Try.prog 6 #[.agg #[.int .i64 u, .slice A ds.length c]] W fun e w' => e = .returned (.bool true) ∧ Below W.heap.size W w' := by
  subst e1
  by_cases h1 : 1048576 < ds.length + itSize ds
  · exact walk_big A c u ds w h hn hs h1
  · have hl : ds.length ≤ 1048576 := by omega
    have hs1 : ∀ d ∈ ds, d.name.size ≤ 1048576 := fun d hd => by
      obtain ⟨k, hk⟩ := List.getElem?_of_mem hd
      have := itSize_at ds k d hk
      omega
    cases hv : layoutB u ds with
    | false =>
      refine walk_none A c u ds 1 w h (by omega) (fun W g hW => ?_) (fun W g hW => ?_)
      · exact (specFree_bad u _ ds.length ds (g + 1) W hW.items hW.lt hl hv).mono fun e w' hh => ⟨none, 0, hh.1, hh.2⟩
      · exact (implFree_bad u _ ds.length ds (g + 1) W hW.items hW.lt hl (Nat.le_refl _) hs1 hv).mono fun e w' hh => ⟨none, 0, hh.1, hh.2⟩
    | true =>
      obtain ⟨m, hm⟩ : ∃ m : Nat, u = m := ⟨u.toNat, by have := layoutB_width hv; omega⟩
      have hs2 := fun W g (hW : IRow W g ds []) => specFree_good u (some ⟨g, 0, none⟩) ds.length ds (g + 1) W hW.items hW.lt hl hv m hm
      have hi2 := fun W g (hW : IRow W g ds []) => implFree_good u (some ⟨g, 0, none⟩) ds.length ds (g + 1) W hW.items hW.lt hl (Nat.le_refl _) hs1 hv m hm
      have hm20 : m ≤ 20 := by have := layoutB_width hv; omega
      have hfl := freeTo_length ds m
      obtain ⟨ys, hy⟩ : ∃ ys, freeTo ds m = ys := ⟨_, rfl⟩
      rw [hy] at hs2 hi2 hfl
      by_cases h0 : 0 < ys.length
      · refine walk_some A c u ds ys 0 w h (by omega) (by omega) (fun W g hW => ?_) (fun W g hW => ?_)
        · refine (hs2 W g hW).mono ?_
          rintro e w' ⟨A', cap, he, hb, hr⟩
          obtain ⟨g', ex, rfl, hg, hrow⟩ := hr h0
          exact ⟨g', cap, ex, he, hg, hb, hrow⟩
        · refine (hi2 W g hW).mono ?_
          rintro e w' ⟨A', cap, he, hb, hr⟩
          obtain ⟨g', ex, rfl, hg, hrow⟩ := hr h0
          exact ⟨g', cap, ex, he, hg, hb, hrow⟩
      · have hz : ys.length = 0 := by omega
        refine walk_none A c u ds 0 w h (by omega) (fun W g hW => ?_) (fun W g hW => ?_)
        · refine (hs2 W g hW).mono ?_
          rintro e w' ⟨A', cap, he, hb, _⟩
          rw [hz] at he
          exact ⟨A', cap, he, hb⟩
        · refine (hi2 W g hW).mono ?_
          rintro e w' ⟨A', cap, he, hb, _⟩
          rw [hz] at he
          exact ⟨A', cap, he, hb⟩

set_option maxRecDepth 100000 in
theorem lifted (os : Os) (started : os.Started) (H : Type) (enc : TypeId × Value → H) :
    ReturnsInHanded {} Try.checked os 6 .any (Rows.fnExactFreeColumnsSpec.pre6 enc Try.prog Try.f6 Rows.fnExactFreeColumnsRow.domain false) (Rows.fnExactFreeColumnsSpec.post enc Try.prog Try.f6 false true false false) := by
  refine returnsInHanded_of_change (C := Try.checked) own started (by kernel_rfl) Try.func6
    (ChangeSpec.witness6 (enc := enc) (C := Try.checked) false ⟨#[], #[.agg #[.int .i64 0, .slice none 0 0]], []⟩ 8 (by kernel_rfl) (by kernel_rfl) (by kernel_rfl) (by kernel_rfl)) ?_
  intro W base args ds gs before hval0 hW _ _
  have hval : ∀ (j : Nat) t v, Try.f6.params[j]? = some t → args[j]? = some v → Value.okWide Try.prog W .any base t v := hval0
  have hW' := hW
  obtain ⟨p, q, hA0, hV, rfl, _, _⟩ := hW
  have hA : DataW.TrodAll enc Try.prog W 0 (fun _ => true) true Try.f6.params.toList args.toList ds p := hA0
  rw [Try.params6] at hA hval
  obtain ⟨v0, vs0, d0, ds0, p0, q0, hargs, rfl, rfl, h0, r0⟩ := trodAll_cons hA
  obtain ⟨rfl, rfl, rfl⟩ := trodAll_nil r0
  obtain rfl : args = #[v0] := by cases args; simp_all
  obtain ⟨rfl, rfl⟩ := trodVars_none hV
  obtain ⟨u0, A0, c0, ds0', rfl, wu0, i0, l0, z0⟩ := open_layout (hval 0 24 v0 rfl rfl) h0
  refine (walk u0 A0 c0 ds0' i0 l0 z0 W rfl).mono fun e W' ⟨he, hb⟩ => ?_
  subst he
  refine ⟨_, rfl, law_post hW' rfl rfl ?_ rfl rfl rfl hb⟩
  intro t ht
  rw [Try.params6] at ht
  obtain rfl : t = 24 := by simpa using ht
  exact ⟨by kernel_rfl, of_decide_eq_true (by kernel_rfl)⟩

theorem over : Rows.fnExactFreeColumnsRow.holds Try.pinned (OpenSpec.ofChange Rows.fnExactFreeColumnsSpec) :=
  OpenClaim.holds_of_wide 6 Try.f6 rfl rfl rfl rfl rfl rfl rfl ⟨rfl, rfl, rfl, rfl, rfl⟩ rfl rfl rfl rfl rfl (by kernel_rfl) Try.func6 (by kernel_rfl)
    (of_decide_eq_true (by kernel_rfl)) (by unfold Func.isWrapper; first | (rw [if_pos (by decide +kernel)]; kernel_rfl) | (rw [if_neg (by decide +kernel)]; exact ⟨rfl, rfl⟩))
    (fun os started H enc _ => lifted os started H enc)

theorem proved : Rows.FnExactFreeColumnsSaid :=
  over
end Go.Proofs.Ytjglnljogpdcnaa.fnExactFreeColumns
