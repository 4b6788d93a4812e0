/- For every layout and every item, the law FnExactAddItem returns true: impl.AddItem answers as spec.AddItem, leaves its arguments as they were, and its answer is new memory. Conditions: none. -/
import Derived.Test.YtngbmkbilopddaaHeldLay
import Derived.Test.YtngbmkbilopddaaAddI
import Derived.Deep.RegionHeld3
namespace Go.Proofs.Ytngbmkbilopddaa.fnExactAddItem
open Go.ChangeShapes Go.WideShapes Go.ChangeAt Go.RowKit

set_option maxRecDepth 100000 in
theorem open_itemv {H : Type} {enc : TypeId × Value → H} {W : World} {b : Nat} {r : Reach} {v : Value} {d : DataW H} {p : List MemPlace} (hv : Value.okWide Try.prog W r b 28 v) (h : DataW.Trod enc Try.prog W 0 (fun _ => true) true 28 v d p) :
    ∃ it : It, v = it.val ∧ it.name.size ≤ 9223372036854775807 := by
  obtain ⟨cs, rfl, _⟩ := okWide_struct Try.underlying28 hv
  obtain ⟨fuel, hf⟩ := h
  obtain ⟨it, hcs, hs⟩ := open_item hf
  unfold maxLen at hs
  refine ⟨it, ?_, hs⟩
  rw [It.val]
  congr 1
  exact Array.ext' hcs

theorem walk_big (A : Option Addr) (c : Nat) (u : Int) (ds : List It) (nm : ByteArray) (kd f0 f1 : Int) (w : World) (h : Items w w.heap.size A ds) (hn : ds.length ≤ 9223372036854775807) (hs : ∀ d ∈ ds, d.name.size ≤ 9223372036854775807) (hbig : 1048576 < ds.length + itSize ds) :
    Calls Try.prog 3 #[.agg #[.int .i64 u, .slice A ds.length c], .agg #[.string nm, .int .i64 kd, .int .i64 f0, .int .i64 f1]] w fun e w' => e = .returned (.bool true) ∧ Below w.heap.size w w' := by
  have hz := fun (W : World) (hW : Items W w.heap.size A ds) (hBW : w.heap.size ≤ W.heap.size) => szLayout_big A c ds w.heap.size u 1048576 W hW hBW (by omega) hn hs hbig
  have HZ := Lib.hid hz
  obtain ⟨n, hN⟩ : ∃ n, ds.length = n := ⟨_, rfl⟩
  rw [hN] at HZ ⊢
  have H := Lib.hid h
  clear hz h hs hbig hN hn
  go_enter Try.func3, Try.ntmps3
  go_wp2_with fail
  refine (HZ.out _ ((H.out.alloc (Nat.le_refl _) _).alloc (by simp) _) (by simp; omega)).mono ?_
  rintro e w1 ⟨rfl, hb⟩
  have B1 := Lib.hid (below_step ((below_box w _).alloc (by simp) _) hb)
  clear hb
  go_wp2
  go_ret
  exact ⟨rfl, B1.out⟩

theorem walk_long (A : Option Addr) (c : Nat) (u : Int) (ds : List It) (nm : ByteArray) (kd f0 f1 : Int) (w : World) (h : Items w w.heap.size A ds) (hfit : ds.length + itSize ds ≤ 1048576) (hnm : nm.size ≤ 9223372036854775807) (hlong : 1048576 < ds.length + itSize ds + nm.size) :
    Calls Try.prog 3 #[.agg #[.int .i64 u, .slice A ds.length c], .agg #[.string nm, .int .i64 kd, .int .i64 f0, .int .i64 f1]] w fun e w' => e = .returned (.bool true) ∧ Below w.heap.size w w' := by
  have hz := fun (W : World) (hW : Items W w.heap.size A ds) (hBW : w.heap.size ≤ W.heap.size) => szLayout_fit A c ds w.heap.size u 1048576 W hW hBW (by omega) hfit
  obtain ⟨q, hq⟩ : ∃ q, 1048576 - ds.length - itSize ds = q := ⟨_, rfl⟩
  have hqi : (((1048576 : Nat) : Int) - ds.length - itSize ds) = (q : Int) := by omega
  rw [hqi] at hz
  have hzi := fun (W : World) => szItem_any nm kd f0 f1 q W (by omega) (by omega) hnm
  rw [if_pos (by omega)] at hzi
  have HZ := Lib.hid hz
  have HI := Lib.hid hzi
  have hq0 : ¬ (q : Int) < 0 := by omega
  obtain ⟨n, hN⟩ : ∃ n, ds.length = n := ⟨_, rfl⟩
  rw [hN] at HZ ⊢
  have H := Lib.hid h
  clear hz hzi h hfit hlong hN hnm hq hqi
  go_enter Try.func3, Try.ntmps3
  go_wp2_with fail
  refine (HZ.out _ ((H.out.alloc (Nat.le_refl _) _).alloc (by simp) _) (by simp; omega)).mono ?_
  rintro e w1 ⟨rfl, hb⟩
  have B1 := Lib.hid (below_step ((below_box w _).alloc (by simp) _) hb)
  have c0 := cell_kept (p := ⟨w.heap.size + 1, 0, none⟩) (v := .string nm) (by simp [go_sem]) hb
  have c1 := cell_kept (p := ⟨w.heap.size + 1, 1, none⟩) (v := .int .i64 kd) (by simp [go_sem]) hb
  have c2 := cell_kept (p := ⟨w.heap.size + 1, 2, none⟩) (v := .int .i64 f0) (by simp [go_sem]) hb
  have c3 := cell_kept (p := ⟨w.heap.size + 1, 3, none⟩) (v := .int .i64 f1) (by simp [go_sem]) hb
  clear hb
  go_wp2_with fail
  refine (HI.out _).mono ?_
  rintro e w2 ⟨rfl, hb⟩
  have B2 := Lib.hid (below_step B1.out hb)
  clear hb
  go_wp2
  go_ret
  exact ⟨rfl, B2.out⟩

set_option maxRecDepth 100000 in
set_option maxHeartbeats 8000000 in
theorem walk_none (A : Option Addr) (c : Nat) (u : Int) (ds : List It) (nm : ByteArray) (kd f0 f1 : Int) (a : Int) (w : World) (h : Items w w.heap.size A ds) (hfit : ds.length + itSize ds + nm.size ≤ 1048576)
    (hs : ∀ (W : World) (g : Nat), IRow W g ds [] → Calls Try.prog 7 #[.agg #[.int .i64 u, .slice (some ⟨g, 0, none⟩) ds.length ds.length], .agg #[.string nm, .int .i64 kd, .int .i64 f0, .int .i64 f1]] W (GivesNoLay a W))
    (hi : ∀ (W : World) (g : Nat), IRow W g ds [] → Calls Try.prog 10 #[.agg #[.int .i64 u, .slice (some ⟨g, 0, none⟩) ds.length ds.length], .agg #[.string nm, .int .i64 kd, .int .i64 f0, .int .i64 f1]] W (GivesNoLay a W)) :
    Calls Try.prog 3 #[.agg #[.int .i64 u, .slice A ds.length c], .agg #[.string nm, .int .i64 kd, .int .i64 f0, .int .i64 f1]] w fun e w' => e = .returned (.bool true) ∧ Below w.heap.size w w' := by
  have hz := fun (W : World) (hW : Items W w.heap.size A ds) (hBW : w.heap.size ≤ W.heap.size) => szLayout_fit A c ds w.heap.size u 1048576 W hW hBW (by omega) (by omega)
  obtain ⟨q, hq⟩ : ∃ q, 1048576 - ds.length - itSize ds = q := ⟨_, rfl⟩
  have hqi : (((1048576 : Nat) : Int) - ds.length - itSize ds) = (q : Int) := by omega
  rw [hqi] at hz
  have hzi := fun (W : World) => szItem_any nm kd f0 f1 q W (by omega) (by omega) (by omega)
  rw [if_neg (by omega)] at hzi
  obtain ⟨r, hr⟩ : ∃ r : Int, (q : Int) - nm.size = r := ⟨_, rfl⟩
  have hr0 : ¬ r < 0 := by omega
  rw [hr] at hzi
  have hl : ds.length ≤ 1048576 := by omega
  have ht := fun (W : World) (hW : Items W w.heap.size A ds) (hBW : w.heap.size ≤ W.heap.size) => toLayout_any A c ds w.heap.size u W hW hBW hl
  have hti := fun (W : World) => toItem_any nm kd f0 f1 W
  have he := fun (W : World) (g g' : Nat) (hW : IRow W g ds []) (hW' : IRow W g' ds []) => eqLayout_same (some ⟨g, 0, none⟩) (some ⟨g', 0, none⟩) ds.length ds.length u ds (g + 1) (g' + 1) W hW.items hW'.items hW.lt hW'.lt hl
  have hm : ∀ (W : World) (g : Nat), IRow W g ds [] → Calls Try.prog 12 #[.agg #[.int .i64 u, .slice (some ⟨g, 0, none⟩) ds.length ds.length], .int .i64 1] W fun e w' => e = .returned (.int .i64 ((1 + ds.length * 4 : Nat) : Int)) ∧ W.grownBy w' (some g) ∧ IRow w' g (mitems 1 ds.length) [] := fun W g hW => by
    have := markLayout_any g ds.length u ds [] 1 W hW (by omega) (by omega) hl
    simpa using this
  unfold GivesLay at ht
  unfold GivesNoLay at hs hi
  have hey := fun (W : World) => eqLayout_same none none 0 0 0 [] 0 0 W Items.nil Items.nil (Nat.zero_le _) (Nat.zero_le _) (by decide)
  have HEY := Lib.hid hey
  have HMK := Lib.hid (fun W => markLayout_nil none 0 0 1 W)
  have HHL := Lib.hid (fun W => heldLayout_nil none 0 0 1 W (by decide))
  simp only [List.length_nil] at HEY
  clear hey
  have H := Lib.hid h
  have HZ := Lib.hid hz
  have HZI := Lib.hid hzi
  have HT := Lib.hid ht
  have HTI := Lib.hid hti
  have HE := Lib.hid he
  have HM := Lib.hid hm
  have HS := Lib.hid hs
  have HI := Lib.hid hi
  have hq0 : ¬ (q : Int) < 0 := by omega
  obtain ⟨m, hm1⟩ : ∃ m, 1 + ds.length * 4 = m := ⟨_, rfl⟩
  rw [hm1] at HM
  have hm0 : ¬ (m : Int) < 0 := by omega
  obtain ⟨n, hN⟩ : ∃ n, ds.length = n := ⟨_, rfl⟩
  rw [hN] at HZ HT HE HS HI HM ⊢
  clear hz hzi ht hti he hm hm1 h hfit hq hqi hl hN hs hi hr
  go_enter Try.func3, Try.ntmps3
  go_wp2_with fail
  refine (HZ.out _ ((H.out.alloc (Nat.le_refl _) _).alloc (by simp) _) (by simp; omega)).mono ?_
  rintro e w1 ⟨rfl, hb⟩
  have B_1 := Lib.hid (below_step ((below_box w _).alloc (by simp) _) hb)
  have ca_1 := cell_kept (p := ⟨w.heap.size, 0, none⟩) (v := .int .i64 u) (by simp [go_sem]) hb
  have cb_1 := cell_kept (p := ⟨w.heap.size, 1, none⟩) (v := .slice A n c) (by simp [go_sem]) hb
  have da_1 := cell_kept (p := ⟨w.heap.size + 1, 0, none⟩) (v := .string nm) (by simp [go_sem]) hb
  have db_1 := cell_kept (p := ⟨w.heap.size + 1, 1, none⟩) (v := .int .i64 kd) (by simp [go_sem]) hb
  have dc_1 := cell_kept (p := ⟨w.heap.size + 1, 2, none⟩) (v := .int .i64 f0) (by simp [go_sem]) hb
  have dd_1 := cell_kept (p := ⟨w.heap.size + 1, 3, none⟩) (v := .int .i64 f1) (by simp [go_sem]) hb
  clear hb
  go_wp2_with fail
  refine (HZI.out _).mono ?_
  rintro e w2 ⟨rfl, hb⟩
  have B_2 := Lib.hid (below_step B_1.out hb)
  have ca_2 := cell_kept ca_1 hb
  have cb_2 := cell_kept cb_1 hb
  have da_2 := cell_kept da_1 hb
  have db_2 := cell_kept db_1 hb
  have dc_2 := cell_kept dc_1 hb
  have dd_2 := cell_kept dd_1 hb
  clear hb ca_1 cb_1 da_1 db_1 dc_1 dd_1 B_1
  go_upto_region 8 with fail
  go_cut [6, 7] (fun s6 s7 wx => BoxedNoLay w2 a s6 s7 wx)
  case first =>
    have K0 := Lib.hid (l_below_drew (Below.refl w2.heap.size w2))
    go_region_held3 (fun W => W.cell? ⟨w.heap.size, 0, none⟩ = some (.int .i64 u) ∧ W.cell? ⟨w.heap.size, 1, none⟩ = some (.slice A n c) ∧ W.cell? ⟨w.heap.size + 1, 0, none⟩ = some (.string nm) ∧ W.cell? ⟨w.heap.size + 1, 1, none⟩ = some (.int .i64 kd) ∧ W.cell? ⟨w.heap.size + 1, 2, none⟩ = some (.int .i64 f0) ∧ W.cell? ⟨w.heap.size + 1, 3, none⟩ = some (.int .i64 f1))
      (first | exact ⟨ca_2, cb_2, da_2, db_2, dc_2, dd_2⟩ | exact ⟨cell_kept ca_2 K0.out, cell_kept cb_2 K0.out, cell_kept da_2 K0.out, cell_kept db_2 K0.out, cell_kept dc_2 K0.out, cell_kept dd_2 K0.out⟩ | exact ⟨cell_kept ca_2 (l_below_boxed K0.out _), cell_kept cb_2 (l_below_boxed K0.out _), cell_kept da_2 (l_below_boxed K0.out _), cell_kept db_2 (l_below_boxed K0.out _), cell_kept dc_2 (l_below_boxed K0.out _), cell_kept dd_2 (l_below_boxed K0.out _)⟩ | exact ⟨cell_kept ca_2 K1.out, cell_kept cb_2 K1.out, cell_kept da_2 K1.out, cell_kept db_2 K1.out, cell_kept dc_2 K1.out, cell_kept dd_2 K1.out⟩ | exact ⟨cell_kept ca_2 (l_below_boxed K1.out _), cell_kept cb_2 (l_below_boxed K1.out _), cell_kept da_2 (l_below_boxed K1.out _), cell_kept db_2 (l_below_boxed K1.out _), cell_kept dc_2 (l_below_boxed K1.out _), cell_kept dd_2 (l_below_boxed K1.out _)⟩ | exact ⟨cell_kept ca_2 K2.out, cell_kept cb_2 K2.out, cell_kept da_2 K2.out, cell_kept db_2 K2.out, cell_kept dc_2 K2.out, cell_kept dd_2 K2.out⟩ | exact ⟨cell_kept ca_2 (l_below_boxed K2.out _), cell_kept cb_2 (l_below_boxed K2.out _), cell_kept da_2 (l_below_boxed K2.out _), cell_kept db_2 (l_below_boxed K2.out _), cell_kept dc_2 (l_below_boxed K2.out _), cell_kept dd_2 (l_below_boxed K2.out _)⟩ | exact ⟨cell_kept ca_2 K3.out, cell_kept cb_2 K3.out, cell_kept da_2 K3.out, cell_kept db_2 K3.out, cell_kept dc_2 K3.out, cell_kept dd_2 K3.out⟩ | exact ⟨cell_kept ca_2 (l_below_boxed K3.out _), cell_kept cb_2 (l_below_boxed K3.out _), cell_kept da_2 (l_below_boxed K3.out _), cell_kept db_2 (l_below_boxed K3.out _), cell_kept dc_2 (l_below_boxed K3.out _), cell_kept dd_2 (l_below_boxed K3.out _)⟩ | exact ⟨cell_kept ca_2 (l_below_stored K3.out (Nat.le_refl _)), cell_kept cb_2 (l_below_stored K3.out (Nat.le_refl _)), cell_kept da_2 (l_below_stored K3.out (Nat.le_refl _)), cell_kept db_2 (l_below_stored K3.out (Nat.le_refl _)), cell_kept dc_2 (l_below_stored K3.out (Nat.le_refl _)), cell_kept dd_2 (l_below_stored K3.out (Nat.le_refl _))⟩ | exact ⟨cell_kept ca_2 (l_below_stored K3.out K1.out.size), cell_kept cb_2 (l_below_stored K3.out K1.out.size), cell_kept da_2 (l_below_stored K3.out K1.out.size), cell_kept db_2 (l_below_stored K3.out K1.out.size), cell_kept dc_2 (l_below_stored K3.out K1.out.size), cell_kept dd_2 (l_below_stored K3.out K1.out.size)⟩ | exact ⟨cell_kept ca_2 (l_below_stored K3.out K2.out.size), cell_kept cb_2 (l_below_stored K3.out K2.out.size), cell_kept da_2 (l_below_stored K3.out K2.out.size), cell_kept db_2 (l_below_stored K3.out K2.out.size), cell_kept dc_2 (l_below_stored K3.out K2.out.size), cell_kept dd_2 (l_below_stored K3.out K2.out.size)⟩ | go_keep)
      (first
        | (go_at_call 8
           refine (HT.out _ ?_ ?_).mono ?_
           · first | exact H.out.below B_2.out.drew | exact H.out.below (l_below_boxed B_2.out.drew _)
           · first | exact B_2.out.drew.size | exact (l_below_boxed B_2.out.drew _).size
           rintro e w2_1 ⟨ga, rfl, hg, hb, hrow⟩
           have K1 : Hid (Below w2.heap.size w2 w2_1) := by first | exact below_step K0.out hb | exact below_step (l_below_boxed K0.out _) hb
           have Ia_r1 := Lib.hid hrow
           have hg1 := Lib.hid hg
           try (have Q0_1 : Hid (LBox w2_1 w2.heap.size) := lbox_kept (w := w2.drew.alloc (.cells #[.int .i64 0, .slice none 0 0] 33)) (lbox_new w2.drew) hb)
           clear hb hrow hg)
        | (go_at_call 9
           refine (HTI.out _).mono ?_
           rintro e w2_2 ⟨rfl, hb⟩
           have K2 : Hid (Below w2.heap.size w2 w2_2) := by first | exact below_step K1.out hb | exact below_step (l_below_boxed K1.out _) hb
           have Ia_r2 := Lib.hid (IRow.later (by first | exact Ia_r1.out | exact Ia_r1.out.alloc _) hb)
           try (have Q0_2 := Lib.hid (lbox_kept Q0_1.out hb))
           try (have Q1_2 : Hid (LBox w2_2 w2_1.heap.size) := lbox_kept (lbox_new w2_1) hb)
           clear hb)
        | (go_at_call 7
           refine (HS.out _ ga ?_).mono ?_
           · first | exact Ia_r2.out | exact Ia_r2.out.alloc _
           rintro e w2_3 ⟨rfl, hb⟩
           have K3 : Hid (Below w2.heap.size w2 w2_3) := by first | exact below_step K2.out hb | exact below_step (l_below_boxed K2.out _) hb
           try (have Q0_3 := Lib.hid (lbox_kept Q0_2.out hb))
           try (have Q1_3 := Lib.hid (lbox_kept Q1_2.out hb))
           try (have Q2_3 : Hid (LBox w2_3 w2_2.heap.size) := lbox_kept (lbox_new w2_2) hb)
           try (have x0_0 := lbox_0 Q0_3.out)
           try (have x0_1 := lbox_1 Q0_3.out)
           try (have x0_f := lbox_f Q0_3.out)
           try (have x1_0 := lbox_0 Q1_3.out)
           try (have x1_1 := lbox_1 Q1_3.out)
           try (have x1_f := lbox_f Q1_3.out)
           try (have x2_0 := lbox_0 Q2_3.out)
           try (have x2_1 := lbox_1 Q2_3.out)
           try (have x2_f := lbox_f Q2_3.out)
           clear hb))
    all_goals (go_wp2_with fail; go_meet; first | exact boxedNoLay_early K3.out (Nat.le_refl _) Q0_3.out | exact boxedNoLay_early K3.out K1.out.size Q1_3.out | exact boxedNoLay_early K3.out K2.out.size Q2_3.out | exact boxedNoLay_last K3.out)
  case rest =>
    obtain ⟨bwa, rfl, rfl, hb, hbb, hcell, hcell1⟩ := hcut
    rename World => w3
    have B_3 := Lib.hid (below_step B_2.out hb)
    have ca_3 := cell_kept ca_2 hb
    have cb_3 := cell_kept cb_2 hb
    have da_3 := cell_kept da_2 hb
    have db_3 := cell_kept db_2 hb
    have dc_3 := cell_kept dc_2 hb
    have dd_3 := cell_kept dd_2 hb
    have wa_3 := hcell
    have wb_3 := hcell1
    clear hb hbb hcell hcell1 ca_2 cb_2 da_2 db_2 dc_2 dd_2 B_2
    go_wp2_with fail
    refine (HT.out _ (H.out.below B_3.out) B_3.out.size).mono ?_
    rintro e w4 ⟨gx, rfl, hg, hb, hrow⟩
    have L_ca_Ix : Hid (w.heap.size < gx) := Nat.lt_of_lt_of_le (World.block_lt_of_cell? _ _ ca_3) hg
    have L_cb_Ix : Hid (w.heap.size < gx) := Nat.lt_of_lt_of_le (World.block_lt_of_cell? _ _ cb_3) hg
    have L_da_Ix : Hid (w.heap.size + 1 < gx) := Nat.lt_of_lt_of_le (World.block_lt_of_cell? _ _ da_3) hg
    have L_db_Ix : Hid (w.heap.size + 1 < gx) := Nat.lt_of_lt_of_le (World.block_lt_of_cell? _ _ db_3) hg
    have L_dc_Ix : Hid (w.heap.size + 1 < gx) := Nat.lt_of_lt_of_le (World.block_lt_of_cell? _ _ dc_3) hg
    have L_dd_Ix : Hid (w.heap.size + 1 < gx) := Nat.lt_of_lt_of_le (World.block_lt_of_cell? _ _ dd_3) hg
    have L_wa_Ix : Hid (bwa < gx) := Nat.lt_of_lt_of_le (World.block_lt_of_cell? _ _ wa_3) hg
    have L_wb_Ix : Hid (bwa < gx) := Nat.lt_of_lt_of_le (World.block_lt_of_cell? _ _ wb_3) hg
    have G_Ix := Lib.hid (Nat.le_trans B_3.out.size hg)
    have B_4 := Lib.hid (below_step B_3.out hb)
    have ca_4 := cell_kept ca_3 hb
    have cb_4 := cell_kept cb_3 hb
    have da_4 := cell_kept da_3 hb
    have db_4 := cell_kept db_3 hb
    have dc_4 := cell_kept dc_3 hb
    have dd_4 := cell_kept dd_3 hb
    have wa_4 := cell_kept wa_3 hb
    have wb_4 := cell_kept wb_3 hb
    have Ix_4 := Lib.hid hrow
    clear hb hrow hg ca_3 cb_3 da_3 db_3 dc_3 dd_3 wa_3 wb_3 B_3
    have L_Ix_cx : Hid (gx < w4.heap.size) := Nat.lt_of_lt_of_le (Ix_4.out.lt) (Nat.le_refl _)
    have L_Ix_cy : Hid (gx < w4.heap.size) := Nat.lt_of_lt_of_le (Ix_4.out.lt) (Nat.le_refl _)
    have hb := below_box w4 (.cells #[.int .i64 u, .slice (some ⟨gx, 0, none⟩) n n] 33)
    have B_5 := Lib.hid (below_step B_4.out hb)
    have ca_5 := cell_kept ca_4 hb
    have cb_5 := cell_kept cb_4 hb
    have da_5 := cell_kept da_4 hb
    have db_5 := cell_kept db_4 hb
    have dc_5 := cell_kept dc_4 hb
    have dd_5 := cell_kept dd_4 hb
    have wa_5 := cell_kept wa_4 hb
    have wb_5 := cell_kept wb_4 hb
    have Ix_5 := Lib.hid (Ix_4.out.later hb)
    have cx_5 : (w4.alloc (.cells #[.int .i64 u, .slice (some ⟨gx, 0, none⟩) n n] 33)).cell? ⟨w4.heap.size, 0, none⟩ = some (.int .i64 u) := by simp [go_sem]
    have cy_5 : (w4.alloc (.cells #[.int .i64 u, .slice (some ⟨gx, 0, none⟩) n n] 33)).cell? ⟨w4.heap.size, 1, none⟩ = some (.slice (some ⟨gx, 0, none⟩) n n) := by simp [go_sem]
    clear hb ca_4 cb_4 da_4 db_4 dc_4 dd_4 wa_4 wb_4 Ix_4 B_4
    go_upto_region 10 with fail
    generalize (w4.alloc (.cells #[.int .i64 u, .slice (some ⟨gx, 0, none⟩) n n] 33)) = v5 at *
    go_cut [9, 10] (fun s6 s7 wx => BoxedNoLay v5 a s6 s7 wx)
    case first =>
      have K0 := Lib.hid (l_below_drew (Below.refl v5.heap.size v5))
      go_region_held3 (fun W => W.cell? ⟨w4.heap.size, 0, none⟩ = some (.int .i64 u) ∧ W.cell? ⟨w4.heap.size, 1, none⟩ = some (.slice (some ⟨gx, 0, none⟩) n n) ∧ W.cell? ⟨w.heap.size + 1, 0, none⟩ = some (.string nm) ∧ W.cell? ⟨w.heap.size + 1, 1, none⟩ = some (.int .i64 kd) ∧ W.cell? ⟨w.heap.size + 1, 2, none⟩ = some (.int .i64 f0) ∧ W.cell? ⟨w.heap.size + 1, 3, none⟩ = some (.int .i64 f1))
        (first | exact ⟨cx_5, cy_5, da_5, db_5, dc_5, dd_5⟩ | exact ⟨cell_kept cx_5 K0.out, cell_kept cy_5 K0.out, cell_kept da_5 K0.out, cell_kept db_5 K0.out, cell_kept dc_5 K0.out, cell_kept dd_5 K0.out⟩ | exact ⟨cell_kept cx_5 (l_below_boxed K0.out _), cell_kept cy_5 (l_below_boxed K0.out _), cell_kept da_5 (l_below_boxed K0.out _), cell_kept db_5 (l_below_boxed K0.out _), cell_kept dc_5 (l_below_boxed K0.out _), cell_kept dd_5 (l_below_boxed K0.out _)⟩ | exact ⟨cell_kept cx_5 K1.out, cell_kept cy_5 K1.out, cell_kept da_5 K1.out, cell_kept db_5 K1.out, cell_kept dc_5 K1.out, cell_kept dd_5 K1.out⟩ | exact ⟨cell_kept cx_5 (l_below_boxed K1.out _), cell_kept cy_5 (l_below_boxed K1.out _), cell_kept da_5 (l_below_boxed K1.out _), cell_kept db_5 (l_below_boxed K1.out _), cell_kept dc_5 (l_below_boxed K1.out _), cell_kept dd_5 (l_below_boxed K1.out _)⟩ | exact ⟨cell_kept cx_5 K2.out, cell_kept cy_5 K2.out, cell_kept da_5 K2.out, cell_kept db_5 K2.out, cell_kept dc_5 K2.out, cell_kept dd_5 K2.out⟩ | exact ⟨cell_kept cx_5 (l_below_boxed K2.out _), cell_kept cy_5 (l_below_boxed K2.out _), cell_kept da_5 (l_below_boxed K2.out _), cell_kept db_5 (l_below_boxed K2.out _), cell_kept dc_5 (l_below_boxed K2.out _), cell_kept dd_5 (l_below_boxed K2.out _)⟩ | exact ⟨cell_kept cx_5 (l_below_stored K2.out (Nat.le_refl _)), cell_kept cy_5 (l_below_stored K2.out (Nat.le_refl _)), cell_kept da_5 (l_below_stored K2.out (Nat.le_refl _)), cell_kept db_5 (l_below_stored K2.out (Nat.le_refl _)), cell_kept dc_5 (l_below_stored K2.out (Nat.le_refl _)), cell_kept dd_5 (l_below_stored K2.out (Nat.le_refl _))⟩ | exact ⟨cell_kept cx_5 (l_below_stored K2.out K1.out.size), cell_kept cy_5 (l_below_stored K2.out K1.out.size), cell_kept da_5 (l_below_stored K2.out K1.out.size), cell_kept db_5 (l_below_stored K2.out K1.out.size), cell_kept dc_5 (l_below_stored K2.out K1.out.size), cell_kept dd_5 (l_below_stored K2.out K1.out.size)⟩ | go_keep)
        (first
          | (go_at_call 9
             refine (HTI.out _).mono ?_
             rintro e w5_1 ⟨rfl, hb⟩
             have K1 : Hid (Below v5.heap.size v5 w5_1) := by first | exact below_step K0.out hb | exact below_step (l_below_boxed K0.out _) hb
             have Ix_r1 := Lib.hid (IRow.later (by first | exact Ix_5.out.drew | exact Ix_5.out.drew.alloc _) hb)
             try (have Q0_1 : Hid (LBox w5_1 v5.heap.size) := lbox_kept (w := v5.drew.alloc (.cells #[.int .i64 0, .slice none 0 0] 33)) (lbox_new v5.drew) hb)
             clear hb)
          | (go_at_call 10
             refine (HI.out _ gx ?_).mono ?_
             · first | exact Ix_r1.out | exact Ix_r1.out.alloc _
             rintro e w5_2 ⟨rfl, hb⟩
             have K2 : Hid (Below v5.heap.size v5 w5_2) := by first | exact below_step K1.out hb | exact below_step (l_below_boxed K1.out _) hb
             try (have Q0_2 := Lib.hid (lbox_kept Q0_1.out hb))
             try (have Q1_2 : Hid (LBox w5_2 w5_1.heap.size) := lbox_kept (lbox_new w5_1) hb)
             try (have x0_0 := lbox_0 Q0_2.out)
             try (have x0_1 := lbox_1 Q0_2.out)
             try (have x0_f := lbox_f Q0_2.out)
             try (have x1_0 := lbox_0 Q1_2.out)
             try (have x1_1 := lbox_1 Q1_2.out)
             try (have x1_f := lbox_f Q1_2.out)
             clear hb))
      all_goals (go_wp2_with fail; go_meet; first | exact boxedNoLay_early K2.out (Nat.le_refl _) Q0_2.out | exact boxedNoLay_early K2.out K1.out.size Q1_2.out | exact boxedNoLay_last K2.out)
    case rest =>
      obtain ⟨bga_, rfl, rfl, hb, hbb, hcell, hcell1⟩ := hcut
      rename World => w6
      have L_Ix_ga_ : Hid (gx < bga_) := Nat.lt_of_lt_of_le (Ix_5.out.lt) hbb
      have L_Ix_gb_ : Hid (gx < bga_) := Nat.lt_of_lt_of_le (Ix_5.out.lt) hbb
      have B_6 := Lib.hid (below_step B_5.out hb)
      have ca_6 := cell_kept ca_5 hb
      have cb_6 := cell_kept cb_5 hb
      have da_6 := cell_kept da_5 hb
      have db_6 := cell_kept db_5 hb
      have dc_6 := cell_kept dc_5 hb
      have dd_6 := cell_kept dd_5 hb
      have wa_6 := cell_kept wa_5 hb
      have wb_6 := cell_kept wb_5 hb
      have cx_6 := cell_kept cx_5 hb
      have cy_6 := cell_kept cy_5 hb
      have Ix_6 := Lib.hid (Ix_5.out.later hb)
      have ga__6 := hcell
      have gb__6 := hcell1
      clear hb hbb hcell hcell1 ca_5 cb_5 da_5 db_5 dc_5 dd_5 wa_5 wb_5 cx_5 cy_5 Ix_5 B_5
      go_wp2_with fail
      refine (HEY.out _).mono ?_
      rintro e w7 ⟨rfl, hb⟩
      have B_7 := Lib.hid (below_step B_6.out hb)
      have ca_7 := cell_kept ca_6 hb
      have cb_7 := cell_kept cb_6 hb
      have da_7 := cell_kept da_6 hb
      have db_7 := cell_kept db_6 hb
      have dc_7 := cell_kept dc_6 hb
      have dd_7 := cell_kept dd_6 hb
      have wa_7 := cell_kept wa_6 hb
      have wb_7 := cell_kept wb_6 hb
      have cx_7 := cell_kept cx_6 hb
      have cy_7 := cell_kept cy_6 hb
      have ga__7 := cell_kept ga__6 hb
      have gb__7 := cell_kept gb__6 hb
      have Ix_7 := Lib.hid (Ix_6.out.later hb)
      clear hb ca_6 cb_6 da_6 db_6 dc_6 dd_6 wa_6 wb_6 cx_6 cy_6 ga__6 gb__6 Ix_6 B_6
      go_wp2
      go_region_held3 (fun W => W.cell? ⟨w.heap.size, 0, none⟩ = some (.int .i64 u) ∧ W.cell? ⟨w.heap.size, 1, none⟩ = some (.slice A n c) ∧ W.cell? ⟨w4.heap.size, 0, none⟩ = some (.int .i64 u) ∧ W.cell? ⟨w4.heap.size, 1, none⟩ = some (.slice (some ⟨gx, 0, none⟩) n n))
        (first | exact ⟨ca_7, cb_7, cx_7, cy_7⟩ | exact ⟨ca_8, cb_8, cx_8, cy_8⟩ | exact ⟨ca_9, cb_9, cx_9, cy_9⟩)
        (first
          | (go_at_call 8
             refine (HT.out _ ?_ ?_).mono ?_
             · exact H.out.below B_7.out.drew
             · exact B_7.out.drew.size
             rintro e w8 ⟨ge, rfl, hg, hb, hrow⟩
             have L_Ix_Ie : Hid (gx < ge) := Nat.lt_of_lt_of_le (Ix_7.out.lt) hg
             have B_8 := Lib.hid (below_step B_7.out.drew hb)
             have ca_8 := cell_kept (w := w7.drew) ca_7 hb
             have cb_8 := cell_kept (w := w7.drew) cb_7 hb
             have da_8 := cell_kept (w := w7.drew) da_7 hb
             have db_8 := cell_kept (w := w7.drew) db_7 hb
             have dc_8 := cell_kept (w := w7.drew) dc_7 hb
             have dd_8 := cell_kept (w := w7.drew) dd_7 hb
             have wa_8 := cell_kept (w := w7.drew) wa_7 hb
             have wb_8 := cell_kept (w := w7.drew) wb_7 hb
             have cx_8 := cell_kept (w := w7.drew) cx_7 hb
             have cy_8 := cell_kept (w := w7.drew) cy_7 hb
             have ga__8 := cell_kept (w := w7.drew) ga__7 hb
             have gb__8 := cell_kept (w := w7.drew) gb__7 hb
             have Ix_8 := Lib.hid (Ix_7.out.drew.later hb)
             have Ie_8 := Lib.hid hrow
             clear hb hrow hg)
          | (go_at_call 11
             refine (HE.out _ gx ge ?_ ?_).mono ?_
             · exact Ix_8.out
             · exact Ie_8.out
             rintro e w9 ⟨rfl, hb⟩
             have B_9 := Lib.hid (below_step B_8.out hb)
             have ca_9 := cell_kept ca_8 hb
             have cb_9 := cell_kept cb_8 hb
             have da_9 := cell_kept da_8 hb
             have db_9 := cell_kept db_8 hb
             have dc_9 := cell_kept dc_8 hb
             have dd_9 := cell_kept dd_8 hb
             have wa_9 := cell_kept wa_8 hb
             have wb_9 := cell_kept wb_8 hb
             have cx_9 := cell_kept cx_8 hb
             have cy_9 := cell_kept cy_8 hb
             have ga__9 := cell_kept ga__8 hb
             have gb__9 := cell_kept gb__8 hb
             have Ix_9 := Lib.hid (Ix_8.out.later hb)
             have Ie_9 := Lib.hid (Ie_8.out.later hb)
             clear hb))
      clear ca_7 cb_7 da_7 db_7 dc_7 dd_7 wa_7 wb_7 cx_7 cy_7 ga__7 gb__7 Ix_7 B_7 ca_8 cb_8 da_8 db_8 dc_8 dd_8 wa_8 wb_8 cx_8 cy_8 ga__8 gb__8 Ix_8 Ie_8 B_8
      clear Ie_9
      go_wp2_with fail
      refine (HM.out _ gx Ix_9.out).mono ?_
      rintro e w10 ⟨rfl, hg, hrow⟩
      have B_10 := Lib.hid (below_only B_9.out hg G_Ix.out)
      have ca_10 := cell_only hg ca_9 (Nat.ne_of_lt L_ca_Ix.out)
      have cb_10 := cell_only hg cb_9 (Nat.ne_of_lt L_cb_Ix.out)
      have da_10 := cell_only hg da_9 (Nat.ne_of_lt L_da_Ix.out)
      have db_10 := cell_only hg db_9 (Nat.ne_of_lt L_db_Ix.out)
      have dc_10 := cell_only hg dc_9 (Nat.ne_of_lt L_dc_Ix.out)
      have dd_10 := cell_only hg dd_9 (Nat.ne_of_lt L_dd_Ix.out)
      have wa_10 := cell_only hg wa_9 (Nat.ne_of_lt L_wa_Ix.out)
      have wb_10 := cell_only hg wb_9 (Nat.ne_of_lt L_wb_Ix.out)
      have cx_10 := cell_only hg cx_9 (Nat.ne_of_gt L_Ix_cx.out)
      have cy_10 := cell_only hg cy_9 (Nat.ne_of_gt L_Ix_cy.out)
      have ga__10 := cell_only hg ga__9 (Nat.ne_of_gt L_Ix_ga_.out)
      have gb__10 := cell_only hg gb__9 (Nat.ne_of_gt L_Ix_gb_.out)
      have Ix_10 := Lib.hid hrow
      clear hg hrow B_9 ca_9 cb_9 da_9 db_9 dc_9 dd_9 wa_9 wb_9 cx_9 cy_9 ga__9 gb__9 Ix_9
      clear Ix_10
      clear cx_10
      clear cy_10
      go_wp2_with fail
      refine (HEY.out _).mono ?_
      rintro e w11 ⟨rfl, hb⟩
      have B_11 := Lib.hid (below_step B_10.out hb)
      have ca_11 := cell_kept ca_10 hb
      have cb_11 := cell_kept cb_10 hb
      have da_11 := cell_kept da_10 hb
      have db_11 := cell_kept db_10 hb
      have dc_11 := cell_kept dc_10 hb
      have dd_11 := cell_kept dd_10 hb
      have wa_11 := cell_kept wa_10 hb
      have wb_11 := cell_kept wb_10 hb
      have ga__11 := cell_kept ga__10 hb
      have gb__11 := cell_kept gb__10 hb
      clear hb ca_10 cb_10 da_10 db_10 dc_10 dd_10 wa_10 wb_10 ga__10 gb__10 B_10
      go_wp2_with fail
      refine (HMK.out _).mono ?_
      rintro e w12 ⟨rfl, hb⟩
      have B_12 := Lib.hid (below_step B_11.out hb)
      have ca_12 := cell_kept ca_11 hb
      have cb_12 := cell_kept cb_11 hb
      have da_12 := cell_kept da_11 hb
      have db_12 := cell_kept db_11 hb
      have dc_12 := cell_kept dc_11 hb
      have dd_12 := cell_kept dd_11 hb
      have wa_12 := cell_kept wa_11 hb
      have wb_12 := cell_kept wb_11 hb
      have ga__12 := cell_kept ga__11 hb
      have gb__12 := cell_kept gb__11 hb
      clear hb ca_11 cb_11 da_11 db_11 dc_11 dd_11 wa_11 wb_11 ga__11 gb__11 B_11
      go_wp2_with fail
      refine (HHL.out _).mono ?_
      rintro e w13 ⟨rfl, hb⟩
      have B_13 := Lib.hid (below_step B_12.out hb)
      have ca_13 := cell_kept ca_12 hb
      have cb_13 := cell_kept cb_12 hb
      have da_13 := cell_kept da_12 hb
      have db_13 := cell_kept db_12 hb
      have dc_13 := cell_kept dc_12 hb
      have dd_13 := cell_kept dd_12 hb
      have wa_13 := cell_kept wa_12 hb
      have wb_13 := cell_kept wb_12 hb
      have ga__13 := cell_kept ga__12 hb
      have gb__13 := cell_kept gb__12 hb
      clear hb ca_12 cb_12 da_12 db_12 dc_12 dd_12 wa_12 wb_12 ga__12 gb__12 B_12
      go_upto_region 27 with fail
      go_cut [14, 15] (fun s6 s7 wx => BoxedNoLay w13 a s6 s7 wx)
      case first =>
        have K0 := Lib.hid (l_below_drew (Below.refl w13.heap.size w13))
        go_region_held3 (fun W => W.cell? ⟨w.heap.size, 0, none⟩ = some (.int .i64 u) ∧ W.cell? ⟨w.heap.size, 1, none⟩ = some (.slice A n c) ∧ W.cell? ⟨w.heap.size + 1, 0, none⟩ = some (.string nm) ∧ W.cell? ⟨w.heap.size + 1, 1, none⟩ = some (.int .i64 kd) ∧ W.cell? ⟨w.heap.size + 1, 2, none⟩ = some (.int .i64 f0) ∧ W.cell? ⟨w.heap.size + 1, 3, none⟩ = some (.int .i64 f1))
          (first | exact ⟨ca_13, cb_13, da_13, db_13, dc_13, dd_13⟩ | exact ⟨cell_kept ca_13 K0.out, cell_kept cb_13 K0.out, cell_kept da_13 K0.out, cell_kept db_13 K0.out, cell_kept dc_13 K0.out, cell_kept dd_13 K0.out⟩ | exact ⟨cell_kept ca_13 (l_below_boxed K0.out _), cell_kept cb_13 (l_below_boxed K0.out _), cell_kept da_13 (l_below_boxed K0.out _), cell_kept db_13 (l_below_boxed K0.out _), cell_kept dc_13 (l_below_boxed K0.out _), cell_kept dd_13 (l_below_boxed K0.out _)⟩ | exact ⟨cell_kept ca_13 K1.out, cell_kept cb_13 K1.out, cell_kept da_13 K1.out, cell_kept db_13 K1.out, cell_kept dc_13 K1.out, cell_kept dd_13 K1.out⟩ | exact ⟨cell_kept ca_13 (l_below_boxed K1.out _), cell_kept cb_13 (l_below_boxed K1.out _), cell_kept da_13 (l_below_boxed K1.out _), cell_kept db_13 (l_below_boxed K1.out _), cell_kept dc_13 (l_below_boxed K1.out _), cell_kept dd_13 (l_below_boxed K1.out _)⟩ | exact ⟨cell_kept ca_13 K2.out, cell_kept cb_13 K2.out, cell_kept da_13 K2.out, cell_kept db_13 K2.out, cell_kept dc_13 K2.out, cell_kept dd_13 K2.out⟩ | exact ⟨cell_kept ca_13 (l_below_boxed K2.out _), cell_kept cb_13 (l_below_boxed K2.out _), cell_kept da_13 (l_below_boxed K2.out _), cell_kept db_13 (l_below_boxed K2.out _), cell_kept dc_13 (l_below_boxed K2.out _), cell_kept dd_13 (l_below_boxed K2.out _)⟩ | exact ⟨cell_kept ca_13 K3.out, cell_kept cb_13 K3.out, cell_kept da_13 K3.out, cell_kept db_13 K3.out, cell_kept dc_13 K3.out, cell_kept dd_13 K3.out⟩ | exact ⟨cell_kept ca_13 (l_below_boxed K3.out _), cell_kept cb_13 (l_below_boxed K3.out _), cell_kept da_13 (l_below_boxed K3.out _), cell_kept db_13 (l_below_boxed K3.out _), cell_kept dc_13 (l_below_boxed K3.out _), cell_kept dd_13 (l_below_boxed K3.out _)⟩ | exact ⟨cell_kept ca_13 (l_below_stored K3.out (Nat.le_refl _)), cell_kept cb_13 (l_below_stored K3.out (Nat.le_refl _)), cell_kept da_13 (l_below_stored K3.out (Nat.le_refl _)), cell_kept db_13 (l_below_stored K3.out (Nat.le_refl _)), cell_kept dc_13 (l_below_stored K3.out (Nat.le_refl _)), cell_kept dd_13 (l_below_stored K3.out (Nat.le_refl _))⟩ | exact ⟨cell_kept ca_13 (l_below_stored K3.out K1.out.size), cell_kept cb_13 (l_below_stored K3.out K1.out.size), cell_kept da_13 (l_below_stored K3.out K1.out.size), cell_kept db_13 (l_below_stored K3.out K1.out.size), cell_kept dc_13 (l_below_stored K3.out K1.out.size), cell_kept dd_13 (l_below_stored K3.out K1.out.size)⟩ | exact ⟨cell_kept ca_13 (l_below_stored K3.out K2.out.size), cell_kept cb_13 (l_below_stored K3.out K2.out.size), cell_kept da_13 (l_below_stored K3.out K2.out.size), cell_kept db_13 (l_below_stored K3.out K2.out.size), cell_kept dc_13 (l_below_stored K3.out K2.out.size), cell_kept dd_13 (l_below_stored K3.out K2.out.size)⟩ | go_keep)
          (first
            | (go_at_call 8
               refine (HT.out _ ?_ ?_).mono ?_
               · first | exact H.out.below B_13.out.drew | exact H.out.below (l_below_boxed B_13.out.drew _)
               · first | exact B_13.out.drew.size | exact (l_below_boxed B_13.out.drew _).size
               rintro e w13_1 ⟨gb, rfl, hg, hb, hrow⟩
               have K1 : Hid (Below w13.heap.size w13 w13_1) := by first | exact below_step K0.out hb | exact below_step (l_below_boxed K0.out _) hb
               have Ib_r1 := Lib.hid hrow
               have hg1 := Lib.hid hg
               try (have Q0_1 : Hid (LBox w13_1 w13.heap.size) := lbox_kept (w := w13.drew.alloc (.cells #[.int .i64 0, .slice none 0 0] 33)) (lbox_new w13.drew) hb)
               clear hb hrow hg)
            | (go_at_call 9
               refine (HTI.out _).mono ?_
               rintro e w13_2 ⟨rfl, hb⟩
               have K2 : Hid (Below w13.heap.size w13 w13_2) := by first | exact below_step K1.out hb | exact below_step (l_below_boxed K1.out _) hb
               have Ib_r2 := Lib.hid (IRow.later (by first | exact Ib_r1.out | exact Ib_r1.out.alloc _) hb)
               try (have Q0_2 := Lib.hid (lbox_kept Q0_1.out hb))
               try (have Q1_2 : Hid (LBox w13_2 w13_1.heap.size) := lbox_kept (lbox_new w13_1) hb)
               clear hb)
            | (go_at_call 10
               refine (HI.out _ gb ?_).mono ?_
               · first | exact Ib_r2.out | exact Ib_r2.out.alloc _
               rintro e w13_3 ⟨rfl, hb⟩
               have K3 : Hid (Below w13.heap.size w13 w13_3) := by first | exact below_step K2.out hb | exact below_step (l_below_boxed K2.out _) hb
               try (have Q0_3 := Lib.hid (lbox_kept Q0_2.out hb))
               try (have Q1_3 := Lib.hid (lbox_kept Q1_2.out hb))
               try (have Q2_3 : Hid (LBox w13_3 w13_2.heap.size) := lbox_kept (lbox_new w13_2) hb)
               try (have x0_0 := lbox_0 Q0_3.out)
               try (have x0_1 := lbox_1 Q0_3.out)
               try (have x0_f := lbox_f Q0_3.out)
               try (have x1_0 := lbox_0 Q1_3.out)
               try (have x1_1 := lbox_1 Q1_3.out)
               try (have x1_f := lbox_f Q1_3.out)
               try (have x2_0 := lbox_0 Q2_3.out)
               try (have x2_1 := lbox_1 Q2_3.out)
               try (have x2_f := lbox_f Q2_3.out)
               clear hb))
        all_goals (go_wp2_with fail; go_meet; first | exact boxedNoLay_early K3.out (Nat.le_refl _) Q0_3.out | exact boxedNoLay_early K3.out K1.out.size Q1_3.out | exact boxedNoLay_early K3.out K2.out.size Q2_3.out | exact boxedNoLay_last K3.out)
      case rest =>
        obtain ⟨bha, rfl, rfl, hb, hbb, hcell, hcell1⟩ := hcut
        rename World => w14
        have B_14 := Lib.hid (below_step B_13.out hb)
        have ca_14 := cell_kept ca_13 hb
        have cb_14 := cell_kept cb_13 hb
        have da_14 := cell_kept da_13 hb
        have db_14 := cell_kept db_13 hb
        have dc_14 := cell_kept dc_13 hb
        have dd_14 := cell_kept dd_13 hb
        have wa_14 := cell_kept wa_13 hb
        have wb_14 := cell_kept wb_13 hb
        have ga__14 := cell_kept ga__13 hb
        have gb__14 := cell_kept gb__13 hb
        have ha_14 := hcell
        have hb__14 := hcell1
        clear hb hbb hcell hcell1 ca_13 cb_13 da_13 db_13 dc_13 dd_13 wa_13 wb_13 ga__13 gb__13 B_13
        go_wp2_with fail
        refine (HEY.out _).mono ?_
        rintro e w15 ⟨rfl, hb⟩
        have B_15 := Lib.hid (below_step B_14.out hb)
        have ca_15 := cell_kept ca_14 hb
        have cb_15 := cell_kept cb_14 hb
        have da_15 := cell_kept da_14 hb
        have db_15 := cell_kept db_14 hb
        have dc_15 := cell_kept dc_14 hb
        have dd_15 := cell_kept dd_14 hb
        have wa_15 := cell_kept wa_14 hb
        have wb_15 := cell_kept wb_14 hb
        have ga__15 := cell_kept ga__14 hb
        have gb__15 := cell_kept gb__14 hb
        have ha_15 := cell_kept ha_14 hb
        have hb__15 := cell_kept hb__14 hb
        clear hb ca_14 cb_14 da_14 db_14 dc_14 dd_14 wa_14 wb_14 ga__14 gb__14 ha_14 hb__14 B_14
        go_wp2_with fail
        refine (HHL.out _).mono ?_
        rintro e w16 ⟨rfl, hb⟩
        have B_16 := Lib.hid (below_step B_15.out hb)
        have ca_16 := cell_kept ca_15 hb
        have cb_16 := cell_kept cb_15 hb
        have da_16 := cell_kept da_15 hb
        have db_16 := cell_kept db_15 hb
        have dc_16 := cell_kept dc_15 hb
        have dd_16 := cell_kept dd_15 hb
        have wa_16 := cell_kept wa_15 hb
        have wb_16 := cell_kept wb_15 hb
        have ga__16 := cell_kept ga__15 hb
        have gb__16 := cell_kept gb__15 hb
        have ha_16 := cell_kept ha_15 hb
        have hb__16 := cell_kept hb__15 hb
        clear hb ca_15 cb_15 da_15 db_15 dc_15 dd_15 wa_15 wb_15 ga__15 gb__15 ha_15 hb__15 B_15
        go_wp2
        go_ret
        exact ⟨rfl, B_16.out⟩

set_option maxRecDepth 100000 in
set_option maxHeartbeats 8000000 in
theorem walk_some (A : Option Addr) (c : Nat) (u : Int) (ds : List It) (nm : ByteArray) (kd f0 f1 : Int) (ys : List It) (w : World) (h : Items w w.heap.size A ds) (hfit : ds.length + itSize ds + nm.size ≤ 1048576) (hy : ys.length ≤ 1048576)
    (hs : ∀ (W : World) (g : Nat), IRow W g ds [] → Calls Try.prog 7 #[.agg #[.int .i64 u, .slice (some ⟨g, 0, none⟩) ds.length ds.length], .agg #[.string nm, .int .i64 kd, .int .i64 f0, .int .i64 f1]] W (GivesNewLay u ys W))
    (hi : ∀ (W : World) (g : Nat), IRow W g ds [] → Calls Try.prog 10 #[.agg #[.int .i64 u, .slice (some ⟨g, 0, none⟩) ds.length ds.length], .agg #[.string nm, .int .i64 kd, .int .i64 f0, .int .i64 f1]] W (GivesNewLay u ys W)) :
    Calls Try.prog 3 #[.agg #[.int .i64 u, .slice A ds.length c], .agg #[.string nm, .int .i64 kd, .int .i64 f0, .int .i64 f1]] w fun e w' => e = .returned (.bool true) ∧ Below w.heap.size w w' := by
  have hz := fun (W : World) (hW : Items W w.heap.size A ds) (hBW : w.heap.size ≤ W.heap.size) => szLayout_fit A c ds w.heap.size u 1048576 W hW hBW (by omega) (by omega)
  obtain ⟨q, hq⟩ : ∃ q, 1048576 - ds.length - itSize ds = q := ⟨_, rfl⟩
  have hqi : (((1048576 : Nat) : Int) - ds.length - itSize ds) = (q : Int) := by omega
  rw [hqi] at hz
  have hzi := fun (W : World) => szItem_any nm kd f0 f1 q W (by omega) (by omega) (by omega)
  rw [if_neg (by omega)] at hzi
  obtain ⟨r, hr⟩ : ∃ r : Int, (q : Int) - nm.size = r := ⟨_, rfl⟩
  have hr0 : ¬ r < 0 := by omega
  rw [hr] at hzi
  have hl : ds.length ≤ 1048576 := by omega
  have ht := fun (W : World) (hW : Items W w.heap.size A ds) (hBW : w.heap.size ≤ W.heap.size) => toLayout_any A c ds w.heap.size u W hW hBW hl
  have hti := fun (W : World) => toItem_any nm kd f0 f1 W
  have he := fun (W : World) (g g' : Nat) (hW : IRow W g ds []) (hW' : IRow W g' ds []) => eqLayout_same (some ⟨g, 0, none⟩) (some ⟨g', 0, none⟩) ds.length ds.length u ds (g + 1) (g' + 1) W hW.items hW'.items hW.lt hW'.lt hl
  have hm : ∀ (W : World) (g : Nat), IRow W g ds [] → Calls Try.prog 12 #[.agg #[.int .i64 u, .slice (some ⟨g, 0, none⟩) ds.length ds.length], .int .i64 1] W fun e w' => e = .returned (.int .i64 ((1 + ds.length * 4 : Nat) : Int)) ∧ W.grownBy w' (some g) ∧ IRow w' g (mitems 1 ds.length) [] := fun W g hW => by
    have := markLayout_any g ds.length u ds [] 1 W hW (by omega) (by omega) hl
    simpa using this
  unfold GivesLay at ht
  unfold GivesNewLay at hs hi
  have hey := fun (W : World) (g g' c c' : Nat) ex ex' (hW : IRow W g ys ex) (hW' : IRow W g' ys ex') => eqLayout_same (some ⟨g, 0, none⟩) (some ⟨g', 0, none⟩) c c' u ys (g + 1) (g' + 1) W hW.items hW'.items hW.lt hW'.lt hy
  obtain ⟨ny, hny⟩ : ∃ ny, ys.length = ny := ⟨_, rfl⟩
  obtain ⟨my, hmy⟩ : ∃ my, 1 + ys.length * 4 = my := ⟨_, rfl⟩
  have hmk : ∀ (W : World) (g c : Nat) ex, IRow W g ys ex → Calls Try.prog 12 #[.agg #[.int .i64 u, .slice (some ⟨g, 0, none⟩) ys.length c], .int .i64 1] W fun e w' => e = .returned (.int .i64 (my : Int)) ∧ W.grownBy w' (some g) ∧ IRow w' g (mitems 1 ys.length) ex := fun W g c ex hW => by
    have := markLayout_any g c u ys ex 1 W hW (by omega) (by omega) hy
    rw [← hmy]
    simpa using this
  have hhl : ∀ (W : World) (g c : Nat) ex, IRow W g (mitems 1 ys.length) ex → Calls Try.prog 13 #[.agg #[.int .i64 u, .slice (some ⟨g, 0, none⟩) ys.length c], .int .i64 1] W fun e w' => e = .returned (.int .i64 (my : Int)) ∧ Below W.heap.size W w' := fun W g c ex hW => by
    have := heldLayout_any g c ys.length u ex 1 W hW (by omega) (by omega) hy
    rw [← hmy]
    simpa using this
  have HEY := Lib.hid hey
  have HMK := Lib.hid hmk
  have HHL := Lib.hid hhl
  have hmy0 : ¬ (my : Int) < 0 := by omega
  clear hey hmk hhl hmy hny
  have H := Lib.hid h
  have HZ := Lib.hid hz
  have HZI := Lib.hid hzi
  have HT := Lib.hid ht
  have HTI := Lib.hid hti
  have HE := Lib.hid he
  have HM := Lib.hid hm
  have HS := Lib.hid hs
  have HI := Lib.hid hi
  have hq0 : ¬ (q : Int) < 0 := by omega
  obtain ⟨m, hm1⟩ : ∃ m, 1 + ds.length * 4 = m := ⟨_, rfl⟩
  rw [hm1] at HM
  have hm0 : ¬ (m : Int) < 0 := by omega
  obtain ⟨n, hN⟩ : ∃ n, ds.length = n := ⟨_, rfl⟩
  rw [hN] at HZ HT HE HS HI HM ⊢
  clear hz hzi ht hti he hm hm1 h hfit hq hqi hl hN hs hi hr
  go_enter Try.func3, Try.ntmps3
  go_wp2_with fail
  refine (HZ.out _ ((H.out.alloc (Nat.le_refl _) _).alloc (by simp) _) (by simp; omega)).mono ?_
  rintro e w1 ⟨rfl, hb⟩
  have B_1 := Lib.hid (below_step ((below_box w _).alloc (by simp) _) hb)
  have ca_1 := cell_kept (p := ⟨w.heap.size, 0, none⟩) (v := .int .i64 u) (by simp [go_sem]) hb
  have cb_1 := cell_kept (p := ⟨w.heap.size, 1, none⟩) (v := .slice A n c) (by simp [go_sem]) hb
  have da_1 := cell_kept (p := ⟨w.heap.size + 1, 0, none⟩) (v := .string nm) (by simp [go_sem]) hb
  have db_1 := cell_kept (p := ⟨w.heap.size + 1, 1, none⟩) (v := .int .i64 kd) (by simp [go_sem]) hb
  have dc_1 := cell_kept (p := ⟨w.heap.size + 1, 2, none⟩) (v := .int .i64 f0) (by simp [go_sem]) hb
  have dd_1 := cell_kept (p := ⟨w.heap.size + 1, 3, none⟩) (v := .int .i64 f1) (by simp [go_sem]) hb
  clear hb
  go_wp2_with fail
  refine (HZI.out _).mono ?_
  rintro e w2 ⟨rfl, hb⟩
  have B_2 := Lib.hid (below_step B_1.out hb)
  have ca_2 := cell_kept ca_1 hb
  have cb_2 := cell_kept cb_1 hb
  have da_2 := cell_kept da_1 hb
  have db_2 := cell_kept db_1 hb
  have dc_2 := cell_kept dc_1 hb
  have dd_2 := cell_kept dd_1 hb
  clear hb ca_1 cb_1 da_1 db_1 dc_1 dd_1 B_1
  go_upto_region 8 with fail
  go_cut [6, 7] (fun s6 s7 wx => BoxedLay w2 u ys s6 s7 wx)
  case first =>
    have K0 := Lib.hid (l_below_drew (Below.refl w2.heap.size w2))
    go_region_held3 (fun W => W.cell? ⟨w.heap.size, 0, none⟩ = some (.int .i64 u) ∧ W.cell? ⟨w.heap.size, 1, none⟩ = some (.slice A n c) ∧ W.cell? ⟨w.heap.size + 1, 0, none⟩ = some (.string nm) ∧ W.cell? ⟨w.heap.size + 1, 1, none⟩ = some (.int .i64 kd) ∧ W.cell? ⟨w.heap.size + 1, 2, none⟩ = some (.int .i64 f0) ∧ W.cell? ⟨w.heap.size + 1, 3, none⟩ = some (.int .i64 f1))
      (first | exact ⟨ca_2, cb_2, da_2, db_2, dc_2, dd_2⟩ | exact ⟨cell_kept ca_2 K0.out, cell_kept cb_2 K0.out, cell_kept da_2 K0.out, cell_kept db_2 K0.out, cell_kept dc_2 K0.out, cell_kept dd_2 K0.out⟩ | exact ⟨cell_kept ca_2 (l_below_boxed K0.out _), cell_kept cb_2 (l_below_boxed K0.out _), cell_kept da_2 (l_below_boxed K0.out _), cell_kept db_2 (l_below_boxed K0.out _), cell_kept dc_2 (l_below_boxed K0.out _), cell_kept dd_2 (l_below_boxed K0.out _)⟩ | exact ⟨cell_kept ca_2 K1.out, cell_kept cb_2 K1.out, cell_kept da_2 K1.out, cell_kept db_2 K1.out, cell_kept dc_2 K1.out, cell_kept dd_2 K1.out⟩ | exact ⟨cell_kept ca_2 (l_below_boxed K1.out _), cell_kept cb_2 (l_below_boxed K1.out _), cell_kept da_2 (l_below_boxed K1.out _), cell_kept db_2 (l_below_boxed K1.out _), cell_kept dc_2 (l_below_boxed K1.out _), cell_kept dd_2 (l_below_boxed K1.out _)⟩ | exact ⟨cell_kept ca_2 K2.out, cell_kept cb_2 K2.out, cell_kept da_2 K2.out, cell_kept db_2 K2.out, cell_kept dc_2 K2.out, cell_kept dd_2 K2.out⟩ | exact ⟨cell_kept ca_2 (l_below_boxed K2.out _), cell_kept cb_2 (l_below_boxed K2.out _), cell_kept da_2 (l_below_boxed K2.out _), cell_kept db_2 (l_below_boxed K2.out _), cell_kept dc_2 (l_below_boxed K2.out _), cell_kept dd_2 (l_below_boxed K2.out _)⟩ | exact ⟨cell_kept ca_2 K3.out, cell_kept cb_2 K3.out, cell_kept da_2 K3.out, cell_kept db_2 K3.out, cell_kept dc_2 K3.out, cell_kept dd_2 K3.out⟩ | exact ⟨cell_kept ca_2 (l_below_boxed K3.out _), cell_kept cb_2 (l_below_boxed K3.out _), cell_kept da_2 (l_below_boxed K3.out _), cell_kept db_2 (l_below_boxed K3.out _), cell_kept dc_2 (l_below_boxed K3.out _), cell_kept dd_2 (l_below_boxed K3.out _)⟩ | exact ⟨cell_kept ca_2 (l_below_stored K3.out (Nat.le_refl _)), cell_kept cb_2 (l_below_stored K3.out (Nat.le_refl _)), cell_kept da_2 (l_below_stored K3.out (Nat.le_refl _)), cell_kept db_2 (l_below_stored K3.out (Nat.le_refl _)), cell_kept dc_2 (l_below_stored K3.out (Nat.le_refl _)), cell_kept dd_2 (l_below_stored K3.out (Nat.le_refl _))⟩ | exact ⟨cell_kept ca_2 (l_below_stored K3.out K1.out.size), cell_kept cb_2 (l_below_stored K3.out K1.out.size), cell_kept da_2 (l_below_stored K3.out K1.out.size), cell_kept db_2 (l_below_stored K3.out K1.out.size), cell_kept dc_2 (l_below_stored K3.out K1.out.size), cell_kept dd_2 (l_below_stored K3.out K1.out.size)⟩ | exact ⟨cell_kept ca_2 (l_below_stored K3.out K2.out.size), cell_kept cb_2 (l_below_stored K3.out K2.out.size), cell_kept da_2 (l_below_stored K3.out K2.out.size), cell_kept db_2 (l_below_stored K3.out K2.out.size), cell_kept dc_2 (l_below_stored K3.out K2.out.size), cell_kept dd_2 (l_below_stored K3.out K2.out.size)⟩ | go_keep)
      (first
        | (go_at_call 8
           refine (HT.out _ ?_ ?_).mono ?_
           · first | exact H.out.below B_2.out.drew | exact H.out.below (l_below_boxed B_2.out.drew _)
           · first | exact B_2.out.drew.size | exact (l_below_boxed B_2.out.drew _).size
           rintro e w2_1 ⟨ga, rfl, hg, hb, hrow⟩
           have K1 : Hid (Below w2.heap.size w2 w2_1) := by first | exact below_step K0.out hb | exact below_step (l_below_boxed K0.out _) hb
           have Ia_r1 := Lib.hid hrow
           have hg1 := Lib.hid hg
           try (have Q0_1 : Hid (LBox w2_1 w2.heap.size) := lbox_kept (w := w2.drew.alloc (.cells #[.int .i64 0, .slice none 0 0] 33)) (lbox_new w2.drew) hb)
           clear hb hrow hg)
        | (go_at_call 9
           refine (HTI.out _).mono ?_
           rintro e w2_2 ⟨rfl, hb⟩
           have K2 : Hid (Below w2.heap.size w2 w2_2) := by first | exact below_step K1.out hb | exact below_step (l_below_boxed K1.out _) hb
           have Ia_r2 := Lib.hid (IRow.later (by first | exact Ia_r1.out | exact Ia_r1.out.alloc _) hb)
           try (have Q0_2 := Lib.hid (lbox_kept Q0_1.out hb))
           try (have Q1_2 : Hid (LBox w2_2 w2_1.heap.size) := lbox_kept (lbox_new w2_1) hb)
           clear hb)
        | (go_at_call 7
           refine (HS.out _ ga ?_).mono ?_
           · first | exact Ia_r2.out | exact Ia_r2.out.alloc _
           rintro e w2_3 ⟨gw, cw, xw, rfl, hg, hb, hrow⟩
           have K3 : Hid (Below w2.heap.size w2 w2_3) := by first | exact below_step K2.out hb | exact below_step (l_below_boxed K2.out _) hb
           have Rw_r3 := Lib.hid hrow
           have hg3 := Lib.hid hg
           have hgW : Hid (w2.heap.size ≤ gw) := by first | exact Nat.le_trans K2.out.size hg3.out | exact Nat.le_trans (l_below_boxed K2.out _).size hg3.out
           try (have hb0 : Hid (w2.heap.size < gw) := Nat.lt_of_lt_of_le (lbox_lt Q0_2.out) hg3.out)
           try (have hb1 : Hid (w2_1.heap.size < gw) := Nat.lt_of_lt_of_le (lbox_lt Q1_2.out) hg3.out)
           try (have hb2 : Hid (w2_2.heap.size < gw) := Nat.lt_of_lt_of_le (lbox_lt (lbox_new w2_2)) hg3.out)
           try (have Q0_3 := Lib.hid (lbox_kept Q0_2.out hb))
           try (have Q1_3 := Lib.hid (lbox_kept Q1_2.out hb))
           try (have Q2_3 : Hid (LBox w2_3 w2_2.heap.size) := lbox_kept (lbox_new w2_2) hb)
           try (have x0_0 := lbox_0 Q0_3.out)
           try (have x0_1 := lbox_1 Q0_3.out)
           try (have x0_f := lbox_f Q0_3.out)
           try (have x1_0 := lbox_0 Q1_3.out)
           try (have x1_1 := lbox_1 Q1_3.out)
           try (have x1_f := lbox_f Q1_3.out)
           try (have x2_0 := lbox_0 Q2_3.out)
           try (have x2_1 := lbox_1 Q2_3.out)
           try (have x2_f := lbox_f Q2_3.out)
           clear hb hrow hg))
    all_goals (go_wp2_with fail; go_meet; first | exact boxedLay_early K3.out Rw_r3.out (Nat.le_refl _) Q0_3.out hb0.out hgW.out | exact boxedLay_early K3.out Rw_r3.out K1.out.size Q1_3.out hb1.out hgW.out | exact boxedLay_early K3.out Rw_r3.out K2.out.size Q2_3.out hb2.out hgW.out | exact boxedLay_last K3.out Rw_r3.out hgW.out)
  case rest =>
    obtain ⟨bwa, gw, cw, xw, rfl, rfl, hb, hbb, hg, hne, hcell, hcell1, hrow⟩ := hcut
    rename World => w3
    have B_3 := Lib.hid (below_step B_2.out hb)
    have ca_3 := cell_kept ca_2 hb
    have cb_3 := cell_kept cb_2 hb
    have da_3 := cell_kept da_2 hb
    have db_3 := cell_kept db_2 hb
    have dc_3 := cell_kept dc_2 hb
    have dd_3 := cell_kept dd_2 hb
    have Rw_3 := Lib.hid hrow
    have wa_3 := hcell
    have wb_3 := hcell1
    clear hb hbb hcell hcell1 hg hne hrow ca_2 cb_2 da_2 db_2 dc_2 dd_2 B_2
    go_wp2_with fail
    refine (HT.out _ (H.out.below B_3.out) B_3.out.size).mono ?_
    rintro e w4 ⟨gx, rfl, hg, hb, hrow⟩
    have L_ca_Ix : Hid (w.heap.size < gx) := Nat.lt_of_lt_of_le (World.block_lt_of_cell? _ _ ca_3) hg
    have L_cb_Ix : Hid (w.heap.size < gx) := Nat.lt_of_lt_of_le (World.block_lt_of_cell? _ _ cb_3) hg
    have L_da_Ix : Hid (w.heap.size + 1 < gx) := Nat.lt_of_lt_of_le (World.block_lt_of_cell? _ _ da_3) hg
    have L_db_Ix : Hid (w.heap.size + 1 < gx) := Nat.lt_of_lt_of_le (World.block_lt_of_cell? _ _ db_3) hg
    have L_dc_Ix : Hid (w.heap.size + 1 < gx) := Nat.lt_of_lt_of_le (World.block_lt_of_cell? _ _ dc_3) hg
    have L_dd_Ix : Hid (w.heap.size + 1 < gx) := Nat.lt_of_lt_of_le (World.block_lt_of_cell? _ _ dd_3) hg
    have L_Rw_Ix : Hid (gw < gx) := Nat.lt_of_lt_of_le (Rw_3.out.lt) hg
    have L_wa_Ix : Hid (bwa < gx) := Nat.lt_of_lt_of_le (World.block_lt_of_cell? _ _ wa_3) hg
    have L_wb_Ix : Hid (bwa < gx) := Nat.lt_of_lt_of_le (World.block_lt_of_cell? _ _ wb_3) hg
    have G_Ix := Lib.hid (Nat.le_trans B_3.out.size hg)
    have B_4 := Lib.hid (below_step B_3.out hb)
    have ca_4 := cell_kept ca_3 hb
    have cb_4 := cell_kept cb_3 hb
    have da_4 := cell_kept da_3 hb
    have db_4 := cell_kept db_3 hb
    have dc_4 := cell_kept dc_3 hb
    have dd_4 := cell_kept dd_3 hb
    have wa_4 := cell_kept wa_3 hb
    have wb_4 := cell_kept wb_3 hb
    have Rw_4 := Lib.hid (Rw_3.out.later hb)
    have Ix_4 := Lib.hid hrow
    clear hb hrow hg ca_3 cb_3 da_3 db_3 dc_3 dd_3 wa_3 wb_3 Rw_3 B_3
    have L_Ix_cx : Hid (gx < w4.heap.size) := Nat.lt_of_lt_of_le (Ix_4.out.lt) (Nat.le_refl _)
    have L_Ix_cy : Hid (gx < w4.heap.size) := Nat.lt_of_lt_of_le (Ix_4.out.lt) (Nat.le_refl _)
    have hb := below_box w4 (.cells #[.int .i64 u, .slice (some ⟨gx, 0, none⟩) n n] 33)
    have B_5 := Lib.hid (below_step B_4.out hb)
    have ca_5 := cell_kept ca_4 hb
    have cb_5 := cell_kept cb_4 hb
    have da_5 := cell_kept da_4 hb
    have db_5 := cell_kept db_4 hb
    have dc_5 := cell_kept dc_4 hb
    have dd_5 := cell_kept dd_4 hb
    have wa_5 := cell_kept wa_4 hb
    have wb_5 := cell_kept wb_4 hb
    have Rw_5 := Lib.hid (Rw_4.out.later hb)
    have Ix_5 := Lib.hid (Ix_4.out.later hb)
    have cx_5 : (w4.alloc (.cells #[.int .i64 u, .slice (some ⟨gx, 0, none⟩) n n] 33)).cell? ⟨w4.heap.size, 0, none⟩ = some (.int .i64 u) := by simp [go_sem]
    have cy_5 : (w4.alloc (.cells #[.int .i64 u, .slice (some ⟨gx, 0, none⟩) n n] 33)).cell? ⟨w4.heap.size, 1, none⟩ = some (.slice (some ⟨gx, 0, none⟩) n n) := by simp [go_sem]
    clear hb ca_4 cb_4 da_4 db_4 dc_4 dd_4 wa_4 wb_4 Rw_4 Ix_4 B_4
    go_upto_region 10 with fail
    generalize (w4.alloc (.cells #[.int .i64 u, .slice (some ⟨gx, 0, none⟩) n n] 33)) = v5 at *
    go_cut [9, 10] (fun s6 s7 wx => BoxedLay v5 u ys s6 s7 wx)
    case first =>
      have K0 := Lib.hid (l_below_drew (Below.refl v5.heap.size v5))
      go_region_held3 (fun W => W.cell? ⟨w4.heap.size, 0, none⟩ = some (.int .i64 u) ∧ W.cell? ⟨w4.heap.size, 1, none⟩ = some (.slice (some ⟨gx, 0, none⟩) n n) ∧ W.cell? ⟨w.heap.size + 1, 0, none⟩ = some (.string nm) ∧ W.cell? ⟨w.heap.size + 1, 1, none⟩ = some (.int .i64 kd) ∧ W.cell? ⟨w.heap.size + 1, 2, none⟩ = some (.int .i64 f0) ∧ W.cell? ⟨w.heap.size + 1, 3, none⟩ = some (.int .i64 f1))
        (first | exact ⟨cx_5, cy_5, da_5, db_5, dc_5, dd_5⟩ | exact ⟨cell_kept cx_5 K0.out, cell_kept cy_5 K0.out, cell_kept da_5 K0.out, cell_kept db_5 K0.out, cell_kept dc_5 K0.out, cell_kept dd_5 K0.out⟩ | exact ⟨cell_kept cx_5 (l_below_boxed K0.out _), cell_kept cy_5 (l_below_boxed K0.out _), cell_kept da_5 (l_below_boxed K0.out _), cell_kept db_5 (l_below_boxed K0.out _), cell_kept dc_5 (l_below_boxed K0.out _), cell_kept dd_5 (l_below_boxed K0.out _)⟩ | exact ⟨cell_kept cx_5 K1.out, cell_kept cy_5 K1.out, cell_kept da_5 K1.out, cell_kept db_5 K1.out, cell_kept dc_5 K1.out, cell_kept dd_5 K1.out⟩ | exact ⟨cell_kept cx_5 (l_below_boxed K1.out _), cell_kept cy_5 (l_below_boxed K1.out _), cell_kept da_5 (l_below_boxed K1.out _), cell_kept db_5 (l_below_boxed K1.out _), cell_kept dc_5 (l_below_boxed K1.out _), cell_kept dd_5 (l_below_boxed K1.out _)⟩ | exact ⟨cell_kept cx_5 K2.out, cell_kept cy_5 K2.out, cell_kept da_5 K2.out, cell_kept db_5 K2.out, cell_kept dc_5 K2.out, cell_kept dd_5 K2.out⟩ | exact ⟨cell_kept cx_5 (l_below_boxed K2.out _), cell_kept cy_5 (l_below_boxed K2.out _), cell_kept da_5 (l_below_boxed K2.out _), cell_kept db_5 (l_below_boxed K2.out _), cell_kept dc_5 (l_below_boxed K2.out _), cell_kept dd_5 (l_below_boxed K2.out _)⟩ | exact ⟨cell_kept cx_5 (l_below_stored K2.out (Nat.le_refl _)), cell_kept cy_5 (l_below_stored K2.out (Nat.le_refl _)), cell_kept da_5 (l_below_stored K2.out (Nat.le_refl _)), cell_kept db_5 (l_below_stored K2.out (Nat.le_refl _)), cell_kept dc_5 (l_below_stored K2.out (Nat.le_refl _)), cell_kept dd_5 (l_below_stored K2.out (Nat.le_refl _))⟩ | exact ⟨cell_kept cx_5 (l_below_stored K2.out K1.out.size), cell_kept cy_5 (l_below_stored K2.out K1.out.size), cell_kept da_5 (l_below_stored K2.out K1.out.size), cell_kept db_5 (l_below_stored K2.out K1.out.size), cell_kept dc_5 (l_below_stored K2.out K1.out.size), cell_kept dd_5 (l_below_stored K2.out K1.out.size)⟩ | go_keep)
        (first
          | (go_at_call 9
             refine (HTI.out _).mono ?_
             rintro e w5_1 ⟨rfl, hb⟩
             have K1 : Hid (Below v5.heap.size v5 w5_1) := by first | exact below_step K0.out hb | exact below_step (l_below_boxed K0.out _) hb
             have Ix_r1 := Lib.hid (IRow.later (by first | exact Ix_5.out.drew | exact Ix_5.out.drew.alloc _) hb)
             try (have Q0_1 : Hid (LBox w5_1 v5.heap.size) := lbox_kept (w := v5.drew.alloc (.cells #[.int .i64 0, .slice none 0 0] 33)) (lbox_new v5.drew) hb)
             clear hb)
          | (go_at_call 10
             refine (HI.out _ gx ?_).mono ?_
             · first | exact Ix_r1.out | exact Ix_r1.out.alloc _
             rintro e w5_2 ⟨gg, cg, xg, rfl, hg, hb, hrow⟩
             have K2 : Hid (Below v5.heap.size v5 w5_2) := by first | exact below_step K1.out hb | exact below_step (l_below_boxed K1.out _) hb
             have Rg_r2 := Lib.hid hrow
             have hg2 := Lib.hid hg
             have hgW : Hid (v5.heap.size ≤ gg) := by first | exact Nat.le_trans K1.out.size hg2.out | exact Nat.le_trans (l_below_boxed K1.out _).size hg2.out
             try (have hb0 : Hid (v5.heap.size < gg) := Nat.lt_of_lt_of_le (lbox_lt Q0_1.out) hg2.out)
             try (have hb1 : Hid (w5_1.heap.size < gg) := Nat.lt_of_lt_of_le (lbox_lt (lbox_new w5_1)) hg2.out)
             try (have Q0_2 := Lib.hid (lbox_kept Q0_1.out hb))
             try (have Q1_2 : Hid (LBox w5_2 w5_1.heap.size) := lbox_kept (lbox_new w5_1) hb)
             try (have x0_0 := lbox_0 Q0_2.out)
             try (have x0_1 := lbox_1 Q0_2.out)
             try (have x0_f := lbox_f Q0_2.out)
             try (have x1_0 := lbox_0 Q1_2.out)
             try (have x1_1 := lbox_1 Q1_2.out)
             try (have x1_f := lbox_f Q1_2.out)
             clear hb hrow hg))
      all_goals (go_wp2_with fail; go_meet; first | exact boxedLay_early K2.out Rg_r2.out (Nat.le_refl _) Q0_2.out hb0.out hgW.out | exact boxedLay_early K2.out Rg_r2.out K1.out.size Q1_2.out hb1.out hgW.out | exact boxedLay_last K2.out Rg_r2.out hgW.out)
    case rest =>
      obtain ⟨bga_, gg, cg, xg, rfl, rfl, hb, hbb, hg, hne, hcell, hcell1, hrow⟩ := hcut
      rename World => w6
      have L_ca_Rg : Hid (w.heap.size < gg) := Nat.lt_of_lt_of_le (World.block_lt_of_cell? _ _ ca_5) hg
      have L_cb_Rg : Hid (w.heap.size < gg) := Nat.lt_of_lt_of_le (World.block_lt_of_cell? _ _ cb_5) hg
      have L_da_Rg : Hid (w.heap.size + 1 < gg) := Nat.lt_of_lt_of_le (World.block_lt_of_cell? _ _ da_5) hg
      have L_db_Rg : Hid (w.heap.size + 1 < gg) := Nat.lt_of_lt_of_le (World.block_lt_of_cell? _ _ db_5) hg
      have L_dc_Rg : Hid (w.heap.size + 1 < gg) := Nat.lt_of_lt_of_le (World.block_lt_of_cell? _ _ dc_5) hg
      have L_dd_Rg : Hid (w.heap.size + 1 < gg) := Nat.lt_of_lt_of_le (World.block_lt_of_cell? _ _ dd_5) hg
      have L_Rw_Rg : Hid (gw < gg) := Nat.lt_of_lt_of_le (Rw_5.out.lt) hg
      have L_wa_Rg : Hid (bwa < gg) := Nat.lt_of_lt_of_le (World.block_lt_of_cell? _ _ wa_5) hg
      have L_wb_Rg : Hid (bwa < gg) := Nat.lt_of_lt_of_le (World.block_lt_of_cell? _ _ wb_5) hg
      have L_Ix_Rg : Hid (gx < gg) := Nat.lt_of_lt_of_le (Ix_5.out.lt) hg
      have L_cx_Rg : Hid (w4.heap.size < gg) := Nat.lt_of_lt_of_le (World.block_lt_of_cell? _ _ cx_5) hg
      have L_cy_Rg : Hid (w4.heap.size < gg) := Nat.lt_of_lt_of_le (World.block_lt_of_cell? _ _ cy_5) hg
      have G_Rg := Lib.hid (Nat.le_trans B_5.out.size hg)
      have N_Rg := Lib.hid hne
      have L_Ix_ga_ : Hid (gx < bga_) := Nat.lt_of_lt_of_le (Ix_5.out.lt) hbb
      have L_Ix_gb_ : Hid (gx < bga_) := Nat.lt_of_lt_of_le (Ix_5.out.lt) hbb
      have B_6 := Lib.hid (below_step B_5.out hb)
      have ca_6 := cell_kept ca_5 hb
      have cb_6 := cell_kept cb_5 hb
      have da_6 := cell_kept da_5 hb
      have db_6 := cell_kept db_5 hb
      have dc_6 := cell_kept dc_5 hb
      have dd_6 := cell_kept dd_5 hb
      have wa_6 := cell_kept wa_5 hb
      have wb_6 := cell_kept wb_5 hb
      have cx_6 := cell_kept cx_5 hb
      have cy_6 := cell_kept cy_5 hb
      have Rw_6 := Lib.hid (Rw_5.out.later hb)
      have Ix_6 := Lib.hid (Ix_5.out.later hb)
      have Rg_6 := Lib.hid hrow
      have ga__6 := hcell
      have gb__6 := hcell1
      clear hb hbb hcell hcell1 hg hne hrow ca_5 cb_5 da_5 db_5 dc_5 dd_5 wa_5 wb_5 cx_5 cy_5 Rw_5 Ix_5 B_5
      go_wp2_with fail
      refine (HEY.out _ gg gw cg cw xg xw Rg_6.out Rw_6.out).mono ?_
      rintro e w7 ⟨rfl, hb⟩
      have B_7 := Lib.hid (below_step B_6.out hb)
      have ca_7 := cell_kept ca_6 hb
      have cb_7 := cell_kept cb_6 hb
      have da_7 := cell_kept da_6 hb
      have db_7 := cell_kept db_6 hb
      have dc_7 := cell_kept dc_6 hb
      have dd_7 := cell_kept dd_6 hb
      have wa_7 := cell_kept wa_6 hb
      have wb_7 := cell_kept wb_6 hb
      have cx_7 := cell_kept cx_6 hb
      have cy_7 := cell_kept cy_6 hb
      have ga__7 := cell_kept ga__6 hb
      have gb__7 := cell_kept gb__6 hb
      have Rw_7 := Lib.hid (Rw_6.out.later hb)
      have Ix_7 := Lib.hid (Ix_6.out.later hb)
      have Rg_7 := Lib.hid (Rg_6.out.later hb)
      clear hb ca_6 cb_6 da_6 db_6 dc_6 dd_6 wa_6 wb_6 cx_6 cy_6 ga__6 gb__6 Rw_6 Ix_6 Rg_6 B_6
      go_wp2
      go_region_held3 (fun W => W.cell? ⟨w.heap.size, 0, none⟩ = some (.int .i64 u) ∧ W.cell? ⟨w.heap.size, 1, none⟩ = some (.slice A n c) ∧ W.cell? ⟨w4.heap.size, 0, none⟩ = some (.int .i64 u) ∧ W.cell? ⟨w4.heap.size, 1, none⟩ = some (.slice (some ⟨gx, 0, none⟩) n n))
        (first | exact ⟨ca_7, cb_7, cx_7, cy_7⟩ | exact ⟨ca_8, cb_8, cx_8, cy_8⟩ | exact ⟨ca_9, cb_9, cx_9, cy_9⟩)
        (first
          | (go_at_call 8
             refine (HT.out _ ?_ ?_).mono ?_
             · exact H.out.below B_7.out.drew
             · exact B_7.out.drew.size
             rintro e w8 ⟨ge, rfl, hg, hb, hrow⟩
             have L_Ix_Ie : Hid (gx < ge) := Nat.lt_of_lt_of_le (Ix_7.out.lt) hg
             have L_Rg_Ie : Hid (gg < ge) := Nat.lt_of_lt_of_le (Rg_7.out.lt) hg
             have B_8 := Lib.hid (below_step B_7.out.drew hb)
             have ca_8 := cell_kept (w := w7.drew) ca_7 hb
             have cb_8 := cell_kept (w := w7.drew) cb_7 hb
             have da_8 := cell_kept (w := w7.drew) da_7 hb
             have db_8 := cell_kept (w := w7.drew) db_7 hb
             have dc_8 := cell_kept (w := w7.drew) dc_7 hb
             have dd_8 := cell_kept (w := w7.drew) dd_7 hb
             have wa_8 := cell_kept (w := w7.drew) wa_7 hb
             have wb_8 := cell_kept (w := w7.drew) wb_7 hb
             have cx_8 := cell_kept (w := w7.drew) cx_7 hb
             have cy_8 := cell_kept (w := w7.drew) cy_7 hb
             have ga__8 := cell_kept (w := w7.drew) ga__7 hb
             have gb__8 := cell_kept (w := w7.drew) gb__7 hb
             have Rw_8 := Lib.hid (Rw_7.out.drew.later hb)
             have Ix_8 := Lib.hid (Ix_7.out.drew.later hb)
             have Rg_8 := Lib.hid (Rg_7.out.drew.later hb)
             have Ie_8 := Lib.hid hrow
             clear hb hrow hg)
          | (go_at_call 11
             refine (HE.out _ gx ge ?_ ?_).mono ?_
             · exact Ix_8.out
             · exact Ie_8.out
             rintro e w9 ⟨rfl, hb⟩
             have B_9 := Lib.hid (below_step B_8.out hb)
             have ca_9 := cell_kept ca_8 hb
             have cb_9 := cell_kept cb_8 hb
             have da_9 := cell_kept da_8 hb
             have db_9 := cell_kept db_8 hb
             have dc_9 := cell_kept dc_8 hb
             have dd_9 := cell_kept dd_8 hb
             have wa_9 := cell_kept wa_8 hb
             have wb_9 := cell_kept wb_8 hb
             have cx_9 := cell_kept cx_8 hb
             have cy_9 := cell_kept cy_8 hb
             have ga__9 := cell_kept ga__8 hb
             have gb__9 := cell_kept gb__8 hb
             have Rw_9 := Lib.hid (Rw_8.out.later hb)
             have Ix_9 := Lib.hid (Ix_8.out.later hb)
             have Rg_9 := Lib.hid (Rg_8.out.later hb)
             have Ie_9 := Lib.hid (Ie_8.out.later hb)
             clear hb))
      clear ca_7 cb_7 da_7 db_7 dc_7 dd_7 wa_7 wb_7 cx_7 cy_7 ga__7 gb__7 Rw_7 Ix_7 Rg_7 B_7 ca_8 cb_8 da_8 db_8 dc_8 dd_8 wa_8 wb_8 cx_8 cy_8 ga__8 gb__8 Rw_8 Ix_8 Rg_8 Ie_8 B_8
      clear Ie_9
      go_wp2_with fail
      refine (HM.out _ gx Ix_9.out).mono ?_
      rintro e w10 ⟨rfl, hg, hrow⟩
      have B_10 := Lib.hid (below_only B_9.out hg G_Ix.out)
      have ca_10 := cell_only hg ca_9 (Nat.ne_of_lt L_ca_Ix.out)
      have cb_10 := cell_only hg cb_9 (Nat.ne_of_lt L_cb_Ix.out)
      have da_10 := cell_only hg da_9 (Nat.ne_of_lt L_da_Ix.out)
      have db_10 := cell_only hg db_9 (Nat.ne_of_lt L_db_Ix.out)
      have dc_10 := cell_only hg dc_9 (Nat.ne_of_lt L_dc_Ix.out)
      have dd_10 := cell_only hg dd_9 (Nat.ne_of_lt L_dd_Ix.out)
      have wa_10 := cell_only hg wa_9 (Nat.ne_of_lt L_wa_Ix.out)
      have wb_10 := cell_only hg wb_9 (Nat.ne_of_lt L_wb_Ix.out)
      have cx_10 := cell_only hg cx_9 (Nat.ne_of_gt L_Ix_cx.out)
      have cy_10 := cell_only hg cy_9 (Nat.ne_of_gt L_Ix_cy.out)
      have ga__10 := cell_only hg ga__9 (Nat.ne_of_gt L_Ix_ga_.out)
      have gb__10 := cell_only hg gb__9 (Nat.ne_of_gt L_Ix_gb_.out)
      have Rw_10 := Lib.hid (IRow.onlyR hg Rw_9.out (Nat.ne_of_lt L_Rw_Ix.out))
      have Ix_10 := Lib.hid hrow
      have Rg_10 := Lib.hid (IRow.onlyR hg Rg_9.out (Nat.ne_of_gt L_Ix_Rg.out))
      clear hg hrow B_9 ca_9 cb_9 da_9 db_9 dc_9 dd_9 wa_9 wb_9 cx_9 cy_9 ga__9 gb__9 Rw_9 Ix_9 Rg_9
      clear Ix_10
      clear cx_10
      clear cy_10
      go_wp2_with fail
      refine (HEY.out _ gg gw cg cw xg xw Rg_10.out Rw_10.out).mono ?_
      rintro e w11 ⟨rfl, hb⟩
      have B_11 := Lib.hid (below_step B_10.out hb)
      have ca_11 := cell_kept ca_10 hb
      have cb_11 := cell_kept cb_10 hb
      have da_11 := cell_kept da_10 hb
      have db_11 := cell_kept db_10 hb
      have dc_11 := cell_kept dc_10 hb
      have dd_11 := cell_kept dd_10 hb
      have wa_11 := cell_kept wa_10 hb
      have wb_11 := cell_kept wb_10 hb
      have ga__11 := cell_kept ga__10 hb
      have gb__11 := cell_kept gb__10 hb
      have Rw_11 := Lib.hid (Rw_10.out.later hb)
      have Rg_11 := Lib.hid (Rg_10.out.later hb)
      clear hb ca_10 cb_10 da_10 db_10 dc_10 dd_10 wa_10 wb_10 ga__10 gb__10 Rw_10 Rg_10 B_10
      go_wp2_with fail
      refine (HMK.out _ gg cg xg Rg_11.out).mono ?_
      rintro e w12 ⟨rfl, hg, hrow⟩
      have B_12 := Lib.hid (below_only B_11.out hg G_Rg.out)
      have ca_12 := cell_only hg ca_11 (Nat.ne_of_lt L_ca_Rg.out)
      have cb_12 := cell_only hg cb_11 (Nat.ne_of_lt L_cb_Rg.out)
      have da_12 := cell_only hg da_11 (Nat.ne_of_lt L_da_Rg.out)
      have db_12 := cell_only hg db_11 (Nat.ne_of_lt L_db_Rg.out)
      have dc_12 := cell_only hg dc_11 (Nat.ne_of_lt L_dc_Rg.out)
      have dd_12 := cell_only hg dd_11 (Nat.ne_of_lt L_dd_Rg.out)
      have wa_12 := cell_only hg wa_11 (Nat.ne_of_lt L_wa_Rg.out)
      have wb_12 := cell_only hg wb_11 (Nat.ne_of_lt L_wb_Rg.out)
      have ga__12 := cell_only hg ga__11 N_Rg.out
      have gb__12 := cell_only hg gb__11 N_Rg.out
      have Rw_12 := Lib.hid (IRow.onlyR hg Rw_11.out (Nat.ne_of_lt L_Rw_Rg.out))
      have Rg_12 := Lib.hid hrow
      clear hg hrow B_11 ca_11 cb_11 da_11 db_11 dc_11 dd_11 wa_11 wb_11 ga__11 gb__11 Rw_11 Rg_11
      go_wp2_with fail
      refine (HHL.out _ gg cg xg Rg_12.out).mono ?_
      rintro e w13 ⟨rfl, hb⟩
      have B_13 := Lib.hid (below_step B_12.out hb)
      have ca_13 := cell_kept ca_12 hb
      have cb_13 := cell_kept cb_12 hb
      have da_13 := cell_kept da_12 hb
      have db_13 := cell_kept db_12 hb
      have dc_13 := cell_kept dc_12 hb
      have dd_13 := cell_kept dd_12 hb
      have wa_13 := cell_kept wa_12 hb
      have wb_13 := cell_kept wb_12 hb
      have ga__13 := cell_kept ga__12 hb
      have gb__13 := cell_kept gb__12 hb
      have Rw_13 := Lib.hid (Rw_12.out.later hb)
      have Rg_13 := Lib.hid (Rg_12.out.later hb)
      clear hb ca_12 cb_12 da_12 db_12 dc_12 dd_12 wa_12 wb_12 ga__12 gb__12 Rw_12 Rg_12 B_12
      go_upto_region 27 with fail
      go_cut [14, 15] (fun s6 s7 wx => BoxedLay w13 u ys s6 s7 wx)
      case first =>
        have K0 := Lib.hid (l_below_drew (Below.refl w13.heap.size w13))
        go_region_held3 (fun W => W.cell? ⟨w.heap.size, 0, none⟩ = some (.int .i64 u) ∧ W.cell? ⟨w.heap.size, 1, none⟩ = some (.slice A n c) ∧ W.cell? ⟨w.heap.size + 1, 0, none⟩ = some (.string nm) ∧ W.cell? ⟨w.heap.size + 1, 1, none⟩ = some (.int .i64 kd) ∧ W.cell? ⟨w.heap.size + 1, 2, none⟩ = some (.int .i64 f0) ∧ W.cell? ⟨w.heap.size + 1, 3, none⟩ = some (.int .i64 f1))
          (first | exact ⟨ca_13, cb_13, da_13, db_13, dc_13, dd_13⟩ | exact ⟨cell_kept ca_13 K0.out, cell_kept cb_13 K0.out, cell_kept da_13 K0.out, cell_kept db_13 K0.out, cell_kept dc_13 K0.out, cell_kept dd_13 K0.out⟩ | exact ⟨cell_kept ca_13 (l_below_boxed K0.out _), cell_kept cb_13 (l_below_boxed K0.out _), cell_kept da_13 (l_below_boxed K0.out _), cell_kept db_13 (l_below_boxed K0.out _), cell_kept dc_13 (l_below_boxed K0.out _), cell_kept dd_13 (l_below_boxed K0.out _)⟩ | exact ⟨cell_kept ca_13 K1.out, cell_kept cb_13 K1.out, cell_kept da_13 K1.out, cell_kept db_13 K1.out, cell_kept dc_13 K1.out, cell_kept dd_13 K1.out⟩ | exact ⟨cell_kept ca_13 (l_below_boxed K1.out _), cell_kept cb_13 (l_below_boxed K1.out _), cell_kept da_13 (l_below_boxed K1.out _), cell_kept db_13 (l_below_boxed K1.out _), cell_kept dc_13 (l_below_boxed K1.out _), cell_kept dd_13 (l_below_boxed K1.out _)⟩ | exact ⟨cell_kept ca_13 K2.out, cell_kept cb_13 K2.out, cell_kept da_13 K2.out, cell_kept db_13 K2.out, cell_kept dc_13 K2.out, cell_kept dd_13 K2.out⟩ | exact ⟨cell_kept ca_13 (l_below_boxed K2.out _), cell_kept cb_13 (l_below_boxed K2.out _), cell_kept da_13 (l_below_boxed K2.out _), cell_kept db_13 (l_below_boxed K2.out _), cell_kept dc_13 (l_below_boxed K2.out _), cell_kept dd_13 (l_below_boxed K2.out _)⟩ | exact ⟨cell_kept ca_13 K3.out, cell_kept cb_13 K3.out, cell_kept da_13 K3.out, cell_kept db_13 K3.out, cell_kept dc_13 K3.out, cell_kept dd_13 K3.out⟩ | exact ⟨cell_kept ca_13 (l_below_boxed K3.out _), cell_kept cb_13 (l_below_boxed K3.out _), cell_kept da_13 (l_below_boxed K3.out _), cell_kept db_13 (l_below_boxed K3.out _), cell_kept dc_13 (l_below_boxed K3.out _), cell_kept dd_13 (l_below_boxed K3.out _)⟩ | exact ⟨cell_kept ca_13 (l_below_stored K3.out (Nat.le_refl _)), cell_kept cb_13 (l_below_stored K3.out (Nat.le_refl _)), cell_kept da_13 (l_below_stored K3.out (Nat.le_refl _)), cell_kept db_13 (l_below_stored K3.out (Nat.le_refl _)), cell_kept dc_13 (l_below_stored K3.out (Nat.le_refl _)), cell_kept dd_13 (l_below_stored K3.out (Nat.le_refl _))⟩ | exact ⟨cell_kept ca_13 (l_below_stored K3.out K1.out.size), cell_kept cb_13 (l_below_stored K3.out K1.out.size), cell_kept da_13 (l_below_stored K3.out K1.out.size), cell_kept db_13 (l_below_stored K3.out K1.out.size), cell_kept dc_13 (l_below_stored K3.out K1.out.size), cell_kept dd_13 (l_below_stored K3.out K1.out.size)⟩ | exact ⟨cell_kept ca_13 (l_below_stored K3.out K2.out.size), cell_kept cb_13 (l_below_stored K3.out K2.out.size), cell_kept da_13 (l_below_stored K3.out K2.out.size), cell_kept db_13 (l_below_stored K3.out K2.out.size), cell_kept dc_13 (l_below_stored K3.out K2.out.size), cell_kept dd_13 (l_below_stored K3.out K2.out.size)⟩ | go_keep)
          (first
            | (go_at_call 8
               refine (HT.out _ ?_ ?_).mono ?_
               · first | exact H.out.below B_13.out.drew | exact H.out.below (l_below_boxed B_13.out.drew _)
               · first | exact B_13.out.drew.size | exact (l_below_boxed B_13.out.drew _).size
               rintro e w13_1 ⟨gb, rfl, hg, hb, hrow⟩
               have K1 : Hid (Below w13.heap.size w13 w13_1) := by first | exact below_step K0.out hb | exact below_step (l_below_boxed K0.out _) hb
               have Ib_r1 := Lib.hid hrow
               have hg1 := Lib.hid hg
               try (have Q0_1 : Hid (LBox w13_1 w13.heap.size) := lbox_kept (w := w13.drew.alloc (.cells #[.int .i64 0, .slice none 0 0] 33)) (lbox_new w13.drew) hb)
               clear hb hrow hg)
            | (go_at_call 9
               refine (HTI.out _).mono ?_
               rintro e w13_2 ⟨rfl, hb⟩
               have K2 : Hid (Below w13.heap.size w13 w13_2) := by first | exact below_step K1.out hb | exact below_step (l_below_boxed K1.out _) hb
               have Ib_r2 := Lib.hid (IRow.later (by first | exact Ib_r1.out | exact Ib_r1.out.alloc _) hb)
               try (have Q0_2 := Lib.hid (lbox_kept Q0_1.out hb))
               try (have Q1_2 : Hid (LBox w13_2 w13_1.heap.size) := lbox_kept (lbox_new w13_1) hb)
               clear hb)
            | (go_at_call 10
               refine (HI.out _ gb ?_).mono ?_
               · first | exact Ib_r2.out | exact Ib_r2.out.alloc _
               rintro e w13_3 ⟨gh, ch, xh, rfl, hg, hb, hrow⟩
               have K3 : Hid (Below w13.heap.size w13 w13_3) := by first | exact below_step K2.out hb | exact below_step (l_below_boxed K2.out _) hb
               have Rh_r3 := Lib.hid hrow
               have hg3 := Lib.hid hg
               have hgW : Hid (w13.heap.size ≤ gh) := by first | exact Nat.le_trans K2.out.size hg3.out | exact Nat.le_trans (l_below_boxed K2.out _).size hg3.out
               try (have hb0 : Hid (w13.heap.size < gh) := Nat.lt_of_lt_of_le (lbox_lt Q0_2.out) hg3.out)
               try (have hb1 : Hid (w13_1.heap.size < gh) := Nat.lt_of_lt_of_le (lbox_lt Q1_2.out) hg3.out)
               try (have hb2 : Hid (w13_2.heap.size < gh) := Nat.lt_of_lt_of_le (lbox_lt (lbox_new w13_2)) hg3.out)
               try (have Q0_3 := Lib.hid (lbox_kept Q0_2.out hb))
               try (have Q1_3 := Lib.hid (lbox_kept Q1_2.out hb))
               try (have Q2_3 : Hid (LBox w13_3 w13_2.heap.size) := lbox_kept (lbox_new w13_2) hb)
               try (have x0_0 := lbox_0 Q0_3.out)
               try (have x0_1 := lbox_1 Q0_3.out)
               try (have x0_f := lbox_f Q0_3.out)
               try (have x1_0 := lbox_0 Q1_3.out)
               try (have x1_1 := lbox_1 Q1_3.out)
               try (have x1_f := lbox_f Q1_3.out)
               try (have x2_0 := lbox_0 Q2_3.out)
               try (have x2_1 := lbox_1 Q2_3.out)
               try (have x2_f := lbox_f Q2_3.out)
               clear hb hrow hg))
        all_goals (go_wp2_with fail; go_meet; first | exact boxedLay_early K3.out Rh_r3.out (Nat.le_refl _) Q0_3.out hb0.out hgW.out | exact boxedLay_early K3.out Rh_r3.out K1.out.size Q1_3.out hb1.out hgW.out | exact boxedLay_early K3.out Rh_r3.out K2.out.size Q2_3.out hb2.out hgW.out | exact boxedLay_last K3.out Rh_r3.out hgW.out)
      case rest =>
        obtain ⟨bha, gh, ch, xh, rfl, rfl, hb, hbb, hg, hne, hcell, hcell1, hrow⟩ := hcut
        rename World => w14
        have L_Rg_Rh : Hid (gg < gh) := Nat.lt_of_lt_of_le (Rg_13.out.lt) hg
        have L_Rg_ha : Hid (gg < bha) := Nat.lt_of_lt_of_le (Rg_13.out.lt) hbb
        have L_Rg_hb_ : Hid (gg < bha) := Nat.lt_of_lt_of_le (Rg_13.out.lt) hbb
        have B_14 := Lib.hid (below_step B_13.out hb)
        have ca_14 := cell_kept ca_13 hb
        have cb_14 := cell_kept cb_13 hb
        have da_14 := cell_kept da_13 hb
        have db_14 := cell_kept db_13 hb
        have dc_14 := cell_kept dc_13 hb
        have dd_14 := cell_kept dd_13 hb
        have wa_14 := cell_kept wa_13 hb
        have wb_14 := cell_kept wb_13 hb
        have ga__14 := cell_kept ga__13 hb
        have gb__14 := cell_kept gb__13 hb
        have Rw_14 := Lib.hid (Rw_13.out.later hb)
        have Rg_14 := Lib.hid (Rg_13.out.later hb)
        have Rh_14 := Lib.hid hrow
        have ha_14 := hcell
        have hb__14 := hcell1
        clear hb hbb hcell hcell1 hg hne hrow ca_13 cb_13 da_13 db_13 dc_13 dd_13 wa_13 wb_13 ga__13 gb__13 Rw_13 Rg_13 B_13
        go_wp2_with fail
        refine (HEY.out _ gh gw ch cw xh xw Rh_14.out Rw_14.out).mono ?_
        rintro e w15 ⟨rfl, hb⟩
        have B_15 := Lib.hid (below_step B_14.out hb)
        have ca_15 := cell_kept ca_14 hb
        have cb_15 := cell_kept cb_14 hb
        have da_15 := cell_kept da_14 hb
        have db_15 := cell_kept db_14 hb
        have dc_15 := cell_kept dc_14 hb
        have dd_15 := cell_kept dd_14 hb
        have wa_15 := cell_kept wa_14 hb
        have wb_15 := cell_kept wb_14 hb
        have ga__15 := cell_kept ga__14 hb
        have gb__15 := cell_kept gb__14 hb
        have ha_15 := cell_kept ha_14 hb
        have hb__15 := cell_kept hb__14 hb
        have Rw_15 := Lib.hid (Rw_14.out.later hb)
        have Rg_15 := Lib.hid (Rg_14.out.later hb)
        have Rh_15 := Lib.hid (Rh_14.out.later hb)
        clear hb ca_14 cb_14 da_14 db_14 dc_14 dd_14 wa_14 wb_14 ga__14 gb__14 ha_14 hb__14 Rw_14 Rg_14 Rh_14 B_14
        go_wp2_with fail
        refine (HHL.out _ gg cg xg Rg_15.out).mono ?_
        rintro e w16 ⟨rfl, hb⟩
        have B_16 := Lib.hid (below_step B_15.out hb)
        have ca_16 := cell_kept ca_15 hb
        have cb_16 := cell_kept cb_15 hb
        have da_16 := cell_kept da_15 hb
        have db_16 := cell_kept db_15 hb
        have dc_16 := cell_kept dc_15 hb
        have dd_16 := cell_kept dd_15 hb
        have wa_16 := cell_kept wa_15 hb
        have wb_16 := cell_kept wb_15 hb
        have ga__16 := cell_kept ga__15 hb
        have gb__16 := cell_kept gb__15 hb
        have ha_16 := cell_kept ha_15 hb
        have hb__16 := cell_kept hb__15 hb
        have Rw_16 := Lib.hid (Rw_15.out.later hb)
        have Rg_16 := Lib.hid (Rg_15.out.later hb)
        have Rh_16 := Lib.hid (Rh_15.out.later hb)
        clear hb ca_15 cb_15 da_15 db_15 dc_15 dd_15 wa_15 wb_15 ga__15 gb__15 ha_15 hb__15 Rw_15 Rg_15 Rh_15 B_15
        go_wp2
        go_ret
        exact ⟨rfl, B_16.out⟩

theorem walk (u : Int) (A : Option Addr) (c : Nat) (ds : List It) {w : World} (h : Items w w.heap.size A ds) (hn : ds.length ≤ 9223372036854775807) (hs : ∀ d ∈ ds, d.name.size ≤ 9223372036854775807) (it : It) (hnm : it.name.size ≤ 9223372036854775807) (W : World) (e1 : w = W) :
    Calls Try.prog 3 #[.agg #[.int .i64 u, .slice A ds.length c], it.val] W fun e w' => e = .returned (.bool true) ∧ Below W.heap.size W w' := by
  subst e1
  obtain ⟨nm, kd, f0, f1⟩ := it
  show Calls Try.prog 3 #[.agg #[.int .i64 u, .slice A ds.length c], .agg #[.string nm, .int .i64 kd, .int .i64 f0, .int .i64 f1]] w _
  by_cases h1 : 1048576 < ds.length + itSize ds
  · exact walk_big A c u ds nm kd f0 f1 w h hn hs h1
  · by_cases h2 : 1048576 < ds.length + itSize ds + nm.size
    · exact walk_long A c u ds nm kd f0 f1 w h (by omega) hnm h2
    · have hl : ds.length ≤ 1048576 := by omega
      have hs1 : ∀ d ∈ ds, d.name.size ≤ 1048576 := fun d hd => by
        obtain ⟨k, hk⟩ := List.getElem?_of_mem hd
        have := itSize_at ds k d hk
        omega
      have ha := fun W g (hW : IRow W g ds []) => specAdd_any u g ds.length ds ⟨nm, kd, f0, f1⟩ W hW hl (Nat.le_refl _) hs1 (by show nm.size ≤ _; omega)
      have hb := fun W g (hW : IRow W g ds []) => implAdd_any u g ds.length ds ⟨nm, kd, f0, f1⟩ W hW hl (Nat.le_refl _) hs1 (by show nm.size ≤ _; omega)
      unfold GivesAdd at ha hb
      by_cases h0 : addC u ds ⟨nm, kd, f0, f1⟩ = 0
      · simp only [if_pos h0] at ha hb
        have h12 : ¬ 12 ≤ ds.length := by
          rcases addC_cases u ds ⟨nm, kd, f0, f1⟩ with ⟨_, e⟩ | ⟨_, _, e⟩ | ⟨_, _, _, e⟩ | ⟨_, _, _, _, e⟩ | ⟨_, _, _, _, _, e⟩ | ⟨_, _, _, _, e, _⟩
          all_goals first | exact e | (rw [e] at h0; exact absurd h0 (by decide))
        exact walk_some A c u ds nm kd f0 f1 (ds ++ [(⟨nm, kd, f0, f1⟩ : It)]) w h (by omega) (by simp; omega) ha hb
      · simp only [if_neg h0] at ha hb
        exact walk_none A c u ds nm kd f0 f1 _ w h (by omega) ha hb

set_option maxRecDepth 100000 in
theorem lifted (os : Os) (started : os.Started) (H : Type) (enc : TypeId × Value → H) :
    ReturnsInHanded {} Try.checked os 3 .any (Rows.fnExactAddItemSpec.pre6 enc Try.prog Try.f3 Rows.fnExactAddItemRow.domain false) (Rows.fnExactAddItemSpec.post enc Try.prog Try.f3 false true false false) := by
  refine returnsInHanded_of_change (C := Try.checked) own started (by kernel_rfl) Try.func3
    (ChangeSpec.witness6 (enc := enc) (C := Try.checked) false ⟨#[], #[.agg #[.int .i64 0, .slice none 0 0], .agg #[.string ByteArray.empty, .int .i64 0, .int .i64 0, .int .i64 0]], []⟩ 8 (by kernel_rfl) (by kernel_rfl) (by kernel_rfl) (by kernel_rfl)) ?_
  intro W base args ds gs before hval0 hW _ _
  have hval : ∀ (j : Nat) t v, Try.f3.params[j]? = some t → args[j]? = some v → Value.okWide Try.prog W .any base t v := hval0
  have hW' := hW
  obtain ⟨p, q, hA0, hV, rfl, _, _⟩ := hW
  have hA : DataW.TrodAll enc Try.prog W 0 (fun _ => true) true Try.f3.params.toList args.toList ds p := hA0
  rw [Try.params3] at hA hval
  obtain ⟨v0, vs0, d0, ds0, p0, q0, hargs, rfl, rfl, h0, r0⟩ := trodAll_cons hA
  obtain ⟨v1, vs1, d1, ds1, p1, q1, rfl, rfl, rfl, h1, r1⟩ := trodAll_cons r0
  obtain ⟨rfl, rfl, rfl⟩ := trodAll_nil r1
  obtain rfl : args = #[v0, v1] := by cases args; simp_all
  obtain ⟨rfl, rfl⟩ := trodVars_none hV
  obtain ⟨u0, A0, c0, ds0', rfl, wu0, i0, l0, z0⟩ := open_layout (hval 0 24 v0 rfl rfl) h0
  obtain ⟨it1, rfl, z1⟩ := open_itemv (hval 1 28 v1 rfl rfl) h1
  refine (walk u0 A0 c0 ds0' i0 l0 z0 it1 z1 W rfl).mono fun e W' ⟨he, hb⟩ => ?_
  subst he
  refine ⟨_, rfl, law_post hW' rfl rfl ?_ rfl rfl rfl hb⟩
  intro t ht
  rw [Try.params3] at ht
  have ht' : t = 24 ∨ t = 28 := by simpa using ht
  rcases ht' with rfl | rfl <;> exact ⟨by kernel_rfl, of_decide_eq_true (by kernel_rfl)⟩

theorem over : Rows.fnExactAddItemRow.holds Try.pinned (OpenSpec.ofChange Rows.fnExactAddItemSpec) :=
  OpenClaim.holds_of_wide 3 Try.f3 rfl rfl rfl rfl rfl rfl rfl ⟨rfl, rfl, rfl, rfl, rfl⟩ rfl rfl rfl rfl rfl (by kernel_rfl) Try.func3 (by kernel_rfl)
    (of_decide_eq_true (by kernel_rfl)) (by unfold Func.isWrapper; first | (rw [if_pos (by decide +kernel)]; kernel_rfl) | (rw [if_neg (by decide +kernel)]; exact ⟨rfl, rfl⟩))
    (fun os started H enc _ => lifted os started H enc)

theorem proved : Rows.FnExactAddItemSaid :=
  over
end Go.Proofs.Ytngbmkbilopddaa.fnExactAddItem
