/- For every two cards, the law FnExactShiftOf returns true: impl.ShiftOf answers as spec.ShiftOf and leaves its arguments as they were. Conditions: none. -/
import Derived.Test.YthkfdfocghmmeaaShiftOfI
import Derived.Test.YthkfdfocghmmeaaLaw
import Derived.Test.YthkfdfocghmmeaaBoxed
import Derived.Deep.RegionHeld3
import Derived.Deep.DeepCutAuto
namespace Go.Proofs.Ythkfdfocghmmeaa.fnExactShiftOf
open Go.ChangeShapes Go.WideShapes Go.ChangeAt Go.RowKit

theorem walk_big (A A' : Option Addr) (c n c' n' : Nat) (w : World) (hn : n ≤ 9223372036854775807) (hbig : 1048576 < n) :
    Calls Try.prog 7 #[.agg #[.slice A n c], .agg #[.slice A' n' c']] w fun e w' => e = .returned (.bool true) ∧ Below w.heap.size w w' := by
  have hs := fun W => szCard_any A n c 1048576 W (by omega) (by omega) hn
  have e : (if (1048576 : Int) < (n : Int) then (-1 : Int) else 1048576 - n) = -1 := if_pos (by omega)
  rw [e] at hs
  have HS := Lib.hid hs
  clear hs e
  go_enter Try.func7, Try.ntmps7
  go_wp2_with fail
  refine (HS.out _).mono ?_
  rintro e w1 ⟨rfl, hb1⟩
  have B1 := Lib.hid (below_step ((below_box w _).alloc (by simp) _) hb1)
  clear hb1
  go_wp2
  go_ret
  exact ⟨rfl, B1.out⟩

theorem walk_sum (A A' : Option Addr) (c n c' n' : Nat) (w : World) (hn : n ≤ 1048576) (hn' : n' ≤ 9223372036854775807) (hbig : 1048576 < n + n') :
    Calls Try.prog 7 #[.agg #[.slice A n c], .agg #[.slice A' n' c']] w fun e w' => e = .returned (.bool true) ∧ Below w.heap.size w w' := by
  have hs := fun W => szCard_any A n c 1048576 W (by omega) (by omega) (by omega)
  have hs' := fun W => szCard_any A' n' c' (1048576 - n) W (by omega) (by omega) (by omega)
  have e : (if (1048576 : Int) < (n : Int) then (-1 : Int) else 1048576 - n) = 1048576 - n := if_neg (by omega)
  have e' : (if (1048576 - n : Int) < (n' : Int) then (-1 : Int) else 1048576 - n - n') = -1 := if_pos (by omega)
  rw [e] at hs
  rw [e'] at hs'
  have HS := Lib.hid hs
  have HS' := Lib.hid hs'
  clear hs e hs' e'
  go_enter Try.func7, Try.ntmps7
  go_wp2_with fail
  refine (HS.out _).mono ?_
  rintro e w1 ⟨rfl, hb⟩
  have B1 := Lib.hid (below_step ((below_box w _).alloc (by simp) _) hb)
  have d1 := cell_kept (p := ⟨w.heap.size + 1, 0, none⟩) (v := .slice A' n' c') (by simp [go_sem]) hb
  clear hb
  go_wp2_with fail
  refine (HS'.out _).mono ?_
  rintro e w2 ⟨rfl, hb⟩
  have B2 := Lib.hid (below_step B1.out hb)
  clear hb
  go_wp2
  go_ret
  exact ⟨rfl, B2.out⟩

set_option maxRecDepth 100000 in
set_option maxHeartbeats 4000000 in
theorem walk_small (A A' : Option Addr) (c c' : Nat) (xs ys : List Int) (vv : Int) (vc : Int) (w : World) (h : Ints w w.heap.size A xs) (h' : Ints w w.heap.size A' ys) (hn : xs.length + ys.length ≤ 1048576)
    (hs : ∀ (W : World) (A A' : Option Addr) (B B' : Nat), Ints W B A xs → Ints W B' A' ys → B ≤ W.heap.size → B' ≤ W.heap.size → Calls Try.prog 29 #[.agg #[.slice A xs.length xs.length], .agg #[.slice A' ys.length ys.length]] W fun e w' => e = .returned (.tuple #[.int .i64 vv, .int .i64 vc]) ∧ Below W.heap.size W w')
    (hi : ∀ (W : World) (A A' : Option Addr) (B B' : Nat), Ints W B A xs → Ints W B' A' ys → B ≤ W.heap.size → B' ≤ W.heap.size → Calls Try.prog 30 #[.agg #[.slice A xs.length xs.length], .agg #[.slice A' ys.length ys.length]] W fun e w' => e = .returned (.tuple #[.int .i64 vv, .int .i64 vc]) ∧ Below W.heap.size W w') :
    Calls Try.prog 7 #[.agg #[.slice A xs.length c], .agg #[.slice A' ys.length c']] w fun e w' => e = .returned (.bool true) ∧ Below w.heap.size w w' := by
  have hq := fun W => szCard_any A xs.length c 1048576 W (by omega) (by omega) (by omega)
  have hq' := fun W => szCard_any A' ys.length c' (1048576 - xs.length) W (by omega) (by omega) (by omega)
  have e : (if (1048576 : Int) < (xs.length : Int) then (-1 : Int) else 1048576 - xs.length) = 1048576 - xs.length := if_neg (by omega)
  have e' : (if (1048576 - xs.length : Int) < (ys.length : Int) then (-1 : Int) else 1048576 - xs.length - ys.length) = 1048576 - xs.length - ys.length := if_neg (by omega)
  rw [e] at hq
  rw [e'] at hq'
  have HZ := Lib.hid hq
  have HZ' := Lib.hid hq'
  have H := Lib.hid h
  have H' := Lib.hid h'
  have HS := Lib.hid hs
  have HI := Lib.hid hi
  have hx1 : xs.length ≤ 1048576 := by omega
  have hy1 : ys.length ≤ 1048576 := by omega
  have hx2 : xs.length ≤ 140737488355328 := by omega
  have hy2 : ys.length ≤ 140737488355328 := by omega
  clear hq e hq' e' h h' hs hi
  go_enter Try.func7, Try.ntmps7
  go_wp2_with fail
  refine (HZ.out _).mono ?_
  rintro e w1 ⟨rfl, hb⟩
  have B_1 := Lib.hid (below_step ((below_box w _).alloc (by simp) _) hb)
  have ca_1 := cell_kept (p := ⟨w.heap.size, 0, none⟩) (v := .slice A xs.length c) (by simp [go_sem]) hb
  have cb_1 := cell_kept (p := ⟨w.heap.size + 1, 0, none⟩) (v := .slice A' ys.length c') (by simp [go_sem]) hb
  clear hb
  go_wp2_with fail
  refine (HZ'.out _).mono ?_
  rintro e w2 ⟨rfl, hb⟩
  have B_2 := Lib.hid (below_step B_1.out hb)
  have ca_2 := cell_kept ca_1 hb
  have cb_2 := cell_kept cb_1 hb
  clear hb ca_1 cb_1 B_1
  go_upto_region 8 with fail
  go_cut [6, 7] (fun s0 s1 wx => s0 = .int .i64 vv ∧ s1 = .int .i64 vc ∧ Below w2.heap.size w2 wx)
  case first =>
    have tok0 : True := trivial
    have K0 := Lib.hid (below_drew (Below.refl w2.heap.size w2))
    go_region_held3 (fun W => W.cell? ⟨w.heap.size, 0, none⟩ = some (.slice A xs.length c) ∧ W.cell? ⟨w.heap.size + 1, 0, none⟩ = some (.slice A' ys.length c'))
      (first | exact ⟨ca_2, cb_2⟩ | exact ⟨cell_kept ca_2 K0.out, cell_kept cb_2 K0.out⟩ | exact ⟨cell_kept ca_2 K1.out, cell_kept cb_2 K1.out⟩ | exact ⟨cell_kept ca_2 K2.out, cell_kept cb_2 K2.out⟩ | exact ⟨cell_kept ca_2 K3.out, cell_kept cb_2 K3.out⟩ | go_keep)
      (first
        | (go_at_call 15
           have _t := tok0
           refine (toCard_any A c xs w.heap.size _ ?_ ?_ hx1).mono ?_
           · first | exact H.out.below B_2.out.drew
           · first | exact B_2.out.drew.size
           rintro e w2_1 ⟨ga, rfl, hg, hb, hrow⟩
           have K1 : Hid (Below w2.heap.size w2 w2_1) := below_step K0.out hb
           have Ra_r1 := Lib.hid hrow
           clear hb hrow hg _t tok0)
        | (go_at_call 15
           refine (toCard_any A' c' ys w.heap.size _ ?_ ?_ hy1).mono ?_
           · first | exact H'.out.below (below_step B_2.out K1.out)
           · first | exact (below_step B_2.out K1.out).size
           rintro e w2_2 ⟨gb, rfl, hg, hb, hrow⟩
           have K2 : Hid (Below w2.heap.size w2 w2_2) := below_step K1.out hb
           have Ra_r2 := Lib.hid (Ra_r1.out.later hb)
           have Rb_r2 := Lib.hid hrow
           clear hb hrow hg)
        | (go_at_call 29
           refine (HS.out _ (some ⟨ga, 0, none⟩) (some ⟨gb, 0, none⟩) (ga + 1) (gb + 1) ?_ ?_ ?_ ?_).mono ?_
           · first | exact Ra_r2.out.ints
           · first | exact Rb_r2.out.ints
           · first | exact Ra_r2.out.lt
           · first | exact Rb_r2.out.lt
           rintro e w2_3 ⟨rfl, hb⟩
           have K3 : Hid (Below w2.heap.size w2 w2_3) := below_step K2.out hb
           clear hb))
    all_goals (go_wp2_with fail; go_meet; exact ⟨rfl, rfl, K3.out⟩)
  case rest =>
    obtain ⟨rfl, rfl, hb⟩ := hcut
    rename World => w3
    have B_3 := Lib.hid (below_step B_2.out hb)
    have ca_3 := cell_kept ca_2 hb
    have cb_3 := cell_kept cb_2 hb
    clear hb ca_2 cb_2 B_2
    go_wp2_with fail
    refine (toCard_any A c xs w.heap.size _ (H.out.below B_3.out) B_3.out.size hx1).mono ?_
    rintro e w4 ⟨gx, rfl, hg, hb, hrow⟩
    have L_ca_Rx : Hid (w.heap.size < gx) := Nat.lt_of_lt_of_le (World.block_lt_of_cell? _ _ ca_3) hg
    have L_cb_Rx : Hid (w.heap.size + 1 < gx) := Nat.lt_of_lt_of_le (World.block_lt_of_cell? _ _ cb_3) hg
    have G_Rx := Lib.hid (Nat.le_trans B_3.out.size hg)
    have B_4 := Lib.hid (below_step B_3.out hb)
    have ca_4 := cell_kept ca_3 hb
    have cb_4 := cell_kept cb_3 hb
    have Rx_4 := Lib.hid hrow
    clear hb hrow hg ca_3 cb_3 B_3
    have L_Rx_bx : Hid (gx < w4.heap.size) := Nat.lt_of_lt_of_le (Rx_4.out.lt) (Nat.le_refl _)
    have hb := below_box w4 (.cells #[.slice (some ⟨gx, 0, none⟩) xs.length xs.length] 28)
    have B_5 := Lib.hid (below_step B_4.out hb)
    have ca_5 := cell_kept ca_4 hb
    have cb_5 := cell_kept cb_4 hb
    have Rx_5 := Lib.hid (Rx_4.out.later hb)
    have bx_5 : (w4.alloc (.cells #[.slice (some ⟨gx, 0, none⟩) xs.length xs.length] 28)).cell? ⟨w4.heap.size, 0, none⟩ = some (.slice (some ⟨gx, 0, none⟩) xs.length xs.length) := by simp
    clear hb ca_4 cb_4 Rx_4 B_4
    go_wp2_with fail
    refine (toCard_any A' c' ys w.heap.size _ (H'.out.below B_5.out) B_5.out.size hy1).mono ?_
    rintro e w6 ⟨gy, rfl, hg, hb, hrow⟩
    have L_ca_Ry : Hid (w.heap.size < gy) := Nat.lt_of_lt_of_le (World.block_lt_of_cell? _ _ ca_5) hg
    have L_cb_Ry : Hid (w.heap.size + 1 < gy) := Nat.lt_of_lt_of_le (World.block_lt_of_cell? _ _ cb_5) hg
    have L_Rx_Ry : Hid (gx < gy) := Nat.lt_of_lt_of_le (Rx_5.out.lt) hg
    have L_bx_Ry : Hid (w4.heap.size < gy) := Nat.lt_of_lt_of_le (World.block_lt_of_cell? _ _ bx_5) hg
    have G_Ry := Lib.hid (Nat.le_trans B_5.out.size hg)
    have B_6 := Lib.hid (below_step B_5.out hb)
    have ca_6 := cell_kept ca_5 hb
    have cb_6 := cell_kept cb_5 hb
    have bx_6 := cell_kept bx_5 hb
    have Rx_6 := Lib.hid (Rx_5.out.later hb)
    have Ry_6 := Lib.hid hrow
    clear hb hrow hg ca_5 cb_5 bx_5 Rx_5 B_5
    have L_Rx_by_ : Hid (gx < w6.heap.size) := Nat.lt_of_lt_of_le (Rx_6.out.lt) (Nat.le_refl _)
    have L_Ry_by_ : Hid (gy < w6.heap.size) := Nat.lt_of_lt_of_le (Ry_6.out.lt) (Nat.le_refl _)
    have hb := below_box w6 (.cells #[.slice (some ⟨gy, 0, none⟩) ys.length ys.length] 28)
    have B_7 := Lib.hid (below_step B_6.out hb)
    have ca_7 := cell_kept ca_6 hb
    have cb_7 := cell_kept cb_6 hb
    have bx_7 := cell_kept bx_6 hb
    have Rx_7 := Lib.hid (Rx_6.out.later hb)
    have Ry_7 := Lib.hid (Ry_6.out.later hb)
    have by__7 : (w6.alloc (.cells #[.slice (some ⟨gy, 0, none⟩) ys.length ys.length] 28)).cell? ⟨w6.heap.size, 0, none⟩ = some (.slice (some ⟨gy, 0, none⟩) ys.length ys.length) := by simp
    clear hb ca_6 cb_6 bx_6 Rx_6 Ry_6 B_6
    go_wp2_with fail
    refine (HI.out _ (some ⟨gx, 0, none⟩) (some ⟨gy, 0, none⟩) (gx + 1) (gy + 1) Rx_7.out.ints Ry_7.out.ints Rx_7.out.lt Ry_7.out.lt).mono ?_
    rintro e w8 ⟨rfl, hb⟩
    have B_8 := Lib.hid (below_step B_7.out hb)
    have ca_8 := cell_kept ca_7 hb
    have cb_8 := cell_kept cb_7 hb
    have bx_8 := cell_kept bx_7 hb
    have by__8 := cell_kept by__7 hb
    have Rx_8 := Lib.hid (Rx_7.out.later hb)
    have Ry_8 := Lib.hid (Ry_7.out.later hb)
    clear hb ca_7 cb_7 bx_7 by__7 Rx_7 Ry_7 B_7
    go_wp2
    go_region_held3 (fun W => W.cell? ⟨w.heap.size, 0, none⟩ = some (.slice A xs.length c) ∧ W.cell? ⟨w4.heap.size, 0, none⟩ = some (.slice (some ⟨gx, 0, none⟩) xs.length xs.length))
      (first | exact ⟨ca_8, bx_8⟩ | exact ⟨ca_9, bx_9⟩ | exact ⟨ca_10, bx_10⟩)
      (first
        | (go_at_call 15
           refine (toCard_any A c xs w.heap.size _ ?_ ?_ hx1).mono ?_
           · exact H.out.below B_8.out.drew
           · exact B_8.out.drew.size
           rintro e w9 ⟨ge, rfl, hg, hb, hrow⟩
           have L_Rx_Re : Hid (gx < ge) := Nat.lt_of_lt_of_le (Rx_8.out.lt) hg
           have L_Ry_Re : Hid (gy < ge) := Nat.lt_of_lt_of_le (Ry_8.out.lt) hg
           have B_9 := Lib.hid (below_step B_8.out.drew hb)
           have ca_9 := cell_kept (w := w8.drew) ca_8 hb
           have cb_9 := cell_kept (w := w8.drew) cb_8 hb
           have bx_9 := cell_kept (w := w8.drew) bx_8 hb
           have by__9 := cell_kept (w := w8.drew) by__8 hb
           have Rx_9 := Lib.hid (Rx_8.out.drew.later hb)
           have Ry_9 := Lib.hid (Ry_8.out.drew.later hb)
           have Re_9 := Lib.hid hrow
           clear hb hrow hg)
        | (go_at_call 17
           refine (eqCard_any (some ⟨gx, 0, none⟩) (some ⟨ge, 0, none⟩) _ _ xs xs (gx + 1) (ge + 1) _ ?_ ?_ ?_ ?_ hx1 hx2).mono ?_
           · exact Rx_9.out.ints
           · exact Re_9.out.ints
           · exact Rx_9.out.lt
           · exact Re_9.out.lt
           rintro e w10 ⟨rfl, hb⟩
           have B_10 := Lib.hid (below_step B_9.out hb)
           have ca_10 := cell_kept ca_9 hb
           have cb_10 := cell_kept cb_9 hb
           have bx_10 := cell_kept bx_9 hb
           have by__10 := cell_kept by__9 hb
           have Rx_10 := Lib.hid (Rx_9.out.later hb)
           have Ry_10 := Lib.hid (Ry_9.out.later hb)
           have Re_10 := Lib.hid (Re_9.out.later hb)
           clear hb))
    clear ca_8 cb_8 bx_8 by__8 Rx_8 Ry_8 B_8 ca_9 cb_9 bx_9 by__9 Rx_9 Ry_9 Re_9 B_9
    clear Re_10
    go_wp2
    go_region_held3 (fun W => W.cell? ⟨w.heap.size + 1, 0, none⟩ = some (.slice A' ys.length c') ∧ W.cell? ⟨w6.heap.size, 0, none⟩ = some (.slice (some ⟨gy, 0, none⟩) ys.length ys.length))
      (first | exact ⟨cb_10, by__10⟩ | exact ⟨cb_11, by__11⟩ | exact ⟨cb_12, by__12⟩)
      (first
        | (go_at_call 15
           refine (toCard_any A' c' ys w.heap.size _ ?_ ?_ hy1).mono ?_
           · exact H'.out.below B_10.out.drew
           · exact B_10.out.drew.size
           rintro e w11 ⟨ge, rfl, hg, hb, hrow⟩
           have L_Rx_Re : Hid (gx < ge) := Nat.lt_of_lt_of_le (Rx_10.out.lt) hg
           have L_Ry_Re : Hid (gy < ge) := Nat.lt_of_lt_of_le (Ry_10.out.lt) hg
           have B_11 := Lib.hid (below_step B_10.out.drew hb)
           have ca_11 := cell_kept (w := w10.drew) ca_10 hb
           have cb_11 := cell_kept (w := w10.drew) cb_10 hb
           have bx_11 := cell_kept (w := w10.drew) bx_10 hb
           have by__11 := cell_kept (w := w10.drew) by__10 hb
           have Rx_11 := Lib.hid (Rx_10.out.drew.later hb)
           have Ry_11 := Lib.hid (Ry_10.out.drew.later hb)
           have Re_11 := Lib.hid hrow
           clear hb hrow hg)
        | (go_at_call 17
           refine (eqCard_any (some ⟨gy, 0, none⟩) (some ⟨ge, 0, none⟩) _ _ ys ys (gy + 1) (ge + 1) _ ?_ ?_ ?_ ?_ hy1 hy2).mono ?_
           · exact Ry_11.out.ints
           · exact Re_11.out.ints
           · exact Ry_11.out.lt
           · exact Re_11.out.lt
           rintro e w12 ⟨rfl, hb⟩
           have B_12 := Lib.hid (below_step B_11.out hb)
           have ca_12 := cell_kept ca_11 hb
           have cb_12 := cell_kept cb_11 hb
           have bx_12 := cell_kept bx_11 hb
           have by__12 := cell_kept by__11 hb
           have Rx_12 := Lib.hid (Rx_11.out.later hb)
           have Ry_12 := Lib.hid (Ry_11.out.later hb)
           have Re_12 := Lib.hid (Re_11.out.later hb)
           clear hb))
    clear ca_10 cb_10 bx_10 by__10 Rx_10 Ry_10 B_10 ca_11 cb_11 bx_11 by__11 Rx_11 Ry_11 Re_11 B_11
    clear Re_12
    go_wp2
    go_ret
    exact ⟨rfl, B_12.out⟩

theorem walk (A : Option Addr) (c : Nat) (xs : List Int) {w : World} (h : Ints w w.heap.size A xs) (hl : xs.length ≤ 9223372036854775807) (_ : ∀ n ∈ xs, (Lit.int .i64 n).wf = true)
    (A' : Option Addr) (c' : Nat) (ys : List Int) {w0 : World} (h' : Ints w0 w0.heap.size A' ys) (hl' : ys.length ≤ 9223372036854775807) (_ : ∀ n ∈ ys, (Lit.int .i64 n).wf = true) (w1 : World) (e1 : w = w1) (e0 : w0 = w1) :
    Calls Try.prog 7 #[.agg #[.slice A xs.length c], .agg #[.slice A' ys.length c']] w1 fun e w' => e = .returned (.bool true) ∧ Below w1.heap.size w1 w' := by
  subst e1
  subst e0
  by_cases hn : xs.length ≤ 1048576
  · by_cases hs : xs.length + ys.length ≤ 1048576
    · have hy1 : ys.length ≤ 1048576 := by omega
      exact walk_small A A' c c' xs ys _ _ w0 h h' hs (fun W A A' B B' hI hI' hB hB' => specShiftOf_any A A' _ _ xs ys B B' W hI hI' hB hB' hn hy1) (fun W A A' B B' hI hI' hB hB' => implShiftOf_any A A' _ _ xs ys B B' W hI hI' hB hB' hn hy1)
    · exact walk_sum A A' c xs.length c' ys.length w0 hn hl' (by omega)
  · exact walk_big A A' c xs.length c' ys.length w0 hl (by omega)

set_option maxRecDepth 100000 in
theorem lifted (os : Os) (started : os.Started) (H : Type) (enc : TypeId × Value → H) :
    ReturnsInHanded {} Try.checked os 7 .any (Rows.fnExactShiftOfSpec.pre6 enc Try.prog Try.f7 Rows.fnExactShiftOfRow.domain false) (Rows.fnExactShiftOfSpec.post enc Try.prog Try.f7 false true false false) := by
  refine returnsInHanded_of_change (C := Try.checked) own started (by kernel_rfl) Try.func7
    (ChangeSpec.witness6 (enc := enc) (C := Try.checked) false ⟨#[], #[.agg #[.slice none 0 0], .agg #[.slice none 0 0]], []⟩ 8 (by kernel_rfl) (by kernel_rfl) (by kernel_rfl) (by kernel_rfl)) ?_
  intro W base args ds gs before hval0 hW _ _
  have hval : ∀ (j : Nat) t v, Try.f7.params[j]? = some t → args[j]? = some v → Value.okWide Try.prog W .any base t v := hval0
  have hW' := hW
  obtain ⟨p, q, hA0, hV, rfl, _, _⟩ := hW
  have hA : DataW.TrodAll enc Try.prog W 0 (fun _ => true) true Try.f7.params.toList args.toList ds p := hA0
  rw [Try.params7] at hA hval
  obtain ⟨v0, vs0, d0, ds0, p0, q0, hargs, rfl, rfl, h0, r0⟩ := trodAll_cons hA
  obtain ⟨v1, vs1, d1, ds1, p1, q1, rfl, rfl, rfl, h1, r1⟩ := trodAll_cons r0
  obtain ⟨rfl, rfl, rfl⟩ := trodAll_nil r1
  obtain rfl : args = #[v0, v1] := by cases args; simp_all
  obtain ⟨rfl, rfl⟩ := trodVars_none hV
  obtain ⟨A0, c0, xs0, rfl, i0, l0, w0⟩ := open_card (hval 0 24 v0 rfl rfl) h0
  obtain ⟨A1, c1, xs1, rfl, i1, l1, w1⟩ := open_card (hval 1 24 v1 rfl rfl) h1
  refine (walk A0 c0 xs0 i0 l0 w0 A1 c1 xs1 i1 l1 w1 W rfl rfl).mono fun e W' ⟨he, hb⟩ => ?_
  subst he
  refine ⟨_, rfl, law_post hW' rfl rfl ?_ rfl rfl rfl hb⟩
  intro t ht
  rw [Try.params7] at ht
  obtain rfl : t = 24 := by simpa using ht
  exact ⟨by kernel_rfl, of_decide_eq_true (by kernel_rfl)⟩

theorem over : Rows.fnExactShiftOfRow.holds Try.pinned (OpenSpec.ofChange Rows.fnExactShiftOfSpec) :=
  OpenClaim.holds_of_wide 7 Try.f7 rfl rfl rfl rfl rfl rfl rfl ⟨rfl, rfl, rfl, rfl, rfl⟩ rfl rfl rfl rfl rfl (by kernel_rfl) Try.func7 (by kernel_rfl)
    (of_decide_eq_true (by kernel_rfl)) (by unfold Func.isWrapper; first | (rw [if_pos (by decide +kernel)]; kernel_rfl) | (rw [if_neg (by decide +kernel)]; exact ⟨rfl, rfl⟩))
    (fun os started H enc _ => lifted os started H enc)

theorem proved : Rows.FnExactShiftOfSaid :=
  over
end Go.Proofs.Ythkfdfocghmmeaa.fnExactShiftOf
