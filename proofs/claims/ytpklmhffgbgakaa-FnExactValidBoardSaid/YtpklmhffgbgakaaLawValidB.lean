/- For every board, the law FnExactValidBoard returns true: impl.ValidBoard answers as spec.ValidBoard, and leaves its argument as it was. Conditions: none. -/
import Derived.Test.YtpklmhffgbgakaaBrdOk
import Derived.Test.YtpklmhffgbgakaaLaw
import Derived.Test.YtpklmhffgbgakaaBoxed
import Derived.Test.YtpklmhffgbgakaaBoard
import Derived.Deep.RegionHeld3
import Derived.Deep.DeepCutAuto
import Derived.Laws.NewDeep
namespace Go.Proofs.Ytpklmhffgbgakaa.fnExactValidBoard
open Go.ChangeShapes Go.WideShapes Go.ChangeAt Go.RowKit

theorem walk_big0 (e0 m0 j0 : Int) (A0 : Option Addr) (c0 : Nat) (P0 : List (Int × Int)) (w : World) (h0 : Wires w w.heap.size A0 P0) (l0 : P0.length ≤ 9223372036854775807)  (hbig : 1048576 < (P0.length : Int)) :
    Calls Try.prog 3 #[.agg #[.int .i64 e0, .int .i64 m0, .int .i64 j0, .slice A0 P0.length c0]] w fun e w' => e = .returned (.bool true) ∧ Below w.heap.size w w' := by
  have z0 := fun (W : World) (_ : Below w.heap.size w W) => szBoard_any e0 m0 j0 A0 P0.length c0 (1048576) W (by omega) (by omega) (by omega)
  have e0_ : (if (1048576) < (P0.length : Int) then (-1 : Int) else 1048576 - P0.length) = -1 := if_pos (by omega)
  simp only [e0_] at z0
  clear e0_
  obtain ⟨n0, hn0⟩ : ∃ n, P0.length = n := ⟨_, rfl⟩
  rw [hn0] at hbig
  simp only [hn0] at z0 ⊢
  have Z0 := Lib.hid z0
  clear z0 hn0 h0 l0
  go_enter Try.func3, Try.ntmps3
  go_wp2_with fail
  refine (Z0.out _ (below_box w _)).mono ?_
  rintro e w1 ⟨rfl, hb⟩
  have B_1 := Lib.hid (below_step (below_box w _) hb)
  have a0c0_1 := cell_kept (p := ⟨w.heap.size, 0, none⟩) (v := .int .i64 e0) (by simp [go_sem]) hb
  have a0c1_1 := cell_kept (p := ⟨w.heap.size, 1, none⟩) (v := .int .i64 m0) (by simp [go_sem]) hb
  have a0c2_1 := cell_kept (p := ⟨w.heap.size, 2, none⟩) (v := .int .i64 j0) (by simp [go_sem]) hb
  have a0c3_1 := cell_kept (p := ⟨w.heap.size, 3, none⟩) (v := .slice A0 n0 c0) (by simp [go_sem]) hb
  have S_1 : Hid (w.heap.size + 1 ≤ w1.heap.size) := by show _ ≤ _; have := hb.size; simpa using this
  clear hb
  go_wp2
  go_ret
  exact ⟨rfl, B_1.out⟩

set_option maxRecDepth 100000 in
set_option maxHeartbeats 8000000 in
theorem walk_small (e0 m0 j0 : Int) (A0 : Option Addr) (c0 : Nat) (P0 : List (Int × Int)) (v : Bool) (w : World) (h0 : Wires w w.heap.size A0 P0) (hs : (P0.length : Int) ≤ 1048576) 
    (hv : ∀ (W : World) (A0 : Option Addr) (B0 : Nat), Below w.heap.size w W → Wires W B0 A0 P0 → B0 ≤ W.heap.size → Calls Try.prog 16 #[.agg #[.int .i64 e0, .int .i64 m0, .int .i64 j0, .slice A0 P0.length P0.length]] W fun e w' => e = .returned (.bool v) ∧ Below W.heap.size W w')
    (hi : ∀ (W : World) (A0 : Option Addr) (B0 : Nat), Below w.heap.size w W → Wires W B0 A0 P0 → B0 ≤ W.heap.size → Calls Try.prog 18 #[.agg #[.int .i64 e0, .int .i64 m0, .int .i64 j0, .slice A0 P0.length P0.length]] W fun e w' => e = .returned (.bool v) ∧ Below W.heap.size W w') :
    Calls Try.prog 3 #[.agg #[.int .i64 e0, .int .i64 m0, .int .i64 j0, .slice A0 P0.length c0]] w fun e w' => e = .returned (.bool true) ∧ Below w.heap.size w w' := by
  have z0 := fun (W : World) (_ : Below w.heap.size w W) => szBoard_any e0 m0 j0 A0 P0.length c0 (1048576) W (by omega) (by omega) (by omega)
  have e0_ : (if (1048576) < (P0.length : Int) then (-1 : Int) else 1048576 - P0.length) = 1048576 - P0.length := if_neg (by omega)
  simp only [e0_] at z0
  clear e0_
  have hm0 : P0.length ≤ 1048576 := by omega
  have t0 := fun W (hW : Below w.heap.size w W) => toBoardAt_any e0 m0 j0 A0 c0 P0 w.heap.size W (h0.below hW) hW.size hm0
  have q0 := fun A A' W (hA : Wires W W.heap.size A P0) (hA' : Wires W W.heap.size A' P0) => eqBoardAt_any e0 m0 j0 A A' P0.length P0.length P0 W hA hA' hm0
  have cv : ∀ (W : World) (g0 lo0 hi0 : Nat), Below w.heap.size w W → WAt W lo0 hi0 (some ⟨g0, 0, none⟩) P0 → Calls Try.prog 16 #[.agg #[.int .i64 e0, .int .i64 m0, .int .i64 j0, .slice (some ⟨g0, 0, none⟩) P0.length P0.length]] W fun e w' => e = .returned (.bool v) ∧ Below W.heap.size W w' := fun W g0 lo0 hi0 hW hO0 => by
    have := hv W (some ⟨g0, 0, none⟩) W.heap.size hW hO0.wires (Nat.le_refl _)
    exact this
  have ci : ∀ (W : World) (g0 lo0 hi0 : Nat), Below w.heap.size w W → WAt W lo0 hi0 (some ⟨g0, 0, none⟩) P0 → Calls Try.prog 18 #[.agg #[.int .i64 e0, .int .i64 m0, .int .i64 j0, .slice (some ⟨g0, 0, none⟩) P0.length P0.length]] W fun e w' => e = .returned (.bool v) ∧ Below W.heap.size W w' := fun W g0 lo0 hi0 hW hO0 => by
    have := hi W (some ⟨g0, 0, none⟩) W.heap.size hW hO0.wires (Nat.le_refl _)
    exact this
  obtain ⟨n0, hn0⟩ : ∃ n, P0.length = n := ⟨_, rfl⟩
  simp only [hn0] at z0 t0 q0 cv ci hs ⊢
  have Z0 := Lib.hid z0
  have T0 := Lib.hid t0
  have Q0 := Lib.hid q0
  have CV := Lib.hid cv
  have CI := Lib.hid ci
  have g0 : ¬ 1048576 - (n0 : Int) < 0 := by omega
  clear cv ci hv hi z0 t0 q0 hn0 h0 hm0
  cases v
  all_goals
    go_enter Try.func3, Try.ntmps3
    go_wp2_with fail
    refine (Z0.out _ (below_box w _)).mono ?_
    rintro e w1 ⟨rfl, hb⟩
    have B_1 := Lib.hid (below_step (below_box w _) hb)
    have a0c0_1 := cell_kept (p := ⟨w.heap.size, 0, none⟩) (v := .int .i64 e0) (by simp [go_sem]) hb
    have a0c1_1 := cell_kept (p := ⟨w.heap.size, 1, none⟩) (v := .int .i64 m0) (by simp [go_sem]) hb
    have a0c2_1 := cell_kept (p := ⟨w.heap.size, 2, none⟩) (v := .int .i64 j0) (by simp [go_sem]) hb
    have a0c3_1 := cell_kept (p := ⟨w.heap.size, 3, none⟩) (v := .slice A0 n0 c0) (by simp [go_sem]) hb
    have S_1 : Hid (w.heap.size + 1 ≤ w1.heap.size) := by show _ ≤ _; have := hb.size; simpa using this
    clear hb
    go_wp2_with fail
    refine (T0.out _ B_1.out).mono ?_
    rintro e w2 ⟨gw0, rfl, hb, ho⟩
    have B_2 := Lib.hid (below_step B_1.out hb)
    have a0c0_2 := cell_kept a0c0_1 hb
    have a0c1_2 := cell_kept a0c1_1 hb
    have a0c2_2 := cell_kept a0c2_1 hb
    have a0c3_2 := cell_kept a0c3_1 hb
    have S_2 : Hid (w1.heap.size ≤ w2.heap.size) := hb.size
    have w0_2 := Lib.hid ho
    clear hb ho B_1 a0c0_1 a0c1_1 a0c2_1 a0c3_1
    go_wp2_with fail
    refine (CV.out _ _ _ _ B_2.out w0_2.out).mono ?_
    rintro e w3 ⟨rfl, hb⟩
    have B_3 := Lib.hid (below_step B_2.out hb)
    have a0c0_3 := cell_kept a0c0_2 hb
    have a0c1_3 := cell_kept a0c1_2 hb
    have a0c2_3 := cell_kept a0c2_2 hb
    have a0c3_3 := cell_kept a0c3_2 hb
    have w0_3 := Lib.hid (w0_2.out.later hb)
    have S_3 : Hid (w2.heap.size ≤ w3.heap.size) := hb.size
    clear hb B_2 a0c0_2 a0c1_2 a0c2_2 a0c3_2 w0_2
    clear w0_3
    go_wp2_with fail
    refine (T0.out _ B_3.out).mono ?_
    rintro e w4 ⟨gx0, rfl, hb, ho⟩
    have B_4 := Lib.hid (below_step B_3.out hb)
    have a0c0_4 := cell_kept a0c0_3 hb
    have a0c1_4 := cell_kept a0c1_3 hb
    have a0c2_4 := cell_kept a0c2_3 hb
    have a0c3_4 := cell_kept a0c3_3 hb
    have S_4 : Hid (w3.heap.size ≤ w4.heap.size) := hb.size
    have x0_4 := Lib.hid ho
    clear hb ho B_3 a0c0_3 a0c1_3 a0c2_3 a0c3_3
    have hb := below_box w4 (.cells #[.int .i64 e0, .int .i64 m0, .int .i64 j0, .slice (some ⟨gx0, 0, none⟩) n0 n0] 29)
    obtain ⟨hc0, hc1, hc2, hc3⟩ := board_cells w4 (e0) (m0) (j0) (.slice (some ⟨gx0, 0, none⟩) n0 n0) 29
    obtain ⟨w5, hW5⟩ : ∃ W, w4.alloc (.cells #[.int .i64 e0, .int .i64 m0, .int .i64 j0, .slice (some ⟨gx0, 0, none⟩) n0 n0] 29) = W := ⟨_, rfl⟩
    rw [hW5] at hb hc0 hc1 hc2 hc3
    have B_5 := Lib.hid (below_step B_4.out hb)
    have a0c0_5 := cell_kept a0c0_4 hb
    have a0c1_5 := cell_kept a0c1_4 hb
    have a0c2_5 := cell_kept a0c2_4 hb
    have a0c3_5 := cell_kept a0c3_4 hb
    have x0_5 := Lib.hid (x0_4.out.later hb)
    have S_5 : Hid (w4.heap.size ≤ w5.heap.size) := hb.size
    have bx0c0_5 := hc0
    have bx0c1_5 := hc1
    have bx0c2_5 := hc2
    have bx0c3_5 := hc3
    clear hb hc0 hc1 hc2 hc3 B_4 a0c0_4 a0c1_4 a0c2_4 a0c3_4 x0_4
    have Z_bx0 : Hid (w4.heap.size < w5.heap.size) := by show _ < _; rw [← hW5, World.size_alloc]; omega
    go_wp2_with fail
    refine (CI.out _ _ _ _ B_5.out x0_5.out).mono ?_
    rintro e w6 ⟨rfl, hb⟩
    have B_6 := Lib.hid (below_step B_5.out hb)
    have a0c0_6 := cell_kept a0c0_5 hb
    have a0c1_6 := cell_kept a0c1_5 hb
    have a0c2_6 := cell_kept a0c2_5 hb
    have a0c3_6 := cell_kept a0c3_5 hb
    have bx0c0_6 := cell_kept bx0c0_5 hb
    have bx0c1_6 := cell_kept bx0c1_5 hb
    have bx0c2_6 := cell_kept bx0c2_5 hb
    have bx0c3_6 := cell_kept bx0c3_5 hb
    have x0_6 := Lib.hid (x0_5.out.later hb)
    have S_6 : Hid (w5.heap.size ≤ w6.heap.size) := hb.size
    clear hb B_5 a0c0_5 a0c1_5 a0c2_5 a0c3_5 bx0c0_5 bx0c1_5 bx0c2_5 bx0c3_5 x0_5
    go_wp2
    go_region_held3 (fun W => W.cell? ⟨w4.heap.size, 0, none⟩ = some (.int .i64 e0) ∧ W.cell? ⟨w4.heap.size, 1, none⟩ = some (.int .i64 m0) ∧ W.cell? ⟨w4.heap.size, 2, none⟩ = some (.int .i64 j0) ∧ W.cell? ⟨w4.heap.size, 3, none⟩ = some (.slice (some ⟨gx0, 0, none⟩) n0 n0) ∧ W.cell? ⟨w.heap.size, 0, none⟩ = some (.int .i64 e0) ∧ W.cell? ⟨w.heap.size, 1, none⟩ = some (.int .i64 m0) ∧ W.cell? ⟨w.heap.size, 2, none⟩ = some (.int .i64 j0) ∧ W.cell? ⟨w.heap.size, 3, none⟩ = some (.slice A0 n0 c0))
      (first | exact ⟨bx0c0_6, bx0c1_6, bx0c2_6, bx0c3_6, a0c0_6, a0c1_6, a0c2_6, a0c3_6⟩ | exact ⟨bx0c0_7, bx0c1_7, bx0c2_7, bx0c3_7, a0c0_7, a0c1_7, a0c2_7, a0c3_7⟩ | exact ⟨bx0c0_8, bx0c1_8, bx0c2_8, bx0c3_8, a0c0_8, a0c1_8, a0c2_8, a0c3_8⟩)
      (first
        | (go_at_call 17
           refine (T0.out _ B_6.out.drew).mono ?_
           rintro e w7 ⟨gz0, rfl, hb, ho⟩
           have B_7 := Lib.hid (below_step B_6.out.drew hb)
           have a0c0_7 := cell_kept (w := w6.drew) a0c0_6 hb
           have a0c1_7 := cell_kept (w := w6.drew) a0c1_6 hb
           have a0c2_7 := cell_kept (w := w6.drew) a0c2_6 hb
           have a0c3_7 := cell_kept (w := w6.drew) a0c3_6 hb
           have bx0c0_7 := cell_kept (w := w6.drew) bx0c0_6 hb
           have bx0c1_7 := cell_kept (w := w6.drew) bx0c1_6 hb
           have bx0c2_7 := cell_kept (w := w6.drew) bx0c2_6 hb
           have bx0c3_7 := cell_kept (w := w6.drew) bx0c3_6 hb
           have x0_7 := Lib.hid (x0_6.out.drew.later hb)
           have S_7 : Hid (w6.heap.size ≤ w7.heap.size) := hb.size
           have z0_7 := Lib.hid ho
           clear hb ho)
        | (go_at_call 19
           refine (Q0.out _ _ _ x0_7.out.wires z0_7.out.wires).mono ?_
           rintro e w8 ⟨rfl, hb⟩
           have B_8 := Lib.hid (below_step B_7.out hb)
           have a0c0_8 := cell_kept a0c0_7 hb
           have a0c1_8 := cell_kept a0c1_7 hb
           have a0c2_8 := cell_kept a0c2_7 hb
           have a0c3_8 := cell_kept a0c3_7 hb
           have bx0c0_8 := cell_kept bx0c0_7 hb
           have bx0c1_8 := cell_kept bx0c1_7 hb
           have bx0c2_8 := cell_kept bx0c2_7 hb
           have bx0c3_8 := cell_kept bx0c3_7 hb
           have x0_8 := Lib.hid (x0_7.out.later hb)
           have z0_8 := Lib.hid (z0_7.out.later hb)
           have S_8 : Hid (w7.heap.size ≤ w8.heap.size) := hb.size
           clear hb))
    clear B_6 a0c0_6 a0c1_6 a0c2_6 a0c3_6 bx0c0_6 bx0c1_6 bx0c2_6 bx0c3_6 x0_6 B_7 a0c0_7 a0c1_7 a0c2_7 a0c3_7 bx0c0_7 bx0c1_7 bx0c2_7 bx0c3_7 x0_7 z0_7
    clear z0_8
    go_wp2
    go_ret
    exact ⟨rfl, B_8.out⟩

theorem walk (e0 m0 j0 : Int) (A0 : Option Addr) (c0 : Nat) (P0 : List (Int × Int)) {y0 : World} (h0 : Wires y0 y0.heap.size A0 P0) (l0 : P0.length ≤ 9223372036854775807) (hw0 : (Lit.int .i64 e0).wf = true ∧ (Lit.int .i64 m0).wf = true ∧ (Lit.int .i64 j0).wf = true) (w : World) (e0_ : y0 = w) :
    Calls Try.prog 3 #[.agg #[.int .i64 e0, .int .i64 m0, .int .i64 j0, .slice A0 P0.length c0]] w fun e w' => e = .returned (.bool true) ∧ Below w.heap.size w w' := by
  subst e0_
  by_cases hb0 : 1048576 < (P0.length : Int)
  · exact walk_big0 e0 m0 j0 A0 c0 P0 _ h0 l0  hb0
  have hs0 : (P0.length : Int) ≤ 1048576 := by omega
  have hm0 : P0.length ≤ 1048576 := by omega
  have hwb0 := wide_of hw0
  refine walk_small e0 m0 j0 A0 c0 P0 (boardB e0 m0 j0 P0) _ h0 hs0 (fun W A0 B0 hW hP0 hB0 => ?_) (fun W A0 B0 hW hP0 hB0 => ?_)
  · exact specValidBoard_any e0 m0 j0 A0 P0.length P0 B0 W hP0 hB0 hm0
  · exact implValidBoard_any e0 m0 j0 A0 P0.length P0 B0 W hP0 hB0 hm0

set_option maxRecDepth 100000 in
theorem lifted (os : Os) (started : os.Started) (H : Type) (enc : TypeId × Value → H) :
    ReturnsInHanded {} Try.checked os 3 .any (Rows.fnExactValidBoardSpec.pre6 enc Try.prog Try.f3 Rows.fnExactValidBoardRow.domain false) (Rows.fnExactValidBoardSpec.post enc Try.prog Try.f3 false true false false) := by
  refine returnsInHanded_of_change (C := Try.checked) own started (by kernel_rfl) Try.func3
    (ChangeSpec.witness6 (enc := enc) (C := Try.checked) false ⟨#[], #[.agg #[.int .i64 0, .int .i64 0, .int .i64 0, .slice none 0 0]], []⟩ 8 (by kernel_rfl) (by kernel_rfl) (by kernel_rfl) (by kernel_rfl)) ?_
  intro W base args ds gs before hval0 hW _ _
  have hval : ∀ (j : Nat) t v, Try.f3.params[j]? = some t → args[j]? = some v → Value.okWide Try.prog W .any base t v := hval0
  have hW' := hW
  obtain ⟨p, q, hA0, hV, rfl, _, _⟩ := hW
  have hA : DataW.TrodAll enc Try.prog W 0 (fun _ => true) true Try.f3.params.toList args.toList ds p := hA0
  rw [Try.params3] at hA hval
  obtain ⟨v0, vs0, d0, ds0, p0, q0, hargs, rfl, rfl, h0, r0⟩ := trodAll_cons hA
  obtain ⟨rfl, rfl, rfl⟩ := trodAll_nil r0
  obtain rfl : args = #[v0] := by cases args; simp_all
  obtain ⟨rfl, rfl⟩ := trodVars_none hV
  obtain ⟨e0, m0, j0, A0, c0, P0, rfl, i0, l0, w0⟩ := open_board (hval 0 24 v0 rfl rfl) h0
  refine (walk e0 m0 j0 A0 c0 P0 i0 l0 w0 W rfl).mono fun e W' ⟨he, hb⟩ => ?_
  subst he
  refine ⟨_, rfl, law_post hW' rfl rfl ?_ rfl rfl rfl hb⟩
  intro t ht
  rw [Try.params3] at ht
  obtain rfl : t = 24 := by simpa using ht
  exact ⟨by kernel_rfl, of_decide_eq_true (by kernel_rfl)⟩

theorem over : Rows.fnExactValidBoardRow.holds Try.pinned (OpenSpec.ofChange Rows.fnExactValidBoardSpec) :=
  OpenClaim.holds_of_wide 3 Try.f3 rfl rfl rfl rfl rfl rfl rfl ⟨rfl, rfl, rfl, rfl, rfl⟩ rfl rfl rfl rfl rfl (by kernel_rfl) Try.func3 (by kernel_rfl)
    (of_decide_eq_true (by kernel_rfl)) (by unfold Func.isWrapper; first | (rw [if_pos (by decide +kernel)]; kernel_rfl) | (rw [if_neg (by decide +kernel)]; exact ⟨rfl, rfl⟩))
    (fun os started H enc _ => lifted os started H enc)

theorem proved : Rows.FnExactValidBoardSaid :=
  over
end Go.Proofs.Ytpklmhffgbgakaa.fnExactValidBoard
