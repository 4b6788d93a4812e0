/- For every board and number, the law FnExactJoinedHubs returns true: impl.JoinedHubs answers as spec.JoinedHubs, in memory of its own, and leaves its arguments as it was. Conditions: none. -/
import Derived.Test.YtpklmhffgbgakaaJoined
import Derived.Test.YtpklmhffgbgakaaLaw
import Derived.Test.YtpklmhffgbgakaaBoxed
import Derived.Test.YtpklmhffgbgakaaBoard
import Derived.Test.YtpklmhffgbgakaaCardAt
import Derived.Test.YtpklmhffgbgakaaIntsAt
import Derived.Deep.RegionHeld3
import Derived.Deep.DeepCutAuto
import Derived.Laws.NewDeep
namespace Go.Proofs.Ytpklmhffgbgakaa.fnExactJoinedHubs
open Go.ChangeShapes Go.WideShapes Go.ChangeAt Go.RowKit

theorem walk_big0 (e0 m0 j0 : Int) (A0 : Option Addr) (c0 : Nat) (P0 : List (Int × Int)) (x1 : Int) (w : World) (h0 : Wires w w.heap.size A0 P0) (l0 : P0.length ≤ 9223372036854775807)  (hbig : 1048576 < (P0.length : Int)) :
    Calls Try.prog 7 #[.agg #[.int .i64 e0, .int .i64 m0, .int .i64 j0, .slice A0 P0.length c0], .int .i64 x1] w fun e w' => e = .returned (.bool true) ∧ Below w.heap.size w w' := by
  have z0 := fun (W : World) (_ : Below w.heap.size w W) => szBoard_any e0 m0 j0 A0 P0.length c0 (1048576) W (by omega) (by omega) (by omega)
  have e0_ : (if (1048576) < (P0.length : Int) then (-1 : Int) else 1048576 - P0.length) = -1 := if_pos (by omega)
  simp only [e0_] at z0
  clear e0_
  obtain ⟨n0, hn0⟩ : ∃ n, P0.length = n := ⟨_, rfl⟩
  rw [hn0] at hbig
  simp only [hn0] at z0 ⊢
  have Z0 := Lib.hid z0
  clear z0 hn0 h0 l0
  go_enter Try.func7, Try.ntmps7
  go_wp2_with fail
  refine (Z0.out _ (below_box w _)).mono ?_
  rintro e w1 ⟨rfl, hb⟩
  have B_1 := Lib.hid (below_step (below_box w _) hb)
  have a0c0_1 := cell_kept (p := ⟨w.heap.size, 0, none⟩) (v := .int .i64 e0) (by simp [go_sem]) hb
  have a0c1_1 := cell_kept (p := ⟨w.heap.size, 1, none⟩) (v := .int .i64 m0) (by simp [go_sem]) hb
  have a0c2_1 := cell_kept (p := ⟨w.heap.size, 2, none⟩) (v := .int .i64 j0) (by simp [go_sem]) hb
  have a0c3_1 := cell_kept (p := ⟨w.heap.size, 3, none⟩) (v := .slice A0 n0 c0) (by simp [go_sem]) hb
  have S_1 : Hid (w.heap.size + 1 ≤ w1.heap.size) := by show _ ≤ _; have := hb.size; simpa using this
  clear hb
  go_wp2
  go_ret
  exact ⟨rfl, B_1.out⟩

set_option maxRecDepth 100000 in
set_option maxHeartbeats 8000000 in
theorem walk_small (e0 m0 j0 : Int) (A0 : Option Addr) (c0 : Nat) (P0 : List (Int × Int)) (x1 : Int) (X : List Int) (v : Int) (w : World) (h0 : Wires w w.heap.size A0 P0) (hs : (P0.length : Int) ≤ 1048576) (hx : X.length ≤ 1048576)
    (hv : ∀ (W : World) (A0 : Option Addr) (B0 : Nat), Below w.heap.size w W → Wires W B0 A0 P0 → B0 ≤ W.heap.size → Calls Try.prog 29 #[.agg #[.int .i64 e0, .int .i64 m0, .int .i64 j0, .slice A0 P0.length P0.length], .int .i64 x1] W (GivesIC X v W))
    (hi : ∀ (W : World) (A0 : Option Addr) (B0 : Nat), Below w.heap.size w W → Wires W B0 A0 P0 → B0 ≤ W.heap.size → Calls Try.prog 30 #[.agg #[.int .i64 e0, .int .i64 m0, .int .i64 j0, .slice A0 P0.length P0.length], .int .i64 x1] W (GivesIC X v W)) :
    Calls Try.prog 7 #[.agg #[.int .i64 e0, .int .i64 m0, .int .i64 j0, .slice A0 P0.length c0], .int .i64 x1] w fun e w' => e = .returned (.bool true) ∧ Below w.heap.size w w' := by
  have z0 := fun (W : World) (_ : Below w.heap.size w W) => szBoard_any e0 m0 j0 A0 P0.length c0 (1048576) W (by omega) (by omega) (by omega)
  have e0_ : (if (1048576) < (P0.length : Int) then (-1 : Int) else 1048576 - P0.length) = 1048576 - P0.length := if_neg (by omega)
  simp only [e0_] at z0
  clear e0_
  have hm0 : P0.length ≤ 1048576 := by omega
  have t0 := fun W (hW : Below w.heap.size w W) => toBoardAt_any e0 m0 j0 A0 c0 P0 w.heap.size W (h0.below hW) hW.size hm0
  have q0 := fun A A' W (hA : Wires W W.heap.size A P0) (hA' : Wires W W.heap.size A' P0) => eqBoardAt_any e0 m0 j0 A A' P0.length P0.length P0 W hA hA' hm0
  have r0 := fun A lo hi W (k : Int) (h0 : 0 ≤ k) (h1 : k ≤ 4194304) (hA : WAt W lo hi A P0) => markBoardAt_any e0 m0 j0 A P0.length P0 lo hi k W hA h0 h1 hm0
  have xe : ∀ (A A' : Option Addr) (c c' : Nat) (W : World), Ints W W.heap.size A X → Ints W W.heap.size A' X → Calls Try.prog 31 #[.slice A X.length c, .slice A' X.length c'] W fun e w' => e = .returned (.bool true) ∧ Below W.heap.size W w' := fun A A' c c' W h h' => by
    refine (eqInts_any A A' c c' X X W.heap.size W.heap.size W h h' hx (by omega)).mono ?_
    rintro e w' ⟨he, n, rfl⟩
    exact ⟨by rw [he]; simp, below_drewN (Below.refl _ _) _⟩
  have xm := fun A c lo hi W (h : IAt W lo hi A X) => markAt_any A c X lo hi 1 W h (by omega) (by omega) hx
  have xh := fun A c lo hi W (h : IAt W lo hi A (marks 1 X.length)) => heldAt_any A c X lo hi 1 W h (by omega) (by omega) hx
  have gx : ¬ 1 + (X.length : Int) < 0 := by omega
  have cv : ∀ (W : World) (g0 lo0 hi0 : Nat), Below w.heap.size w W → WAt W lo0 hi0 (some ⟨g0, 0, none⟩) P0 → Calls Try.prog 29 #[.agg #[.int .i64 e0, .int .i64 m0, .int .i64 j0, .slice (some ⟨g0, 0, none⟩) P0.length P0.length], .int .i64 x1] W (GivesIC X v W) := fun W g0 lo0 hi0 hW hO0 => by
    have := hv W (some ⟨g0, 0, none⟩) W.heap.size hW hO0.wires (Nat.le_refl _)
    exact this
  have ci : ∀ (W : World) (g0 lo0 hi0 : Nat), Below w.heap.size w W → WAt W lo0 hi0 (some ⟨g0, 0, none⟩) P0 → Calls Try.prog 30 #[.agg #[.int .i64 e0, .int .i64 m0, .int .i64 j0, .slice (some ⟨g0, 0, none⟩) P0.length P0.length], .int .i64 x1] W (GivesIC X v W) := fun W g0 lo0 hi0 hW hO0 => by
    have := hi W (some ⟨g0, 0, none⟩) W.heap.size hW hO0.wires (Nat.le_refl _)
    exact this
  obtain ⟨n0, hn0⟩ : ∃ n, P0.length = n := ⟨_, rfl⟩
  simp only [hn0] at z0 t0 q0 r0 cv ci hs ⊢
  have Z0 := Lib.hid z0
  have T0 := Lib.hid t0
  have Q0 := Lib.hid q0
  have R0 := Lib.hid r0
  have XE := Lib.hid xe
  have XM := Lib.hid xm
  have XH := Lib.hid xh
  have CV := Lib.hid cv
  have CI := Lib.hid ci
  have g0 : ¬ 1048576 - (n0 : Int) < 0 := by omega
  have kb0 : 0 ≤ (1 : Int) ∧ (1 : Int) ≤ 4194304 := by omega
  have gk : ¬ 1 + 2 * (n0 : Int) < 0 := by omega
  clear cv ci hv hi xe xm xh z0 t0 q0 r0 hn0 h0 hm0
  go_enter Try.func7, Try.ntmps7
  go_wp2_with fail
  refine (Z0.out _ (below_box w _)).mono ?_
  rintro e w1 ⟨rfl, hb⟩
  have B_1 := Lib.hid (below_step (below_box w _) hb)
  have a0c0_1 := cell_kept (p := ⟨w.heap.size, 0, none⟩) (v := .int .i64 e0) (by simp [go_sem]) hb
  have a0c1_1 := cell_kept (p := ⟨w.heap.size, 1, none⟩) (v := .int .i64 m0) (by simp [go_sem]) hb
  have a0c2_1 := cell_kept (p := ⟨w.heap.size, 2, none⟩) (v := .int .i64 j0) (by simp [go_sem]) hb
  have a0c3_1 := cell_kept (p := ⟨w.heap.size, 3, none⟩) (v := .slice A0 n0 c0) (by simp [go_sem]) hb
  have S_1 : Hid (w.heap.size + 1 ≤ w1.heap.size) := by show _ ≤ _; have := hb.size; simpa using this
  clear hb
  go_wp2_with fail
  refine (T0.out _ B_1.out).mono ?_
  rintro e w2 ⟨gw0, rfl, hb, ho⟩
  have B_2 := Lib.hid (below_step B_1.out hb)
  have a0c0_2 := cell_kept a0c0_1 hb
  have a0c1_2 := cell_kept a0c1_1 hb
  have a0c2_2 := cell_kept a0c2_1 hb
  have a0c3_2 := cell_kept a0c3_1 hb
  have S_2 : Hid (w1.heap.size ≤ w2.heap.size) := hb.size
  have w0_2 := Lib.hid ho
  clear hb ho B_1 a0c0_1 a0c1_1 a0c2_1 a0c3_1
  go_wp2_with fail
  refine (CV.out _ _ _ _ B_2.out w0_2.out).mono ?_
  rintro e w3 ⟨AW, cW, rfl, hb, ho⟩
  have B_3 := Lib.hid (below_step B_2.out hb)
  have a0c0_3 := cell_kept a0c0_2 hb
  have a0c1_3 := cell_kept a0c1_2 hb
  have a0c2_3 := cell_kept a0c2_2 hb
  have a0c3_3 := cell_kept a0c3_2 hb
  have w0_3 := Lib.hid (w0_2.out.later hb)
  have S_3 : Hid (w2.heap.size ≤ w3.heap.size) := hb.size
  have W_3 := Lib.hid ho
  clear hb ho B_2 a0c0_2 a0c1_2 a0c2_2 a0c3_2 w0_2
  clear w0_3
  go_wp2_with fail
  refine (T0.out _ B_3.out).mono ?_
  rintro e w4 ⟨gx0, rfl, hb, ho⟩
  have B_4 := Lib.hid (below_step B_3.out hb)
  have a0c0_4 := cell_kept a0c0_3 hb
  have a0c1_4 := cell_kept a0c1_3 hb
  have a0c2_4 := cell_kept a0c2_3 hb
  have a0c3_4 := cell_kept a0c3_3 hb
  have W_4 := Lib.hid (W_3.out.later hb)
  have S_4 : Hid (w3.heap.size ≤ w4.heap.size) := hb.size
  have x0_4 := Lib.hid ho
  clear hb ho B_3 a0c0_3 a0c1_3 a0c2_3 a0c3_3 W_3
  have hb := below_box w4 (.cells #[.int .i64 e0, .int .i64 m0, .int .i64 j0, .slice (some ⟨gx0, 0, none⟩) n0 n0] 29)
  obtain ⟨hc0, hc1, hc2, hc3⟩ := board_cells w4 (e0) (m0) (j0) (.slice (some ⟨gx0, 0, none⟩) n0 n0) 29
  obtain ⟨w5, hW5⟩ : ∃ W, w4.alloc (.cells #[.int .i64 e0, .int .i64 m0, .int .i64 j0, .slice (some ⟨gx0, 0, none⟩) n0 n0] 29) = W := ⟨_, rfl⟩
  rw [hW5] at hb hc0 hc1 hc2 hc3
  have B_5 := Lib.hid (below_step B_4.out hb)
  have a0c0_5 := cell_kept a0c0_4 hb
  have a0c1_5 := cell_kept a0c1_4 hb
  have a0c2_5 := cell_kept a0c2_4 hb
  have a0c3_5 := cell_kept a0c3_4 hb
  have W_5 := Lib.hid (W_4.out.later hb)
  have x0_5 := Lib.hid (x0_4.out.later hb)
  have S_5 : Hid (w4.heap.size ≤ w5.heap.size) := hb.size
  have bx0c0_5 := hc0
  have bx0c1_5 := hc1
  have bx0c2_5 := hc2
  have bx0c3_5 := hc3
  clear hb hc0 hc1 hc2 hc3 B_4 a0c0_4 a0c1_4 a0c2_4 a0c3_4 W_4 x0_4
  have Z_bx0 : Hid (w4.heap.size < w5.heap.size) := by show _ < _; rw [← hW5, World.size_alloc]; omega
  go_wp2_with fail
  refine (CI.out _ _ _ _ B_5.out x0_5.out).mono ?_
  rintro e w6 ⟨AG, cG, rfl, hb, ho⟩
  have B_6 := Lib.hid (below_step B_5.out hb)
  have a0c0_6 := cell_kept a0c0_5 hb
  have a0c1_6 := cell_kept a0c1_5 hb
  have a0c2_6 := cell_kept a0c2_5 hb
  have a0c3_6 := cell_kept a0c3_5 hb
  have bx0c0_6 := cell_kept bx0c0_5 hb
  have bx0c1_6 := cell_kept bx0c1_5 hb
  have bx0c2_6 := cell_kept bx0c2_5 hb
  have bx0c3_6 := cell_kept bx0c3_5 hb
  have W_6 := Lib.hid (W_5.out.later hb)
  have x0_6 := Lib.hid (x0_5.out.later hb)
  have S_6 : Hid (w5.heap.size ≤ w6.heap.size) := hb.size
  have G_6 := Lib.hid ho
  clear hb ho B_5 a0c0_5 a0c1_5 a0c2_5 a0c3_5 bx0c0_5 bx0c1_5 bx0c2_5 bx0c3_5 W_5 x0_5
  go_wp2_with fail
  refine (XE.out _ _ _ _ _ G_6.out.ints W_6.out.ints).mono ?_
  rintro e w7 ⟨rfl, hb⟩
  have B_7 := Lib.hid (below_step B_6.out hb)
  have a0c0_7 := cell_kept a0c0_6 hb
  have a0c1_7 := cell_kept a0c1_6 hb
  have a0c2_7 := cell_kept a0c2_6 hb
  have a0c3_7 := cell_kept a0c3_6 hb
  have bx0c0_7 := cell_kept bx0c0_6 hb
  have bx0c1_7 := cell_kept bx0c1_6 hb
  have bx0c2_7 := cell_kept bx0c2_6 hb
  have bx0c3_7 := cell_kept bx0c3_6 hb
  have W_7 := Lib.hid (W_6.out.later hb)
  have x0_7 := Lib.hid (x0_6.out.later hb)
  have G_7 := Lib.hid (G_6.out.later hb)
  have S_7 : Hid (w6.heap.size ≤ w7.heap.size) := hb.size
  clear hb B_6 a0c0_6 a0c1_6 a0c2_6 a0c3_6 bx0c0_6 bx0c1_6 bx0c2_6 bx0c3_6 W_6 x0_6 G_6
  go_wp2
  go_region_held3 (fun W => W.cell? ⟨w4.heap.size, 0, none⟩ = some (.int .i64 e0) ∧ W.cell? ⟨w4.heap.size, 1, none⟩ = some (.int .i64 m0) ∧ W.cell? ⟨w4.heap.size, 2, none⟩ = some (.int .i64 j0) ∧ W.cell? ⟨w4.heap.size, 3, none⟩ = some (.slice (some ⟨gx0, 0, none⟩) n0 n0) ∧ W.cell? ⟨w.heap.size, 0, none⟩ = some (.int .i64 e0) ∧ W.cell? ⟨w.heap.size, 1, none⟩ = some (.int .i64 m0) ∧ W.cell? ⟨w.heap.size, 2, none⟩ = some (.int .i64 j0) ∧ W.cell? ⟨w.heap.size, 3, none⟩ = some (.slice A0 n0 c0))
    (first | exact ⟨bx0c0_7, bx0c1_7, bx0c2_7, bx0c3_7, a0c0_7, a0c1_7, a0c2_7, a0c3_7⟩ | exact ⟨bx0c0_8, bx0c1_8, bx0c2_8, bx0c3_8, a0c0_8, a0c1_8, a0c2_8, a0c3_8⟩ | exact ⟨bx0c0_9, bx0c1_9, bx0c2_9, bx0c3_9, a0c0_9, a0c1_9, a0c2_9, a0c3_9⟩)
    (first
      | (go_at_call 17
         refine (T0.out _ B_7.out.drew).mono ?_
         rintro e w8 ⟨gz0, rfl, hb, ho⟩
         have B_8 := Lib.hid (below_step B_7.out.drew hb)
         have a0c0_8 := cell_kept (w := w7.drew) a0c0_7 hb
         have a0c1_8 := cell_kept (w := w7.drew) a0c1_7 hb
         have a0c2_8 := cell_kept (w := w7.drew) a0c2_7 hb
         have a0c3_8 := cell_kept (w := w7.drew) a0c3_7 hb
         have bx0c0_8 := cell_kept (w := w7.drew) bx0c0_7 hb
         have bx0c1_8 := cell_kept (w := w7.drew) bx0c1_7 hb
         have bx0c2_8 := cell_kept (w := w7.drew) bx0c2_7 hb
         have bx0c3_8 := cell_kept (w := w7.drew) bx0c3_7 hb
         have W_8 := Lib.hid (W_7.out.drew.later hb)
         have x0_8 := Lib.hid (x0_7.out.drew.later hb)
         have G_8 := Lib.hid (G_7.out.drew.later hb)
         have S_8 : Hid (w7.heap.size ≤ w8.heap.size) := hb.size
         have z0_8 := Lib.hid ho
         clear hb ho)
      | (go_at_call 19
         refine (Q0.out _ _ _ x0_8.out.wires z0_8.out.wires).mono ?_
         rintro e w9 ⟨rfl, hb⟩
         have B_9 := Lib.hid (below_step B_8.out hb)
         have a0c0_9 := cell_kept a0c0_8 hb
         have a0c1_9 := cell_kept a0c1_8 hb
         have a0c2_9 := cell_kept a0c2_8 hb
         have a0c3_9 := cell_kept a0c3_8 hb
         have bx0c0_9 := cell_kept bx0c0_8 hb
         have bx0c1_9 := cell_kept bx0c1_8 hb
         have bx0c2_9 := cell_kept bx0c2_8 hb
         have bx0c3_9 := cell_kept bx0c3_8 hb
         have W_9 := Lib.hid (W_8.out.later hb)
         have x0_9 := Lib.hid (x0_8.out.later hb)
         have G_9 := Lib.hid (G_8.out.later hb)
         have z0_9 := Lib.hid (z0_8.out.later hb)
         have S_9 : Hid (w8.heap.size ≤ w9.heap.size) := hb.size
         clear hb))
  clear B_7 a0c0_7 a0c1_7 a0c2_7 a0c3_7 bx0c0_7 bx0c1_7 bx0c2_7 bx0c3_7 W_7 x0_7 G_7 B_8 a0c0_8 a0c1_8 a0c2_8 a0c3_8 bx0c0_8 bx0c1_8 bx0c2_8 bx0c3_8 W_8 x0_8 G_8 z0_8
  clear z0_9
  go_wp2_with fail
  refine (R0.out _ _ _ _ _ kb0.1 kb0.2 x0_9.out).mono ?_
  rintro e w10 ⟨rfl, hw, hrow⟩
  have B_10 := Lib.hid (below_within B_9.out hw (by have z1 := S_1.out; have z2 := S_2.out; have z3 := S_3.out; have z4 := S_4.out; have z5 := S_5.out; have z6 := S_6.out; have z7 := S_7.out; have z8 := S_8.out; have z9 := S_9.out; omega))
  have a0c0_10 := hw.cell a0c0_9 (by show w.heap.size < _ ∨ _ ≤ w.heap.size; have z1 := S_1.out; have z2 := S_2.out; have z3 := S_3.out; have z4 := S_4.out; have z5 := S_5.out; have z6 := S_6.out; have z7 := S_7.out; have z8 := S_8.out; have z9 := S_9.out; omega)
  have a0c1_10 := hw.cell a0c1_9 (by show w.heap.size < _ ∨ _ ≤ w.heap.size; have z1 := S_1.out; have z2 := S_2.out; have z3 := S_3.out; have z4 := S_4.out; have z5 := S_5.out; have z6 := S_6.out; have z7 := S_7.out; have z8 := S_8.out; have z9 := S_9.out; omega)
  have a0c2_10 := hw.cell a0c2_9 (by show w.heap.size < _ ∨ _ ≤ w.heap.size; have z1 := S_1.out; have z2 := S_2.out; have z3 := S_3.out; have z4 := S_4.out; have z5 := S_5.out; have z6 := S_6.out; have z7 := S_7.out; have z8 := S_8.out; have z9 := S_9.out; omega)
  have a0c3_10 := hw.cell a0c3_9 (by show w.heap.size < _ ∨ _ ≤ w.heap.size; have z1 := S_1.out; have z2 := S_2.out; have z3 := S_3.out; have z4 := S_4.out; have z5 := S_5.out; have z6 := S_6.out; have z7 := S_7.out; have z8 := S_8.out; have z9 := S_9.out; omega)
  have bx0c0_10 := hw.cell bx0c0_9 (by show w4.heap.size < _ ∨ _ ≤ w4.heap.size; have zz := Z_bx0.out; have z1 := S_1.out; have z2 := S_2.out; have z3 := S_3.out; have z4 := S_4.out; have z5 := S_5.out; have z6 := S_6.out; have z7 := S_7.out; have z8 := S_8.out; have z9 := S_9.out; omega)
  have bx0c1_10 := hw.cell bx0c1_9 (by show w4.heap.size < _ ∨ _ ≤ w4.heap.size; have zz := Z_bx0.out; have z1 := S_1.out; have z2 := S_2.out; have z3 := S_3.out; have z4 := S_4.out; have z5 := S_5.out; have z6 := S_6.out; have z7 := S_7.out; have z8 := S_8.out; have z9 := S_9.out; omega)
  have bx0c2_10 := hw.cell bx0c2_9 (by show w4.heap.size < _ ∨ _ ≤ w4.heap.size; have zz := Z_bx0.out; have z1 := S_1.out; have z2 := S_2.out; have z3 := S_3.out; have z4 := S_4.out; have z5 := S_5.out; have z6 := S_6.out; have z7 := S_7.out; have z8 := S_8.out; have z9 := S_9.out; omega)
  have bx0c3_10 := hw.cell bx0c3_9 (by show w4.heap.size < _ ∨ _ ≤ w4.heap.size; have zz := Z_bx0.out; have z1 := S_1.out; have z2 := S_2.out; have z3 := S_3.out; have z4 := S_4.out; have z5 := S_5.out; have z6 := S_6.out; have z7 := S_7.out; have z8 := S_8.out; have z9 := S_9.out; omega)
  have W_10 := Lib.hid (W_9.out.within hw (Or.inl (by have z1 := S_1.out; have z2 := S_2.out; have z3 := S_3.out; have z4 := S_4.out; have z5 := S_5.out; have z6 := S_6.out; have z7 := S_7.out; have z8 := S_8.out; have z9 := S_9.out; omega)))
  have x0_10 := Lib.hid hrow
  have G_10 := Lib.hid (G_9.out.within hw (Or.inr (by have z1 := S_1.out; have z2 := S_2.out; have z3 := S_3.out; have z4 := S_4.out; have z5 := S_5.out; have z6 := S_6.out; have z7 := S_7.out; have z8 := S_8.out; have z9 := S_9.out; omega)))
  have S_10 : Hid (w9.heap.size ≤ w10.heap.size) := hw.size
  clear hw hrow B_9 a0c0_9 a0c1_9 a0c2_9 a0c3_9 bx0c0_9 bx0c1_9 bx0c2_9 bx0c3_9 W_9 x0_9 G_9
  go_wp2_with fail
  refine (XE.out _ _ _ _ _ G_10.out.ints W_10.out.ints).mono ?_
  rintro e w11 ⟨rfl, hb⟩
  have B_11 := Lib.hid (below_step B_10.out hb)
  have a0c0_11 := cell_kept a0c0_10 hb
  have a0c1_11 := cell_kept a0c1_10 hb
  have a0c2_11 := cell_kept a0c2_10 hb
  have a0c3_11 := cell_kept a0c3_10 hb
  have bx0c0_11 := cell_kept bx0c0_10 hb
  have bx0c1_11 := cell_kept bx0c1_10 hb
  have bx0c2_11 := cell_kept bx0c2_10 hb
  have bx0c3_11 := cell_kept bx0c3_10 hb
  have W_11 := Lib.hid (W_10.out.later hb)
  have x0_11 := Lib.hid (x0_10.out.later hb)
  have G_11 := Lib.hid (G_10.out.later hb)
  have S_11 : Hid (w10.heap.size ≤ w11.heap.size) := hb.size
  clear hb B_10 a0c0_10 a0c1_10 a0c2_10 a0c3_10 bx0c0_10 bx0c1_10 bx0c2_10 bx0c3_10 W_10 x0_10 G_10
  clear x0_11
  go_wp2_with fail
  refine (XM.out _ _ _ _ _ G_11.out).mono ?_
  rintro e w12 ⟨rfl, hw, hrow⟩
  have B_12 := Lib.hid (below_within B_11.out hw (by have z1 := S_1.out; have z2 := S_2.out; have z3 := S_3.out; have z4 := S_4.out; have z5 := S_5.out; have z6 := S_6.out; have z7 := S_7.out; have z8 := S_8.out; have z9 := S_9.out; have z10 := S_10.out; have z11 := S_11.out; omega))
  have a0c0_12 := hw.cell a0c0_11 (by show w.heap.size < _ ∨ _ ≤ w.heap.size; have z1 := S_1.out; have z2 := S_2.out; have z3 := S_3.out; have z4 := S_4.out; have z5 := S_5.out; have z6 := S_6.out; have z7 := S_7.out; have z8 := S_8.out; have z9 := S_9.out; have z10 := S_10.out; have z11 := S_11.out; omega)
  have a0c1_12 := hw.cell a0c1_11 (by show w.heap.size < _ ∨ _ ≤ w.heap.size; have z1 := S_1.out; have z2 := S_2.out; have z3 := S_3.out; have z4 := S_4.out; have z5 := S_5.out; have z6 := S_6.out; have z7 := S_7.out; have z8 := S_8.out; have z9 := S_9.out; have z10 := S_10.out; have z11 := S_11.out; omega)
  have a0c2_12 := hw.cell a0c2_11 (by show w.heap.size < _ ∨ _ ≤ w.heap.size; have z1 := S_1.out; have z2 := S_2.out; have z3 := S_3.out; have z4 := S_4.out; have z5 := S_5.out; have z6 := S_6.out; have z7 := S_7.out; have z8 := S_8.out; have z9 := S_9.out; have z10 := S_10.out; have z11 := S_11.out; omega)
  have a0c3_12 := hw.cell a0c3_11 (by show w.heap.size < _ ∨ _ ≤ w.heap.size; have z1 := S_1.out; have z2 := S_2.out; have z3 := S_3.out; have z4 := S_4.out; have z5 := S_5.out; have z6 := S_6.out; have z7 := S_7.out; have z8 := S_8.out; have z9 := S_9.out; have z10 := S_10.out; have z11 := S_11.out; omega)
  have bx0c0_12 := hw.cell bx0c0_11 (by show w4.heap.size < _ ∨ _ ≤ w4.heap.size; have zz := Z_bx0.out; have z1 := S_1.out; have z2 := S_2.out; have z3 := S_3.out; have z4 := S_4.out; have z5 := S_5.out; have z6 := S_6.out; have z7 := S_7.out; have z8 := S_8.out; have z9 := S_9.out; have z10 := S_10.out; have z11 := S_11.out; omega)
  have bx0c1_12 := hw.cell bx0c1_11 (by show w4.heap.size < _ ∨ _ ≤ w4.heap.size; have zz := Z_bx0.out; have z1 := S_1.out; have z2 := S_2.out; have z3 := S_3.out; have z4 := S_4.out; have z5 := S_5.out; have z6 := S_6.out; have z7 := S_7.out; have z8 := S_8.out; have z9 := S_9.out; have z10 := S_10.out; have z11 := S_11.out; omega)
  have bx0c2_12 := hw.cell bx0c2_11 (by show w4.heap.size < _ ∨ _ ≤ w4.heap.size; have zz := Z_bx0.out; have z1 := S_1.out; have z2 := S_2.out; have z3 := S_3.out; have z4 := S_4.out; have z5 := S_5.out; have z6 := S_6.out; have z7 := S_7.out; have z8 := S_8.out; have z9 := S_9.out; have z10 := S_10.out; have z11 := S_11.out; omega)
  have bx0c3_12 := hw.cell bx0c3_11 (by show w4.heap.size < _ ∨ _ ≤ w4.heap.size; have zz := Z_bx0.out; have z1 := S_1.out; have z2 := S_2.out; have z3 := S_3.out; have z4 := S_4.out; have z5 := S_5.out; have z6 := S_6.out; have z7 := S_7.out; have z8 := S_8.out; have z9 := S_9.out; have z10 := S_10.out; have z11 := S_11.out; omega)
  have W_12 := Lib.hid (W_11.out.within hw (Or.inl (by have z1 := S_1.out; have z2 := S_2.out; have z3 := S_3.out; have z4 := S_4.out; have z5 := S_5.out; have z6 := S_6.out; have z7 := S_7.out; have z8 := S_8.out; have z9 := S_9.out; have z10 := S_10.out; have z11 := S_11.out; omega)))
  have G_12 := Lib.hid hrow
  have S_12 : Hid (w11.heap.size ≤ w12.heap.size) := hw.size
  clear hw hrow B_11 a0c0_11 a0c1_11 a0c2_11 a0c3_11 bx0c0_11 bx0c1_11 bx0c2_11 bx0c3_11 W_11 G_11
  go_wp2_with fail
  refine (XH.out _ _ _ _ _ G_12.out).mono ?_
  rintro e w13 ⟨rfl, rfl⟩
  go_wp2_with fail
  refine (T0.out _ B_12.out).mono ?_
  rintro e w13 ⟨gv0, rfl, hb, ho⟩
  have B_13 := Lib.hid (below_step B_12.out hb)
  have a0c0_13 := cell_kept a0c0_12 hb
  have a0c1_13 := cell_kept a0c1_12 hb
  have a0c2_13 := cell_kept a0c2_12 hb
  have a0c3_13 := cell_kept a0c3_12 hb
  have bx0c0_13 := cell_kept bx0c0_12 hb
  have bx0c1_13 := cell_kept bx0c1_12 hb
  have bx0c2_13 := cell_kept bx0c2_12 hb
  have bx0c3_13 := cell_kept bx0c3_12 hb
  have W_13 := Lib.hid (W_12.out.later hb)
  have G_13 := Lib.hid (G_12.out.later hb)
  have S_13 : Hid (w12.heap.size ≤ w13.heap.size) := hb.size
  have v0_13 := Lib.hid ho
  clear hb ho B_12 a0c0_12 a0c1_12 a0c2_12 a0c3_12 bx0c0_12 bx0c1_12 bx0c2_12 bx0c3_12 W_12 G_12
  go_wp2_with fail
  refine (CI.out _ _ _ _ B_13.out v0_13.out).mono ?_
  rintro e w14 ⟨AH, cH, rfl, hb, ho⟩
  have B_14 := Lib.hid (below_step B_13.out hb)
  have a0c0_14 := cell_kept a0c0_13 hb
  have a0c1_14 := cell_kept a0c1_13 hb
  have a0c2_14 := cell_kept a0c2_13 hb
  have a0c3_14 := cell_kept a0c3_13 hb
  have bx0c0_14 := cell_kept bx0c0_13 hb
  have bx0c1_14 := cell_kept bx0c1_13 hb
  have bx0c2_14 := cell_kept bx0c2_13 hb
  have bx0c3_14 := cell_kept bx0c3_13 hb
  have W_14 := Lib.hid (W_13.out.later hb)
  have G_14 := Lib.hid (G_13.out.later hb)
  have v0_14 := Lib.hid (v0_13.out.later hb)
  have S_14 : Hid (w13.heap.size ≤ w14.heap.size) := hb.size
  have H_14 := Lib.hid ho
  clear hb ho B_13 a0c0_13 a0c1_13 a0c2_13 a0c3_13 bx0c0_13 bx0c1_13 bx0c2_13 bx0c3_13 W_13 G_13 v0_13
  go_wp2_with fail
  refine (XE.out _ _ _ _ _ H_14.out.ints W_14.out.ints).mono ?_
  rintro e w15 ⟨rfl, hb⟩
  have B_15 := Lib.hid (below_step B_14.out hb)
  have a0c0_15 := cell_kept a0c0_14 hb
  have a0c1_15 := cell_kept a0c1_14 hb
  have a0c2_15 := cell_kept a0c2_14 hb
  have a0c3_15 := cell_kept a0c3_14 hb
  have bx0c0_15 := cell_kept bx0c0_14 hb
  have bx0c1_15 := cell_kept bx0c1_14 hb
  have bx0c2_15 := cell_kept bx0c2_14 hb
  have bx0c3_15 := cell_kept bx0c3_14 hb
  have W_15 := Lib.hid (W_14.out.later hb)
  have G_15 := Lib.hid (G_14.out.later hb)
  have v0_15 := Lib.hid (v0_14.out.later hb)
  have H_15 := Lib.hid (H_14.out.later hb)
  have S_15 : Hid (w14.heap.size ≤ w15.heap.size) := hb.size
  clear hb B_14 a0c0_14 a0c1_14 a0c2_14 a0c3_14 bx0c0_14 bx0c1_14 bx0c2_14 bx0c3_14 W_14 G_14 v0_14 H_14
  go_wp2_with fail
  refine (XH.out _ _ _ _ _ G_15.out).mono ?_
  rintro e w16 ⟨rfl, rfl⟩
  go_wp2
  go_ret
  exact ⟨rfl, B_15.out⟩

theorem walk (e0 m0 j0 : Int) (A0 : Option Addr) (c0 : Nat) (P0 : List (Int × Int)) {y0 : World} (h0 : Wires y0 y0.heap.size A0 P0) (l0 : P0.length ≤ 9223372036854775807) (hw0 : (Lit.int .i64 e0).wf = true ∧ (Lit.int .i64 m0).wf = true ∧ (Lit.int .i64 j0).wf = true) (x1 : Int) (wf1 : (Lit.int .i64 x1).wf = true) (w : World) (e0_ : y0 = w) :
    Calls Try.prog 7 #[.agg #[.int .i64 e0, .int .i64 m0, .int .i64 j0, .slice A0 P0.length c0], .int .i64 x1] w fun e w' => e = .returned (.bool true) ∧ Below w.heap.size w w' := by
  subst e0_
  by_cases hb0 : 1048576 < (P0.length : Int)
  · exact walk_big0 e0 m0 j0 A0 c0 P0 x1 _ h0 l0  hb0
  have hs0 : (P0.length : Int) ≤ 1048576 := by omega
  have hm0 : P0.length ≤ 1048576 := by omega
  have hwb0 := wide_of hw0
  have hx := joinedA_length e0 m0 j0 P0 x1
  refine walk_small e0 m0 j0 A0 c0 P0 x1 (joinedA e0 m0 j0 P0 x1) (joinedC e0 m0 j0 P0 x1) _ h0 hs0 hx (fun W A0 B0 hW hP0 hB0 => ?_) (fun W A0 B0 hW hP0 hB0 => ?_)
  · exact specJoined_any e0 m0 j0 A0 P0.length P0 B0 x1 W hP0 hB0 hm0
  · exact implJoined_any e0 m0 j0 A0 P0.length P0 B0 x1 W hP0 hB0 hm0

set_option maxRecDepth 100000 in
theorem lifted (os : Os) (started : os.Started) (H : Type) (enc : TypeId × Value → H) :
    ReturnsInHanded {} Try.checked os 7 .any (Rows.fnExactJoinedHubsSpec.pre6 enc Try.prog Try.f7 Rows.fnExactJoinedHubsRow.domain false) (Rows.fnExactJoinedHubsSpec.post enc Try.prog Try.f7 false true false false) := by
  refine returnsInHanded_of_change (C := Try.checked) own started (by kernel_rfl) Try.func7
    (ChangeSpec.witness6 (enc := enc) (C := Try.checked) false ⟨#[], #[.agg #[.int .i64 0, .int .i64 0, .int .i64 0, .slice none 0 0], .int .i64 0], []⟩ 8 (by kernel_rfl) (by kernel_rfl) (by kernel_rfl) (by kernel_rfl)) ?_
  intro W base args ds gs before hval0 hW _ _
  have hval : ∀ (j : Nat) t v, Try.f7.params[j]? = some t → args[j]? = some v → Value.okWide Try.prog W .any base t v := hval0
  have hW' := hW
  obtain ⟨p, q, hA0, hV, rfl, _, _⟩ := hW
  have hA : DataW.TrodAll enc Try.prog W 0 (fun _ => true) true Try.f7.params.toList args.toList ds p := hA0
  rw [Try.params7] at hA hval
  obtain ⟨v0, vs0, d0, ds0, p0, q0, hargs, rfl, rfl, h0, r0⟩ := trodAll_cons hA
  obtain ⟨v1, vs1, d1, ds1, p1, q1, rfl, rfl, rfl, h1, r1⟩ := trodAll_cons r0
  obtain ⟨rfl, rfl, rfl⟩ := trodAll_nil r1
  obtain rfl : args = #[v0, v1] := by cases args; simp_all
  obtain ⟨rfl, rfl⟩ := trodVars_none hV
  obtain ⟨e0, m0, j0, A0, c0, P0, rfl, i0, l0, w0⟩ := open_board (hval 0 24 v0 rfl rfl) h0
  obtain ⟨a1, rfl, rfl, rfl, w1⟩ := open_int Try.underlying2 (hval 1 2 v1 rfl rfl) h1
  refine (walk e0 m0 j0 A0 c0 P0 i0 l0 w0 a1 w1 W rfl).mono fun e W' ⟨he, hb⟩ => ?_
  subst he
  refine ⟨_, rfl, law_post hW' rfl rfl ?_ rfl rfl rfl hb⟩
  intro t ht
  rw [Try.params7] at ht
  have ht' : t = 24 ∨ t = 2 := by simpa using ht
  rcases ht' with rfl | rfl <;> exact ⟨by kernel_rfl, of_decide_eq_true (by kernel_rfl)⟩

theorem over : Rows.fnExactJoinedHubsRow.holds Try.pinned (OpenSpec.ofChange Rows.fnExactJoinedHubsSpec) :=
  OpenClaim.holds_of_wide 7 Try.f7 rfl rfl rfl rfl rfl rfl rfl ⟨rfl, rfl, rfl, rfl, rfl⟩ rfl rfl rfl rfl rfl (by kernel_rfl) Try.func7 (by kernel_rfl)
    (of_decide_eq_true (by kernel_rfl)) (by unfold Func.isWrapper; first | (rw [if_pos (by decide +kernel)]; kernel_rfl) | (rw [if_neg (by decide +kernel)]; exact ⟨rfl, rfl⟩))
    (fun os started H enc _ => lifted os started H enc)

theorem proved : Rows.FnExactJoinedHubsSaid :=
  over
end Go.Proofs.Ytpklmhffgbgakaa.fnExactJoinedHubs
