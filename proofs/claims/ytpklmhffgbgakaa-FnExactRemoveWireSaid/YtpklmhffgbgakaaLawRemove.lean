/- For every board and number, the law FnExactRemoveWire returns true: impl.RemoveWire answers as spec.RemoveWire, in memory of its own, and leaves its arguments as it was. Conditions: none. -/
import Derived.Test.YtpklmhffgbgakaaRemoveS
import Derived.Test.YtpklmhffgbgakaaLaw
import Derived.Test.YtpklmhffgbgakaaBoxed
import Derived.Test.YtpklmhffgbgakaaBoard
import Derived.Deep.RegionHeld3
import Derived.Deep.DeepCutAuto
import Derived.Laws.NewDeep
namespace Go.Proofs.Ytpklmhffgbgakaa.fnExactRemoveWire
open Go.ChangeShapes Go.WideShapes Go.ChangeAt Go.RowKit

theorem walk_big0 (e0 m0 j0 : Int) (A0 : Option Addr) (c0 : Nat) (P0 : List (Int × Int)) (x1 : Int) (w : World) (h0 : Wires w w.heap.size A0 P0) (l0 : P0.length ≤ 9223372036854775807)  (hbig : 1048576 < (P0.length : Int)) :
    Calls Try.prog 6 #[.agg #[.int .i64 e0, .int .i64 m0, .int .i64 j0, .slice A0 P0.length c0], .int .i64 x1] w fun e w' => e = .returned (.bool true) ∧ Below w.heap.size w w' := by
  have z0 := fun (W : World) (_ : Below w.heap.size w W) => szBoard_any e0 m0 j0 A0 P0.length c0 (1048576) W (by omega) (by omega) (by omega)
  have e0_ : (if (1048576) < (P0.length : Int) then (-1 : Int) else 1048576 - P0.length) = -1 := if_pos (by omega)
  simp only [e0_] at z0
  clear e0_
  obtain ⟨n0, hn0⟩ : ∃ n, P0.length = n := ⟨_, rfl⟩
  rw [hn0] at hbig
  simp only [hn0] at z0 ⊢
  have Z0 := Lib.hid z0
  clear z0 hn0 h0 l0
  go_enter Try.func6, Try.ntmps6
  go_wp2_with fail
  refine (Z0.out _ (below_box w _)).mono ?_
  rintro e w1 ⟨rfl, hb⟩
  have B_1 := Lib.hid (below_step (below_box w _) hb)
  have a0c0_1 := cell_kept (p := ⟨w.heap.size, 0, none⟩) (v := .int .i64 e0) (by simp [go_sem]) hb
  have a0c1_1 := cell_kept (p := ⟨w.heap.size, 1, none⟩) (v := .int .i64 m0) (by simp [go_sem]) hb
  have a0c2_1 := cell_kept (p := ⟨w.heap.size, 2, none⟩) (v := .int .i64 j0) (by simp [go_sem]) hb
  have a0c3_1 := cell_kept (p := ⟨w.heap.size, 3, none⟩) (v := .slice A0 n0 c0) (by simp [go_sem]) hb
  have S_1 : Hid (w.heap.size + 1 ≤ w1.heap.size) := by show _ ≤ _; have := hb.size; simpa using this
  clear hb
  go_wp2
  go_ret
  exact ⟨rfl, B_1.out⟩

set_option maxRecDepth 100000 in
set_option maxHeartbeats 8000000 in
theorem walk_small (e0 m0 j0 : Int) (A0 : Option Addr) (c0 : Nat) (P0 : List (Int × Int)) (x1 : Int) (eX mX jX : Int) (X : List (Int × Int)) (v : Int) (w : World) (h0 : Wires w w.heap.size A0 P0) (hs : (P0.length : Int) ≤ 1048576) (hx : X.length ≤ 1048576)
    (hv : ∀ (W : World) (A0 : Option Addr) (B0 : Nat), Below w.heap.size w W → Wires W B0 A0 P0 → B0 ≤ W.heap.size → Calls Try.prog 27 #[.agg #[.int .i64 e0, .int .i64 m0, .int .i64 j0, .slice A0 P0.length P0.length], .int .i64 x1] W (GivesBC eX mX jX X v W))
    (hi : ∀ (W : World) (A0 : Option Addr) (B0 : Nat), Below w.heap.size w W → Wires W B0 A0 P0 → B0 ≤ W.heap.size → Calls Try.prog 28 #[.agg #[.int .i64 e0, .int .i64 m0, .int .i64 j0, .slice A0 P0.length P0.length], .int .i64 x1] W (GivesBC eX mX jX X v W)) :
    Calls Try.prog 6 #[.agg #[.int .i64 e0, .int .i64 m0, .int .i64 j0, .slice A0 P0.length c0], .int .i64 x1] w fun e w' => e = .returned (.bool true) ∧ Below w.heap.size w w' := by
  have z0 := fun (W : World) (_ : Below w.heap.size w W) => szBoard_any e0 m0 j0 A0 P0.length c0 (1048576) W (by omega) (by omega) (by omega)
  have e0_ : (if (1048576) < (P0.length : Int) then (-1 : Int) else 1048576 - P0.length) = 1048576 - P0.length := if_neg (by omega)
  simp only [e0_] at z0
  clear e0_
  have hm0 : P0.length ≤ 1048576 := by omega
  have t0 := fun W (hW : Below w.heap.size w W) => toBoardAt_any e0 m0 j0 A0 c0 P0 w.heap.size W (h0.below hW) hW.size hm0
  have q0 := fun A A' W (hA : Wires W W.heap.size A P0) (hA' : Wires W W.heap.size A' P0) => eqBoardAt_any e0 m0 j0 A A' P0.length P0.length P0 W hA hA' hm0
  have r0 := fun A lo hi W (k : Int) (h0 : 0 ≤ k) (h1 : k ≤ 4194304) (hA : WAt W lo hi A P0) => markBoardAt_any e0 m0 j0 A P0.length P0 lo hi k W hA h0 h1 hm0
  have xe := fun A A' c c' W (h : Wires W W.heap.size A X) (h' : Wires W W.heap.size A' X) => eqBoardAt_any eX mX jX A A' c c' X W h h' hx
  have xm := fun A c lo hi W (h : WAt W lo hi A X) => markBoardAt_any eX mX jX A c X lo hi 1 W h (by omega) (by omega) hx
  have xh := fun A c lo hi W (h : WAt W lo hi A (wmk X 1 X.length)) => heldBoardAt_any eX mX jX A c X lo hi 1 W h (by omega) (by omega) hx
  have gx : ¬ 1 + 2 * (X.length : Int) < 0 := by omega
  obtain ⟨nX, hnX⟩ : ∃ n, X.length = n := ⟨_, rfl⟩
  have cv : ∀ (W : World) (g0 lo0 hi0 : Nat), Below w.heap.size w W → WAt W lo0 hi0 (some ⟨g0, 0, none⟩) P0 → Calls Try.prog 27 #[.agg #[.int .i64 e0, .int .i64 m0, .int .i64 j0, .slice (some ⟨g0, 0, none⟩) P0.length P0.length], .int .i64 x1] W (GivesBC eX mX jX X v W) := fun W g0 lo0 hi0 hW hO0 => by
    have := hv W (some ⟨g0, 0, none⟩) W.heap.size hW hO0.wires (Nat.le_refl _)
    exact this
  have ci : ∀ (W : World) (g0 lo0 hi0 : Nat), Below w.heap.size w W → WAt W lo0 hi0 (some ⟨g0, 0, none⟩) P0 → Calls Try.prog 28 #[.agg #[.int .i64 e0, .int .i64 m0, .int .i64 j0, .slice (some ⟨g0, 0, none⟩) P0.length P0.length], .int .i64 x1] W (GivesBC eX mX jX X v W) := fun W g0 lo0 hi0 hW hO0 => by
    have := hi W (some ⟨g0, 0, none⟩) W.heap.size hW hO0.wires (Nat.le_refl _)
    exact this
  unfold GivesBC at cv ci
  simp only [hnX] at xe xm xh gx cv ci
  obtain ⟨n0, hn0⟩ : ∃ n, P0.length = n := ⟨_, rfl⟩
  simp only [hn0] at z0 t0 q0 r0 cv ci hs ⊢
  have Z0 := Lib.hid z0
  have T0 := Lib.hid t0
  have Q0 := Lib.hid q0
  have R0 := Lib.hid r0
  have XE := Lib.hid xe
  have XM := Lib.hid xm
  have XH := Lib.hid xh
  have CV := Lib.hid cv
  have CI := Lib.hid ci
  have g0 : ¬ 1048576 - (n0 : Int) < 0 := by omega
  have kb0 : 0 ≤ (1 : Int) ∧ (1 : Int) ≤ 4194304 := by omega
  have gk : ¬ 1 + 2 * (n0 : Int) < 0 := by omega
  clear cv ci hv hi xe xm xh hnX z0 t0 q0 r0 hn0 h0 hm0
  go_enter Try.func6, Try.ntmps6
  go_wp2_with fail
  refine (Z0.out _ (below_box w _)).mono ?_
  rintro e w1 ⟨rfl, hb⟩
  have B_1 := Lib.hid (below_step (below_box w _) hb)
  have a0c0_1 := cell_kept (p := ⟨w.heap.size, 0, none⟩) (v := .int .i64 e0) (by simp [go_sem]) hb
  have a0c1_1 := cell_kept (p := ⟨w.heap.size, 1, none⟩) (v := .int .i64 m0) (by simp [go_sem]) hb
  have a0c2_1 := cell_kept (p := ⟨w.heap.size, 2, none⟩) (v := .int .i64 j0) (by simp [go_sem]) hb
  have a0c3_1 := cell_kept (p := ⟨w.heap.size, 3, none⟩) (v := .slice A0 n0 c0) (by simp [go_sem]) hb
  have S_1 : Hid (w.heap.size + 1 ≤ w1.heap.size) := by show _ ≤ _; have := hb.size; simpa using this
  clear hb
  go_wp2_with fail
  refine (T0.out _ B_1.out).mono ?_
  rintro e w2 ⟨gw0, rfl, hb, ho⟩
  have B_2 := Lib.hid (below_step B_1.out hb)
  have a0c0_2 := cell_kept a0c0_1 hb
  have a0c1_2 := cell_kept a0c1_1 hb
  have a0c2_2 := cell_kept a0c2_1 hb
  have a0c3_2 := cell_kept a0c3_1 hb
  have S_2 : Hid (w1.heap.size ≤ w2.heap.size) := hb.size
  have w0_2 := Lib.hid ho
  clear hb ho B_1 a0c0_1 a0c1_1 a0c2_1 a0c3_1
  go_wp2_with fail
  refine (CV.out _ _ _ _ B_2.out w0_2.out).mono ?_
  rintro e w3 ⟨AW, cW, rfl, hb, ho⟩
  have B_3 := Lib.hid (below_step B_2.out hb)
  have a0c0_3 := cell_kept a0c0_2 hb
  have a0c1_3 := cell_kept a0c1_2 hb
  have a0c2_3 := cell_kept a0c2_2 hb
  have a0c3_3 := cell_kept a0c3_2 hb
  have w0_3 := Lib.hid (w0_2.out.later hb)
  have S_3 : Hid (w2.heap.size ≤ w3.heap.size) := hb.size
  have W_3 := Lib.hid ho
  clear hb ho B_2 a0c0_2 a0c1_2 a0c2_2 a0c3_2 w0_2
  have hb := below_box w3 (.cells #[.int .i64 eX, .int .i64 mX, .int .i64 jX, .slice AW nX cW] 29)
  obtain ⟨hc0, hc1, hc2, hc3⟩ := board_cells w3 (eX) (mX) (jX) (.slice AW nX cW) 29
  obtain ⟨w4, hW4⟩ : ∃ W, w3.alloc (.cells #[.int .i64 eX, .int .i64 mX, .int .i64 jX, .slice AW nX cW] 29) = W := ⟨_, rfl⟩
  rw [hW4] at hb hc0 hc1 hc2 hc3
  have B_4 := Lib.hid (below_step B_3.out hb)
  have a0c0_4 := cell_kept a0c0_3 hb
  have a0c1_4 := cell_kept a0c1_3 hb
  have a0c2_4 := cell_kept a0c2_3 hb
  have a0c3_4 := cell_kept a0c3_3 hb
  have w0_4 := Lib.hid (w0_3.out.later hb)
  have W_4 := Lib.hid (W_3.out.later hb)
  have S_4 : Hid (w3.heap.size ≤ w4.heap.size) := hb.size
  have bWc0_4 := hc0
  have bWc1_4 := hc1
  have bWc2_4 := hc2
  have bWc3_4 := hc3
  clear hb hc0 hc1 hc2 hc3 B_3 a0c0_3 a0c1_3 a0c2_3 a0c3_3 w0_3 W_3
  have Z_bW : Hid (w3.heap.size < w4.heap.size) := by show _ < _; rw [← hW4, World.size_alloc]; omega
  clear w0_4
  go_wp2_with fail
  refine (T0.out _ B_4.out).mono ?_
  rintro e w5 ⟨gx0, rfl, hb, ho⟩
  have B_5 := Lib.hid (below_step B_4.out hb)
  have a0c0_5 := cell_kept a0c0_4 hb
  have a0c1_5 := cell_kept a0c1_4 hb
  have a0c2_5 := cell_kept a0c2_4 hb
  have a0c3_5 := cell_kept a0c3_4 hb
  have bWc0_5 := cell_kept bWc0_4 hb
  have bWc1_5 := cell_kept bWc1_4 hb
  have bWc2_5 := cell_kept bWc2_4 hb
  have bWc3_5 := cell_kept bWc3_4 hb
  have W_5 := Lib.hid (W_4.out.later hb)
  have S_5 : Hid (w4.heap.size ≤ w5.heap.size) := hb.size
  have x0_5 := Lib.hid ho
  clear hb ho B_4 a0c0_4 a0c1_4 a0c2_4 a0c3_4 bWc0_4 bWc1_4 bWc2_4 bWc3_4 W_4
  have hb := below_box w5 (.cells #[.int .i64 e0, .int .i64 m0, .int .i64 j0, .slice (some ⟨gx0, 0, none⟩) n0 n0] 29)
  obtain ⟨hc0, hc1, hc2, hc3⟩ := board_cells w5 (e0) (m0) (j0) (.slice (some ⟨gx0, 0, none⟩) n0 n0) 29
  obtain ⟨w6, hW6⟩ : ∃ W, w5.alloc (.cells #[.int .i64 e0, .int .i64 m0, .int .i64 j0, .slice (some ⟨gx0, 0, none⟩) n0 n0] 29) = W := ⟨_, rfl⟩
  rw [hW6] at hb hc0 hc1 hc2 hc3
  have B_6 := Lib.hid (below_step B_5.out hb)
  have a0c0_6 := cell_kept a0c0_5 hb
  have a0c1_6 := cell_kept a0c1_5 hb
  have a0c2_6 := cell_kept a0c2_5 hb
  have a0c3_6 := cell_kept a0c3_5 hb
  have bWc0_6 := cell_kept bWc0_5 hb
  have bWc1_6 := cell_kept bWc1_5 hb
  have bWc2_6 := cell_kept bWc2_5 hb
  have bWc3_6 := cell_kept bWc3_5 hb
  have W_6 := Lib.hid (W_5.out.later hb)
  have x0_6 := Lib.hid (x0_5.out.later hb)
  have S_6 : Hid (w5.heap.size ≤ w6.heap.size) := hb.size
  have bx0c0_6 := hc0
  have bx0c1_6 := hc1
  have bx0c2_6 := hc2
  have bx0c3_6 := hc3
  clear hb hc0 hc1 hc2 hc3 B_5 a0c0_5 a0c1_5 a0c2_5 a0c3_5 bWc0_5 bWc1_5 bWc2_5 bWc3_5 W_5 x0_5
  have Z_bx0 : Hid (w5.heap.size < w6.heap.size) := by show _ < _; rw [← hW6, World.size_alloc]; omega
  go_wp2_with fail
  refine (CI.out _ _ _ _ B_6.out x0_6.out).mono ?_
  rintro e w7 ⟨AG, cG, rfl, hb, ho⟩
  have B_7 := Lib.hid (below_step B_6.out hb)
  have a0c0_7 := cell_kept a0c0_6 hb
  have a0c1_7 := cell_kept a0c1_6 hb
  have a0c2_7 := cell_kept a0c2_6 hb
  have a0c3_7 := cell_kept a0c3_6 hb
  have bWc0_7 := cell_kept bWc0_6 hb
  have bWc1_7 := cell_kept bWc1_6 hb
  have bWc2_7 := cell_kept bWc2_6 hb
  have bWc3_7 := cell_kept bWc3_6 hb
  have bx0c0_7 := cell_kept bx0c0_6 hb
  have bx0c1_7 := cell_kept bx0c1_6 hb
  have bx0c2_7 := cell_kept bx0c2_6 hb
  have bx0c3_7 := cell_kept bx0c3_6 hb
  have W_7 := Lib.hid (W_6.out.later hb)
  have x0_7 := Lib.hid (x0_6.out.later hb)
  have S_7 : Hid (w6.heap.size ≤ w7.heap.size) := hb.size
  have G_7 := Lib.hid ho
  clear hb ho B_6 a0c0_6 a0c1_6 a0c2_6 a0c3_6 bWc0_6 bWc1_6 bWc2_6 bWc3_6 bx0c0_6 bx0c1_6 bx0c2_6 bx0c3_6 W_6 x0_6
  have hb := below_box w7 (.cells #[.int .i64 eX, .int .i64 mX, .int .i64 jX, .slice AG nX cG] 29)
  obtain ⟨hc0, hc1, hc2, hc3⟩ := board_cells w7 (eX) (mX) (jX) (.slice AG nX cG) 29
  obtain ⟨w8, hW8⟩ : ∃ W, w7.alloc (.cells #[.int .i64 eX, .int .i64 mX, .int .i64 jX, .slice AG nX cG] 29) = W := ⟨_, rfl⟩
  rw [hW8] at hb hc0 hc1 hc2 hc3
  have B_8 := Lib.hid (below_step B_7.out hb)
  have a0c0_8 := cell_kept a0c0_7 hb
  have a0c1_8 := cell_kept a0c1_7 hb
  have a0c2_8 := cell_kept a0c2_7 hb
  have a0c3_8 := cell_kept a0c3_7 hb
  have bWc0_8 := cell_kept bWc0_7 hb
  have bWc1_8 := cell_kept bWc1_7 hb
  have bWc2_8 := cell_kept bWc2_7 hb
  have bWc3_8 := cell_kept bWc3_7 hb
  have bx0c0_8 := cell_kept bx0c0_7 hb
  have bx0c1_8 := cell_kept bx0c1_7 hb
  have bx0c2_8 := cell_kept bx0c2_7 hb
  have bx0c3_8 := cell_kept bx0c3_7 hb
  have W_8 := Lib.hid (W_7.out.later hb)
  have x0_8 := Lib.hid (x0_7.out.later hb)
  have G_8 := Lib.hid (G_7.out.later hb)
  have S_8 : Hid (w7.heap.size ≤ w8.heap.size) := hb.size
  have bGc0_8 := hc0
  have bGc1_8 := hc1
  have bGc2_8 := hc2
  have bGc3_8 := hc3
  clear hb hc0 hc1 hc2 hc3 B_7 a0c0_7 a0c1_7 a0c2_7 a0c3_7 bWc0_7 bWc1_7 bWc2_7 bWc3_7 bx0c0_7 bx0c1_7 bx0c2_7 bx0c3_7 W_7 x0_7 G_7
  have Z_bG : Hid (w7.heap.size < w8.heap.size) := by show _ < _; rw [← hW8, World.size_alloc]; omega
  go_wp2_with fail
  refine (XE.out _ _ _ _ _ G_8.out.wires W_8.out.wires).mono ?_
  rintro e w9 ⟨rfl, hb⟩
  have B_9 := Lib.hid (below_step B_8.out hb)
  have a0c0_9 := cell_kept a0c0_8 hb
  have a0c1_9 := cell_kept a0c1_8 hb
  have a0c2_9 := cell_kept a0c2_8 hb
  have a0c3_9 := cell_kept a0c3_8 hb
  have bWc0_9 := cell_kept bWc0_8 hb
  have bWc1_9 := cell_kept bWc1_8 hb
  have bWc2_9 := cell_kept bWc2_8 hb
  have bWc3_9 := cell_kept bWc3_8 hb
  have bx0c0_9 := cell_kept bx0c0_8 hb
  have bx0c1_9 := cell_kept bx0c1_8 hb
  have bx0c2_9 := cell_kept bx0c2_8 hb
  have bx0c3_9 := cell_kept bx0c3_8 hb
  have bGc0_9 := cell_kept bGc0_8 hb
  have bGc1_9 := cell_kept bGc1_8 hb
  have bGc2_9 := cell_kept bGc2_8 hb
  have bGc3_9 := cell_kept bGc3_8 hb
  have W_9 := Lib.hid (W_8.out.later hb)
  have x0_9 := Lib.hid (x0_8.out.later hb)
  have G_9 := Lib.hid (G_8.out.later hb)
  have S_9 : Hid (w8.heap.size ≤ w9.heap.size) := hb.size
  clear hb B_8 a0c0_8 a0c1_8 a0c2_8 a0c3_8 bWc0_8 bWc1_8 bWc2_8 bWc3_8 bx0c0_8 bx0c1_8 bx0c2_8 bx0c3_8 bGc0_8 bGc1_8 bGc2_8 bGc3_8 W_8 x0_8 G_8
  go_wp2
  go_region_held3 (fun W => W.cell? ⟨w5.heap.size, 0, none⟩ = some (.int .i64 e0) ∧ W.cell? ⟨w5.heap.size, 1, none⟩ = some (.int .i64 m0) ∧ W.cell? ⟨w5.heap.size, 2, none⟩ = some (.int .i64 j0) ∧ W.cell? ⟨w5.heap.size, 3, none⟩ = some (.slice (some ⟨gx0, 0, none⟩) n0 n0) ∧ W.cell? ⟨w.heap.size, 0, none⟩ = some (.int .i64 e0) ∧ W.cell? ⟨w.heap.size, 1, none⟩ = some (.int .i64 m0) ∧ W.cell? ⟨w.heap.size, 2, none⟩ = some (.int .i64 j0) ∧ W.cell? ⟨w.heap.size, 3, none⟩ = some (.slice A0 n0 c0))
    (first | exact ⟨bx0c0_9, bx0c1_9, bx0c2_9, bx0c3_9, a0c0_9, a0c1_9, a0c2_9, a0c3_9⟩ | exact ⟨bx0c0_10, bx0c1_10, bx0c2_10, bx0c3_10, a0c0_10, a0c1_10, a0c2_10, a0c3_10⟩ | exact ⟨bx0c0_11, bx0c1_11, bx0c2_11, bx0c3_11, a0c0_11, a0c1_11, a0c2_11, a0c3_11⟩)
    (first
      | (go_at_call 17
         refine (T0.out _ B_9.out.drew).mono ?_
         rintro e w10 ⟨gz0, rfl, hb, ho⟩
         have B_10 := Lib.hid (below_step B_9.out.drew hb)
         have a0c0_10 := cell_kept (w := w9.drew) a0c0_9 hb
         have a0c1_10 := cell_kept (w := w9.drew) a0c1_9 hb
         have a0c2_10 := cell_kept (w := w9.drew) a0c2_9 hb
         have a0c3_10 := cell_kept (w := w9.drew) a0c3_9 hb
         have bWc0_10 := cell_kept (w := w9.drew) bWc0_9 hb
         have bWc1_10 := cell_kept (w := w9.drew) bWc1_9 hb
         have bWc2_10 := cell_kept (w := w9.drew) bWc2_9 hb
         have bWc3_10 := cell_kept (w := w9.drew) bWc3_9 hb
         have bx0c0_10 := cell_kept (w := w9.drew) bx0c0_9 hb
         have bx0c1_10 := cell_kept (w := w9.drew) bx0c1_9 hb
         have bx0c2_10 := cell_kept (w := w9.drew) bx0c2_9 hb
         have bx0c3_10 := cell_kept (w := w9.drew) bx0c3_9 hb
         have bGc0_10 := cell_kept (w := w9.drew) bGc0_9 hb
         have bGc1_10 := cell_kept (w := w9.drew) bGc1_9 hb
         have bGc2_10 := cell_kept (w := w9.drew) bGc2_9 hb
         have bGc3_10 := cell_kept (w := w9.drew) bGc3_9 hb
         have W_10 := Lib.hid (W_9.out.drew.later hb)
         have x0_10 := Lib.hid (x0_9.out.drew.later hb)
         have G_10 := Lib.hid (G_9.out.drew.later hb)
         have S_10 : Hid (w9.heap.size ≤ w10.heap.size) := hb.size
         have z0_10 := Lib.hid ho
         clear hb ho)
      | (go_at_call 19
         refine (Q0.out _ _ _ x0_10.out.wires z0_10.out.wires).mono ?_
         rintro e w11 ⟨rfl, hb⟩
         have B_11 := Lib.hid (below_step B_10.out hb)
         have a0c0_11 := cell_kept a0c0_10 hb
         have a0c1_11 := cell_kept a0c1_10 hb
         have a0c2_11 := cell_kept a0c2_10 hb
         have a0c3_11 := cell_kept a0c3_10 hb
         have bWc0_11 := cell_kept bWc0_10 hb
         have bWc1_11 := cell_kept bWc1_10 hb
         have bWc2_11 := cell_kept bWc2_10 hb
         have bWc3_11 := cell_kept bWc3_10 hb
         have bx0c0_11 := cell_kept bx0c0_10 hb
         have bx0c1_11 := cell_kept bx0c1_10 hb
         have bx0c2_11 := cell_kept bx0c2_10 hb
         have bx0c3_11 := cell_kept bx0c3_10 hb
         have bGc0_11 := cell_kept bGc0_10 hb
         have bGc1_11 := cell_kept bGc1_10 hb
         have bGc2_11 := cell_kept bGc2_10 hb
         have bGc3_11 := cell_kept bGc3_10 hb
         have W_11 := Lib.hid (W_10.out.later hb)
         have x0_11 := Lib.hid (x0_10.out.later hb)
         have G_11 := Lib.hid (G_10.out.later hb)
         have z0_11 := Lib.hid (z0_10.out.later hb)
         have S_11 : Hid (w10.heap.size ≤ w11.heap.size) := hb.size
         clear hb))
  clear B_9 a0c0_9 a0c1_9 a0c2_9 a0c3_9 bWc0_9 bWc1_9 bWc2_9 bWc3_9 bx0c0_9 bx0c1_9 bx0c2_9 bx0c3_9 bGc0_9 bGc1_9 bGc2_9 bGc3_9 W_9 x0_9 G_9 B_10 a0c0_10 a0c1_10 a0c2_10 a0c3_10 bWc0_10 bWc1_10 bWc2_10 bWc3_10 bx0c0_10 bx0c1_10 bx0c2_10 bx0c3_10 bGc0_10 bGc1_10 bGc2_10 bGc3_10 W_10 x0_10 G_10 z0_10
  clear z0_11
  go_wp2_with fail
  refine (R0.out _ _ _ _ _ kb0.1 kb0.2 x0_11.out).mono ?_
  rintro e w12 ⟨rfl, hw, hrow⟩
  have B_12 := Lib.hid (below_within B_11.out hw (by have z1 := S_1.out; have z2 := S_2.out; have z3 := S_3.out; have z4 := S_4.out; have z5 := S_5.out; have z6 := S_6.out; have z7 := S_7.out; have z8 := S_8.out; have z9 := S_9.out; have z10 := S_10.out; have z11 := S_11.out; omega))
  have a0c0_12 := hw.cell a0c0_11 (by show w.heap.size < _ ∨ _ ≤ w.heap.size; have z1 := S_1.out; have z2 := S_2.out; have z3 := S_3.out; have z4 := S_4.out; have z5 := S_5.out; have z6 := S_6.out; have z7 := S_7.out; have z8 := S_8.out; have z9 := S_9.out; have z10 := S_10.out; have z11 := S_11.out; omega)
  have a0c1_12 := hw.cell a0c1_11 (by show w.heap.size < _ ∨ _ ≤ w.heap.size; have z1 := S_1.out; have z2 := S_2.out; have z3 := S_3.out; have z4 := S_4.out; have z5 := S_5.out; have z6 := S_6.out; have z7 := S_7.out; have z8 := S_8.out; have z9 := S_9.out; have z10 := S_10.out; have z11 := S_11.out; omega)
  have a0c2_12 := hw.cell a0c2_11 (by show w.heap.size < _ ∨ _ ≤ w.heap.size; have z1 := S_1.out; have z2 := S_2.out; have z3 := S_3.out; have z4 := S_4.out; have z5 := S_5.out; have z6 := S_6.out; have z7 := S_7.out; have z8 := S_8.out; have z9 := S_9.out; have z10 := S_10.out; have z11 := S_11.out; omega)
  have a0c3_12 := hw.cell a0c3_11 (by show w.heap.size < _ ∨ _ ≤ w.heap.size; have z1 := S_1.out; have z2 := S_2.out; have z3 := S_3.out; have z4 := S_4.out; have z5 := S_5.out; have z6 := S_6.out; have z7 := S_7.out; have z8 := S_8.out; have z9 := S_9.out; have z10 := S_10.out; have z11 := S_11.out; omega)
  have bWc0_12 := hw.cell bWc0_11 (by show w3.heap.size < _ ∨ _ ≤ w3.heap.size; have zz := Z_bW.out; have z1 := S_1.out; have z2 := S_2.out; have z3 := S_3.out; have z4 := S_4.out; have z5 := S_5.out; have z6 := S_6.out; have z7 := S_7.out; have z8 := S_8.out; have z9 := S_9.out; have z10 := S_10.out; have z11 := S_11.out; omega)
  have bWc1_12 := hw.cell bWc1_11 (by show w3.heap.size < _ ∨ _ ≤ w3.heap.size; have zz := Z_bW.out; have z1 := S_1.out; have z2 := S_2.out; have z3 := S_3.out; have z4 := S_4.out; have z5 := S_5.out; have z6 := S_6.out; have z7 := S_7.out; have z8 := S_8.out; have z9 := S_9.out; have z10 := S_10.out; have z11 := S_11.out; omega)
  have bWc2_12 := hw.cell bWc2_11 (by show w3.heap.size < _ ∨ _ ≤ w3.heap.size; have zz := Z_bW.out; have z1 := S_1.out; have z2 := S_2.out; have z3 := S_3.out; have z4 := S_4.out; have z5 := S_5.out; have z6 := S_6.out; have z7 := S_7.out; have z8 := S_8.out; have z9 := S_9.out; have z10 := S_10.out; have z11 := S_11.out; omega)
  have bWc3_12 := hw.cell bWc3_11 (by show w3.heap.size < _ ∨ _ ≤ w3.heap.size; have zz := Z_bW.out; have z1 := S_1.out; have z2 := S_2.out; have z3 := S_3.out; have z4 := S_4.out; have z5 := S_5.out; have z6 := S_6.out; have z7 := S_7.out; have z8 := S_8.out; have z9 := S_9.out; have z10 := S_10.out; have z11 := S_11.out; omega)
  have bx0c0_12 := hw.cell bx0c0_11 (by show w5.heap.size < _ ∨ _ ≤ w5.heap.size; have zz := Z_bx0.out; have z1 := S_1.out; have z2 := S_2.out; have z3 := S_3.out; have z4 := S_4.out; have z5 := S_5.out; have z6 := S_6.out; have z7 := S_7.out; have z8 := S_8.out; have z9 := S_9.out; have z10 := S_10.out; have z11 := S_11.out; omega)
  have bx0c1_12 := hw.cell bx0c1_11 (by show w5.heap.size < _ ∨ _ ≤ w5.heap.size; have zz := Z_bx0.out; have z1 := S_1.out; have z2 := S_2.out; have z3 := S_3.out; have z4 := S_4.out; have z5 := S_5.out; have z6 := S_6.out; have z7 := S_7.out; have z8 := S_8.out; have z9 := S_9.out; have z10 := S_10.out; have z11 := S_11.out; omega)
  have bx0c2_12 := hw.cell bx0c2_11 (by show w5.heap.size < _ ∨ _ ≤ w5.heap.size; have zz := Z_bx0.out; have z1 := S_1.out; have z2 := S_2.out; have z3 := S_3.out; have z4 := S_4.out; have z5 := S_5.out; have z6 := S_6.out; have z7 := S_7.out; have z8 := S_8.out; have z9 := S_9.out; have z10 := S_10.out; have z11 := S_11.out; omega)
  have bx0c3_12 := hw.cell bx0c3_11 (by show w5.heap.size < _ ∨ _ ≤ w5.heap.size; have zz := Z_bx0.out; have z1 := S_1.out; have z2 := S_2.out; have z3 := S_3.out; have z4 := S_4.out; have z5 := S_5.out; have z6 := S_6.out; have z7 := S_7.out; have z8 := S_8.out; have z9 := S_9.out; have z10 := S_10.out; have z11 := S_11.out; omega)
  have bGc0_12 := hw.cell bGc0_11 (by show w7.heap.size < _ ∨ _ ≤ w7.heap.size; have zz := Z_bG.out; have z1 := S_1.out; have z2 := S_2.out; have z3 := S_3.out; have z4 := S_4.out; have z5 := S_5.out; have z6 := S_6.out; have z7 := S_7.out; have z8 := S_8.out; have z9 := S_9.out; have z10 := S_10.out; have z11 := S_11.out; omega)
  have bGc1_12 := hw.cell bGc1_11 (by show w7.heap.size < _ ∨ _ ≤ w7.heap.size; have zz := Z_bG.out; have z1 := S_1.out; have z2 := S_2.out; have z3 := S_3.out; have z4 := S_4.out; have z5 := S_5.out; have z6 := S_6.out; have z7 := S_7.out; have z8 := S_8.out; have z9 := S_9.out; have z10 := S_10.out; have z11 := S_11.out; omega)
  have bGc2_12 := hw.cell bGc2_11 (by show w7.heap.size < _ ∨ _ ≤ w7.heap.size; have zz := Z_bG.out; have z1 := S_1.out; have z2 := S_2.out; have z3 := S_3.out; have z4 := S_4.out; have z5 := S_5.out; have z6 := S_6.out; have z7 := S_7.out; have z8 := S_8.out; have z9 := S_9.out; have z10 := S_10.out; have z11 := S_11.out; omega)
  have bGc3_12 := hw.cell bGc3_11 (by show w7.heap.size < _ ∨ _ ≤ w7.heap.size; have zz := Z_bG.out; have z1 := S_1.out; have z2 := S_2.out; have z3 := S_3.out; have z4 := S_4.out; have z5 := S_5.out; have z6 := S_6.out; have z7 := S_7.out; have z8 := S_8.out; have z9 := S_9.out; have z10 := S_10.out; have z11 := S_11.out; omega)
  have W_12 := Lib.hid (W_11.out.within hw (Or.inl (by have z1 := S_1.out; have z2 := S_2.out; have z3 := S_3.out; have z4 := S_4.out; have z5 := S_5.out; have z6 := S_6.out; have z7 := S_7.out; have z8 := S_8.out; have z9 := S_9.out; have z10 := S_10.out; have z11 := S_11.out; omega)))
  have x0_12 := Lib.hid hrow
  have G_12 := Lib.hid (G_11.out.within hw (Or.inr (by have z1 := S_1.out; have z2 := S_2.out; have z3 := S_3.out; have z4 := S_4.out; have z5 := S_5.out; have z6 := S_6.out; have z7 := S_7.out; have z8 := S_8.out; have z9 := S_9.out; have z10 := S_10.out; have z11 := S_11.out; omega)))
  have S_12 : Hid (w11.heap.size ≤ w12.heap.size) := hw.size
  clear hw hrow B_11 a0c0_11 a0c1_11 a0c2_11 a0c3_11 bWc0_11 bWc1_11 bWc2_11 bWc3_11 bx0c0_11 bx0c1_11 bx0c2_11 bx0c3_11 bGc0_11 bGc1_11 bGc2_11 bGc3_11 W_11 x0_11 G_11
  go_wp2_with fail
  refine (XE.out _ _ _ _ _ G_12.out.wires W_12.out.wires).mono ?_
  rintro e w13 ⟨rfl, hb⟩
  have B_13 := Lib.hid (below_step B_12.out hb)
  have a0c0_13 := cell_kept a0c0_12 hb
  have a0c1_13 := cell_kept a0c1_12 hb
  have a0c2_13 := cell_kept a0c2_12 hb
  have a0c3_13 := cell_kept a0c3_12 hb
  have bWc0_13 := cell_kept bWc0_12 hb
  have bWc1_13 := cell_kept bWc1_12 hb
  have bWc2_13 := cell_kept bWc2_12 hb
  have bWc3_13 := cell_kept bWc3_12 hb
  have bx0c0_13 := cell_kept bx0c0_12 hb
  have bx0c1_13 := cell_kept bx0c1_12 hb
  have bx0c2_13 := cell_kept bx0c2_12 hb
  have bx0c3_13 := cell_kept bx0c3_12 hb
  have bGc0_13 := cell_kept bGc0_12 hb
  have bGc1_13 := cell_kept bGc1_12 hb
  have bGc2_13 := cell_kept bGc2_12 hb
  have bGc3_13 := cell_kept bGc3_12 hb
  have W_13 := Lib.hid (W_12.out.later hb)
  have x0_13 := Lib.hid (x0_12.out.later hb)
  have G_13 := Lib.hid (G_12.out.later hb)
  have S_13 : Hid (w12.heap.size ≤ w13.heap.size) := hb.size
  clear hb B_12 a0c0_12 a0c1_12 a0c2_12 a0c3_12 bWc0_12 bWc1_12 bWc2_12 bWc3_12 bx0c0_12 bx0c1_12 bx0c2_12 bx0c3_12 bGc0_12 bGc1_12 bGc2_12 bGc3_12 W_12 x0_12 G_12
  clear x0_13
  go_wp2_with fail
  refine (XM.out _ _ _ _ _ G_13.out).mono ?_
  rintro e w14 ⟨rfl, hw, hrow⟩
  have B_14 := Lib.hid (below_within B_13.out hw (by have z1 := S_1.out; have z2 := S_2.out; have z3 := S_3.out; have z4 := S_4.out; have z5 := S_5.out; have z6 := S_6.out; have z7 := S_7.out; have z8 := S_8.out; have z9 := S_9.out; have z10 := S_10.out; have z11 := S_11.out; have z12 := S_12.out; have z13 := S_13.out; omega))
  have a0c0_14 := hw.cell a0c0_13 (by show w.heap.size < _ ∨ _ ≤ w.heap.size; have z1 := S_1.out; have z2 := S_2.out; have z3 := S_3.out; have z4 := S_4.out; have z5 := S_5.out; have z6 := S_6.out; have z7 := S_7.out; have z8 := S_8.out; have z9 := S_9.out; have z10 := S_10.out; have z11 := S_11.out; have z12 := S_12.out; have z13 := S_13.out; omega)
  have a0c1_14 := hw.cell a0c1_13 (by show w.heap.size < _ ∨ _ ≤ w.heap.size; have z1 := S_1.out; have z2 := S_2.out; have z3 := S_3.out; have z4 := S_4.out; have z5 := S_5.out; have z6 := S_6.out; have z7 := S_7.out; have z8 := S_8.out; have z9 := S_9.out; have z10 := S_10.out; have z11 := S_11.out; have z12 := S_12.out; have z13 := S_13.out; omega)
  have a0c2_14 := hw.cell a0c2_13 (by show w.heap.size < _ ∨ _ ≤ w.heap.size; have z1 := S_1.out; have z2 := S_2.out; have z3 := S_3.out; have z4 := S_4.out; have z5 := S_5.out; have z6 := S_6.out; have z7 := S_7.out; have z8 := S_8.out; have z9 := S_9.out; have z10 := S_10.out; have z11 := S_11.out; have z12 := S_12.out; have z13 := S_13.out; omega)
  have a0c3_14 := hw.cell a0c3_13 (by show w.heap.size < _ ∨ _ ≤ w.heap.size; have z1 := S_1.out; have z2 := S_2.out; have z3 := S_3.out; have z4 := S_4.out; have z5 := S_5.out; have z6 := S_6.out; have z7 := S_7.out; have z8 := S_8.out; have z9 := S_9.out; have z10 := S_10.out; have z11 := S_11.out; have z12 := S_12.out; have z13 := S_13.out; omega)
  have bWc0_14 := hw.cell bWc0_13 (by show w3.heap.size < _ ∨ _ ≤ w3.heap.size; have zz := Z_bW.out; have z1 := S_1.out; have z2 := S_2.out; have z3 := S_3.out; have z4 := S_4.out; have z5 := S_5.out; have z6 := S_6.out; have z7 := S_7.out; have z8 := S_8.out; have z9 := S_9.out; have z10 := S_10.out; have z11 := S_11.out; have z12 := S_12.out; have z13 := S_13.out; omega)
  have bWc1_14 := hw.cell bWc1_13 (by show w3.heap.size < _ ∨ _ ≤ w3.heap.size; have zz := Z_bW.out; have z1 := S_1.out; have z2 := S_2.out; have z3 := S_3.out; have z4 := S_4.out; have z5 := S_5.out; have z6 := S_6.out; have z7 := S_7.out; have z8 := S_8.out; have z9 := S_9.out; have z10 := S_10.out; have z11 := S_11.out; have z12 := S_12.out; have z13 := S_13.out; omega)
  have bWc2_14 := hw.cell bWc2_13 (by show w3.heap.size < _ ∨ _ ≤ w3.heap.size; have zz := Z_bW.out; have z1 := S_1.out; have z2 := S_2.out; have z3 := S_3.out; have z4 := S_4.out; have z5 := S_5.out; have z6 := S_6.out; have z7 := S_7.out; have z8 := S_8.out; have z9 := S_9.out; have z10 := S_10.out; have z11 := S_11.out; have z12 := S_12.out; have z13 := S_13.out; omega)
  have bWc3_14 := hw.cell bWc3_13 (by show w3.heap.size < _ ∨ _ ≤ w3.heap.size; have zz := Z_bW.out; have z1 := S_1.out; have z2 := S_2.out; have z3 := S_3.out; have z4 := S_4.out; have z5 := S_5.out; have z6 := S_6.out; have z7 := S_7.out; have z8 := S_8.out; have z9 := S_9.out; have z10 := S_10.out; have z11 := S_11.out; have z12 := S_12.out; have z13 := S_13.out; omega)
  have bx0c0_14 := hw.cell bx0c0_13 (by show w5.heap.size < _ ∨ _ ≤ w5.heap.size; have zz := Z_bx0.out; have z1 := S_1.out; have z2 := S_2.out; have z3 := S_3.out; have z4 := S_4.out; have z5 := S_5.out; have z6 := S_6.out; have z7 := S_7.out; have z8 := S_8.out; have z9 := S_9.out; have z10 := S_10.out; have z11 := S_11.out; have z12 := S_12.out; have z13 := S_13.out; omega)
  have bx0c1_14 := hw.cell bx0c1_13 (by show w5.heap.size < _ ∨ _ ≤ w5.heap.size; have zz := Z_bx0.out; have z1 := S_1.out; have z2 := S_2.out; have z3 := S_3.out; have z4 := S_4.out; have z5 := S_5.out; have z6 := S_6.out; have z7 := S_7.out; have z8 := S_8.out; have z9 := S_9.out; have z10 := S_10.out; have z11 := S_11.out; have z12 := S_12.out; have z13 := S_13.out; omega)
  have bx0c2_14 := hw.cell bx0c2_13 (by show w5.heap.size < _ ∨ _ ≤ w5.heap.size; have zz := Z_bx0.out; have z1 := S_1.out; have z2 := S_2.out; have z3 := S_3.out; have z4 := S_4.out; have z5 := S_5.out; have z6 := S_6.out; have z7 := S_7.out; have z8 := S_8.out; have z9 := S_9.out; have z10 := S_10.out; have z11 := S_11.out; have z12 := S_12.out; have z13 := S_13.out; omega)
  have bx0c3_14 := hw.cell bx0c3_13 (by show w5.heap.size < _ ∨ _ ≤ w5.heap.size; have zz := Z_bx0.out; have z1 := S_1.out; have z2 := S_2.out; have z3 := S_3.out; have z4 := S_4.out; have z5 := S_5.out; have z6 := S_6.out; have z7 := S_7.out; have z8 := S_8.out; have z9 := S_9.out; have z10 := S_10.out; have z11 := S_11.out; have z12 := S_12.out; have z13 := S_13.out; omega)
  have bGc0_14 := hw.cell bGc0_13 (by show w7.heap.size < _ ∨ _ ≤ w7.heap.size; have zz := Z_bG.out; have z1 := S_1.out; have z2 := S_2.out; have z3 := S_3.out; have z4 := S_4.out; have z5 := S_5.out; have z6 := S_6.out; have z7 := S_7.out; have z8 := S_8.out; have z9 := S_9.out; have z10 := S_10.out; have z11 := S_11.out; have z12 := S_12.out; have z13 := S_13.out; omega)
  have bGc1_14 := hw.cell bGc1_13 (by show w7.heap.size < _ ∨ _ ≤ w7.heap.size; have zz := Z_bG.out; have z1 := S_1.out; have z2 := S_2.out; have z3 := S_3.out; have z4 := S_4.out; have z5 := S_5.out; have z6 := S_6.out; have z7 := S_7.out; have z8 := S_8.out; have z9 := S_9.out; have z10 := S_10.out; have z11 := S_11.out; have z12 := S_12.out; have z13 := S_13.out; omega)
  have bGc2_14 := hw.cell bGc2_13 (by show w7.heap.size < _ ∨ _ ≤ w7.heap.size; have zz := Z_bG.out; have z1 := S_1.out; have z2 := S_2.out; have z3 := S_3.out; have z4 := S_4.out; have z5 := S_5.out; have z6 := S_6.out; have z7 := S_7.out; have z8 := S_8.out; have z9 := S_9.out; have z10 := S_10.out; have z11 := S_11.out; have z12 := S_12.out; have z13 := S_13.out; omega)
  have bGc3_14 := hw.cell bGc3_13 (by show w7.heap.size < _ ∨ _ ≤ w7.heap.size; have zz := Z_bG.out; have z1 := S_1.out; have z2 := S_2.out; have z3 := S_3.out; have z4 := S_4.out; have z5 := S_5.out; have z6 := S_6.out; have z7 := S_7.out; have z8 := S_8.out; have z9 := S_9.out; have z10 := S_10.out; have z11 := S_11.out; have z12 := S_12.out; have z13 := S_13.out; omega)
  have W_14 := Lib.hid (W_13.out.within hw (Or.inl (by have z1 := S_1.out; have z2 := S_2.out; have z3 := S_3.out; have z4 := S_4.out; have z5 := S_5.out; have z6 := S_6.out; have z7 := S_7.out; have z8 := S_8.out; have z9 := S_9.out; have z10 := S_10.out; have z11 := S_11.out; have z12 := S_12.out; have z13 := S_13.out; omega)))
  have G_14 := Lib.hid hrow
  have S_14 : Hid (w13.heap.size ≤ w14.heap.size) := hw.size
  clear hw hrow B_13 a0c0_13 a0c1_13 a0c2_13 a0c3_13 bWc0_13 bWc1_13 bWc2_13 bWc3_13 bx0c0_13 bx0c1_13 bx0c2_13 bx0c3_13 bGc0_13 bGc1_13 bGc2_13 bGc3_13 W_13 G_13
  go_wp2_with fail
  refine (XH.out _ _ _ _ _ G_14.out).mono ?_
  rintro e w15 ⟨rfl, hb⟩
  have B_15 := Lib.hid (below_step B_14.out hb)
  have a0c0_15 := cell_kept a0c0_14 hb
  have a0c1_15 := cell_kept a0c1_14 hb
  have a0c2_15 := cell_kept a0c2_14 hb
  have a0c3_15 := cell_kept a0c3_14 hb
  have bWc0_15 := cell_kept bWc0_14 hb
  have bWc1_15 := cell_kept bWc1_14 hb
  have bWc2_15 := cell_kept bWc2_14 hb
  have bWc3_15 := cell_kept bWc3_14 hb
  have bx0c0_15 := cell_kept bx0c0_14 hb
  have bx0c1_15 := cell_kept bx0c1_14 hb
  have bx0c2_15 := cell_kept bx0c2_14 hb
  have bx0c3_15 := cell_kept bx0c3_14 hb
  have bGc0_15 := cell_kept bGc0_14 hb
  have bGc1_15 := cell_kept bGc1_14 hb
  have bGc2_15 := cell_kept bGc2_14 hb
  have bGc3_15 := cell_kept bGc3_14 hb
  have W_15 := Lib.hid (W_14.out.later hb)
  have G_15 := Lib.hid (G_14.out.later hb)
  have S_15 : Hid (w14.heap.size ≤ w15.heap.size) := hb.size
  clear hb B_14 a0c0_14 a0c1_14 a0c2_14 a0c3_14 bWc0_14 bWc1_14 bWc2_14 bWc3_14 bx0c0_14 bx0c1_14 bx0c2_14 bx0c3_14 bGc0_14 bGc1_14 bGc2_14 bGc3_14 W_14 G_14
  go_wp2_with fail
  refine (T0.out _ B_15.out).mono ?_
  rintro e w16 ⟨gv0, rfl, hb, ho⟩
  have B_16 := Lib.hid (below_step B_15.out hb)
  have a0c0_16 := cell_kept a0c0_15 hb
  have a0c1_16 := cell_kept a0c1_15 hb
  have a0c2_16 := cell_kept a0c2_15 hb
  have a0c3_16 := cell_kept a0c3_15 hb
  have bWc0_16 := cell_kept bWc0_15 hb
  have bWc1_16 := cell_kept bWc1_15 hb
  have bWc2_16 := cell_kept bWc2_15 hb
  have bWc3_16 := cell_kept bWc3_15 hb
  have bx0c0_16 := cell_kept bx0c0_15 hb
  have bx0c1_16 := cell_kept bx0c1_15 hb
  have bx0c2_16 := cell_kept bx0c2_15 hb
  have bx0c3_16 := cell_kept bx0c3_15 hb
  have bGc0_16 := cell_kept bGc0_15 hb
  have bGc1_16 := cell_kept bGc1_15 hb
  have bGc2_16 := cell_kept bGc2_15 hb
  have bGc3_16 := cell_kept bGc3_15 hb
  have W_16 := Lib.hid (W_15.out.later hb)
  have G_16 := Lib.hid (G_15.out.later hb)
  have S_16 : Hid (w15.heap.size ≤ w16.heap.size) := hb.size
  have v0_16 := Lib.hid ho
  clear hb ho B_15 a0c0_15 a0c1_15 a0c2_15 a0c3_15 bWc0_15 bWc1_15 bWc2_15 bWc3_15 bx0c0_15 bx0c1_15 bx0c2_15 bx0c3_15 bGc0_15 bGc1_15 bGc2_15 bGc3_15 W_15 G_15
  go_wp2_with fail
  refine (CI.out _ _ _ _ B_16.out v0_16.out).mono ?_
  rintro e w17 ⟨AH, cH, rfl, hb, ho⟩
  have B_17 := Lib.hid (below_step B_16.out hb)
  have a0c0_17 := cell_kept a0c0_16 hb
  have a0c1_17 := cell_kept a0c1_16 hb
  have a0c2_17 := cell_kept a0c2_16 hb
  have a0c3_17 := cell_kept a0c3_16 hb
  have bWc0_17 := cell_kept bWc0_16 hb
  have bWc1_17 := cell_kept bWc1_16 hb
  have bWc2_17 := cell_kept bWc2_16 hb
  have bWc3_17 := cell_kept bWc3_16 hb
  have bx0c0_17 := cell_kept bx0c0_16 hb
  have bx0c1_17 := cell_kept bx0c1_16 hb
  have bx0c2_17 := cell_kept bx0c2_16 hb
  have bx0c3_17 := cell_kept bx0c3_16 hb
  have bGc0_17 := cell_kept bGc0_16 hb
  have bGc1_17 := cell_kept bGc1_16 hb
  have bGc2_17 := cell_kept bGc2_16 hb
  have bGc3_17 := cell_kept bGc3_16 hb
  have W_17 := Lib.hid (W_16.out.later hb)
  have G_17 := Lib.hid (G_16.out.later hb)
  have v0_17 := Lib.hid (v0_16.out.later hb)
  have S_17 : Hid (w16.heap.size ≤ w17.heap.size) := hb.size
  have H_17 := Lib.hid ho
  clear hb ho B_16 a0c0_16 a0c1_16 a0c2_16 a0c3_16 bWc0_16 bWc1_16 bWc2_16 bWc3_16 bx0c0_16 bx0c1_16 bx0c2_16 bx0c3_16 bGc0_16 bGc1_16 bGc2_16 bGc3_16 W_16 G_16 v0_16
  have hb := below_box w17 (.cells #[.int .i64 eX, .int .i64 mX, .int .i64 jX, .slice AH nX cH] 29)
  obtain ⟨hc0, hc1, hc2, hc3⟩ := board_cells w17 (eX) (mX) (jX) (.slice AH nX cH) 29
  obtain ⟨w18, hW18⟩ : ∃ W, w17.alloc (.cells #[.int .i64 eX, .int .i64 mX, .int .i64 jX, .slice AH nX cH] 29) = W := ⟨_, rfl⟩
  rw [hW18] at hb hc0 hc1 hc2 hc3
  have B_18 := Lib.hid (below_step B_17.out hb)
  have a0c0_18 := cell_kept a0c0_17 hb
  have a0c1_18 := cell_kept a0c1_17 hb
  have a0c2_18 := cell_kept a0c2_17 hb
  have a0c3_18 := cell_kept a0c3_17 hb
  have bWc0_18 := cell_kept bWc0_17 hb
  have bWc1_18 := cell_kept bWc1_17 hb
  have bWc2_18 := cell_kept bWc2_17 hb
  have bWc3_18 := cell_kept bWc3_17 hb
  have bx0c0_18 := cell_kept bx0c0_17 hb
  have bx0c1_18 := cell_kept bx0c1_17 hb
  have bx0c2_18 := cell_kept bx0c2_17 hb
  have bx0c3_18 := cell_kept bx0c3_17 hb
  have bGc0_18 := cell_kept bGc0_17 hb
  have bGc1_18 := cell_kept bGc1_17 hb
  have bGc2_18 := cell_kept bGc2_17 hb
  have bGc3_18 := cell_kept bGc3_17 hb
  have W_18 := Lib.hid (W_17.out.later hb)
  have G_18 := Lib.hid (G_17.out.later hb)
  have v0_18 := Lib.hid (v0_17.out.later hb)
  have H_18 := Lib.hid (H_17.out.later hb)
  have S_18 : Hid (w17.heap.size ≤ w18.heap.size) := hb.size
  have bHc0_18 := hc0
  have bHc1_18 := hc1
  have bHc2_18 := hc2
  have bHc3_18 := hc3
  clear hb hc0 hc1 hc2 hc3 B_17 a0c0_17 a0c1_17 a0c2_17 a0c3_17 bWc0_17 bWc1_17 bWc2_17 bWc3_17 bx0c0_17 bx0c1_17 bx0c2_17 bx0c3_17 bGc0_17 bGc1_17 bGc2_17 bGc3_17 W_17 G_17 v0_17 H_17
  have Z_bH : Hid (w17.heap.size < w18.heap.size) := by show _ < _; rw [← hW18, World.size_alloc]; omega
  go_wp2_with fail
  refine (XE.out _ _ _ _ _ H_18.out.wires W_18.out.wires).mono ?_
  rintro e w19 ⟨rfl, hb⟩
  have B_19 := Lib.hid (below_step B_18.out hb)
  have a0c0_19 := cell_kept a0c0_18 hb
  have a0c1_19 := cell_kept a0c1_18 hb
  have a0c2_19 := cell_kept a0c2_18 hb
  have a0c3_19 := cell_kept a0c3_18 hb
  have bWc0_19 := cell_kept bWc0_18 hb
  have bWc1_19 := cell_kept bWc1_18 hb
  have bWc2_19 := cell_kept bWc2_18 hb
  have bWc3_19 := cell_kept bWc3_18 hb
  have bx0c0_19 := cell_kept bx0c0_18 hb
  have bx0c1_19 := cell_kept bx0c1_18 hb
  have bx0c2_19 := cell_kept bx0c2_18 hb
  have bx0c3_19 := cell_kept bx0c3_18 hb
  have bGc0_19 := cell_kept bGc0_18 hb
  have bGc1_19 := cell_kept bGc1_18 hb
  have bGc2_19 := cell_kept bGc2_18 hb
  have bGc3_19 := cell_kept bGc3_18 hb
  have bHc0_19 := cell_kept bHc0_18 hb
  have bHc1_19 := cell_kept bHc1_18 hb
  have bHc2_19 := cell_kept bHc2_18 hb
  have bHc3_19 := cell_kept bHc3_18 hb
  have W_19 := Lib.hid (W_18.out.later hb)
  have G_19 := Lib.hid (G_18.out.later hb)
  have v0_19 := Lib.hid (v0_18.out.later hb)
  have H_19 := Lib.hid (H_18.out.later hb)
  have S_19 : Hid (w18.heap.size ≤ w19.heap.size) := hb.size
  clear hb B_18 a0c0_18 a0c1_18 a0c2_18 a0c3_18 bWc0_18 bWc1_18 bWc2_18 bWc3_18 bx0c0_18 bx0c1_18 bx0c2_18 bx0c3_18 bGc0_18 bGc1_18 bGc2_18 bGc3_18 bHc0_18 bHc1_18 bHc2_18 bHc3_18 W_18 G_18 v0_18 H_18
  go_wp2_with fail
  refine (XH.out _ _ _ _ _ G_19.out).mono ?_
  rintro e w20 ⟨rfl, hb⟩
  have B_20 := Lib.hid (below_step B_19.out hb)
  have a0c0_20 := cell_kept a0c0_19 hb
  have a0c1_20 := cell_kept a0c1_19 hb
  have a0c2_20 := cell_kept a0c2_19 hb
  have a0c3_20 := cell_kept a0c3_19 hb
  have bWc0_20 := cell_kept bWc0_19 hb
  have bWc1_20 := cell_kept bWc1_19 hb
  have bWc2_20 := cell_kept bWc2_19 hb
  have bWc3_20 := cell_kept bWc3_19 hb
  have bx0c0_20 := cell_kept bx0c0_19 hb
  have bx0c1_20 := cell_kept bx0c1_19 hb
  have bx0c2_20 := cell_kept bx0c2_19 hb
  have bx0c3_20 := cell_kept bx0c3_19 hb
  have bGc0_20 := cell_kept bGc0_19 hb
  have bGc1_20 := cell_kept bGc1_19 hb
  have bGc2_20 := cell_kept bGc2_19 hb
  have bGc3_20 := cell_kept bGc3_19 hb
  have bHc0_20 := cell_kept bHc0_19 hb
  have bHc1_20 := cell_kept bHc1_19 hb
  have bHc2_20 := cell_kept bHc2_19 hb
  have bHc3_20 := cell_kept bHc3_19 hb
  have W_20 := Lib.hid (W_19.out.later hb)
  have G_20 := Lib.hid (G_19.out.later hb)
  have v0_20 := Lib.hid (v0_19.out.later hb)
  have H_20 := Lib.hid (H_19.out.later hb)
  have S_20 : Hid (w19.heap.size ≤ w20.heap.size) := hb.size
  clear hb B_19 a0c0_19 a0c1_19 a0c2_19 a0c3_19 bWc0_19 bWc1_19 bWc2_19 bWc3_19 bx0c0_19 bx0c1_19 bx0c2_19 bx0c3_19 bGc0_19 bGc1_19 bGc2_19 bGc3_19 bHc0_19 bHc1_19 bHc2_19 bHc3_19 W_19 G_19 v0_19 H_19
  go_wp2
  go_ret
  exact ⟨rfl, B_20.out⟩

theorem walk (e0 m0 j0 : Int) (A0 : Option Addr) (c0 : Nat) (P0 : List (Int × Int)) {y0 : World} (h0 : Wires y0 y0.heap.size A0 P0) (l0 : P0.length ≤ 9223372036854775807) (hw0 : (Lit.int .i64 e0).wf = true ∧ (Lit.int .i64 m0).wf = true ∧ (Lit.int .i64 j0).wf = true) (x1 : Int) (wf1 : (Lit.int .i64 x1).wf = true) (w : World) (e0_ : y0 = w) :
    Calls Try.prog 6 #[.agg #[.int .i64 e0, .int .i64 m0, .int .i64 j0, .slice A0 P0.length c0], .int .i64 x1] w fun e w' => e = .returned (.bool true) ∧ Below w.heap.size w w' := by
  subst e0_
  by_cases hb0 : 1048576 < (P0.length : Int)
  · exact walk_big0 e0 m0 j0 A0 c0 P0 x1 _ h0 l0  hb0
  have hs0 : (P0.length : Int) ≤ 1048576 := by omega
  have hm0 : P0.length ≤ 1048576 := by omega
  have hwb0 := wide_of hw0
  have hx := remA_length e0 m0 j0 P0 x1 hm0
  refine walk_small e0 m0 j0 A0 c0 P0 x1 (remV e0 m0 j0 P0 x1 e0) (remV e0 m0 j0 P0 x1 m0) (remV e0 m0 j0 P0 x1 j0) (remA e0 m0 j0 P0 x1) (remC e0 m0 j0 P0 x1) _ h0 hs0 hx (fun W A0 B0 hW hP0 hB0 => ?_) (fun W A0 B0 hW hP0 hB0 => ?_)
  · exact specRemove_any e0 m0 j0 A0 P0.length P0 B0 x1 W hP0 hB0 hm0 (Nat.le_refl _)
  · exact implRemove_any e0 m0 j0 A0 P0.length P0 B0 x1 W hP0 hB0 hm0

set_option maxRecDepth 100000 in
theorem lifted (os : Os) (started : os.Started) (H : Type) (enc : TypeId × Value → H) :
    ReturnsInHanded {} Try.checked os 6 .any (Rows.fnExactRemoveWireSpec.pre6 enc Try.prog Try.f6 Rows.fnExactRemoveWireRow.domain false) (Rows.fnExactRemoveWireSpec.post enc Try.prog Try.f6 false true false false) := by
  refine returnsInHanded_of_change (C := Try.checked) own started (by kernel_rfl) Try.func6
    (ChangeSpec.witness6 (enc := enc) (C := Try.checked) false ⟨#[], #[.agg #[.int .i64 0, .int .i64 0, .int .i64 0, .slice none 0 0], .int .i64 0], []⟩ 8 (by kernel_rfl) (by kernel_rfl) (by kernel_rfl) (by kernel_rfl)) ?_
  intro W base args ds gs before hval0 hW _ _
  have hval : ∀ (j : Nat) t v, Try.f6.params[j]? = some t → args[j]? = some v → Value.okWide Try.prog W .any base t v := hval0
  have hW' := hW
  obtain ⟨p, q, hA0, hV, rfl, _, _⟩ := hW
  have hA : DataW.TrodAll enc Try.prog W 0 (fun _ => true) true Try.f6.params.toList args.toList ds p := hA0
  rw [Try.params6] at hA hval
  obtain ⟨v0, vs0, d0, ds0, p0, q0, hargs, rfl, rfl, h0, r0⟩ := trodAll_cons hA
  obtain ⟨v1, vs1, d1, ds1, p1, q1, rfl, rfl, rfl, h1, r1⟩ := trodAll_cons r0
  obtain ⟨rfl, rfl, rfl⟩ := trodAll_nil r1
  obtain rfl : args = #[v0, v1] := by cases args; simp_all
  obtain ⟨rfl, rfl⟩ := trodVars_none hV
  obtain ⟨e0, m0, j0, A0, c0, P0, rfl, i0, l0, w0⟩ := open_board (hval 0 24 v0 rfl rfl) h0
  obtain ⟨a1, rfl, rfl, rfl, w1⟩ := open_int Try.underlying2 (hval 1 2 v1 rfl rfl) h1
  refine (walk e0 m0 j0 A0 c0 P0 i0 l0 w0 a1 w1 W rfl).mono fun e W' ⟨he, hb⟩ => ?_
  subst he
  refine ⟨_, rfl, law_post hW' rfl rfl ?_ rfl rfl rfl hb⟩
  intro t ht
  rw [Try.params6] at ht
  have ht' : t = 24 ∨ t = 2 := by simpa using ht
  rcases ht' with rfl | rfl <;> exact ⟨by kernel_rfl, of_decide_eq_true (by kernel_rfl)⟩

theorem over : Rows.fnExactRemoveWireRow.holds Try.pinned (OpenSpec.ofChange Rows.fnExactRemoveWireSpec) :=
  OpenClaim.holds_of_wide 6 Try.f6 rfl rfl rfl rfl rfl rfl rfl ⟨rfl, rfl, rfl, rfl, rfl⟩ rfl rfl rfl rfl rfl (by kernel_rfl) Try.func6 (by kernel_rfl)
    (of_decide_eq_true (by kernel_rfl)) (by unfold Func.isWrapper; first | (rw [if_pos (by decide +kernel)]; kernel_rfl) | (rw [if_neg (by decide +kernel)]; exact ⟨rfl, rfl⟩))
    (fun os started H enc _ => lifted os started H enc)

theorem proved : Rows.FnExactRemoveWireSaid :=
  over
end Go.Proofs.Ytpklmhffgbgakaa.fnExactRemoveWire
