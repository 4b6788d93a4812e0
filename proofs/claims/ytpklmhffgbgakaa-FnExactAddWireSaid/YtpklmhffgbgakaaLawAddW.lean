/- For every board and wire, the law FnExactAddWire returns true: impl.AddWire answers as spec.AddWire, in memory of its own, and leaves its arguments as it was. Conditions: none. -/
import Derived.Test.YtpklmhffgbgakaaAddS
import Derived.Test.YtpklmhffgbgakaaBoxedB
import Derived.Test.YtpklmhffgbgakaaLaw
import Derived.Test.YtpklmhffgbgakaaBoxed
import Derived.Test.YtpklmhffgbgakaaBoard
import Derived.Deep.RegionHeld3
import Derived.Deep.DeepCutAuto
import Derived.Laws.NewDeep
namespace Go.Proofs.Ytpklmhffgbgakaa.fnExactAddWire
open Go.ChangeShapes Go.WideShapes Go.ChangeAt Go.RowKit

theorem walk_big0 (e0 m0 j0 : Int) (A0 : Option Addr) (c0 : Nat) (P0 : List (Int × Int)) (a1 b1 : Int) (w : World) (h0 : Wires w w.heap.size A0 P0) (l0 : P0.length ≤ 9223372036854775807)  (hbig : 1048576 < (P0.length : Int)) :
    Calls Try.prog 5 #[.agg #[.int .i64 e0, .int .i64 m0, .int .i64 j0, .slice A0 P0.length c0], .agg #[.int .i64 a1, .int .i64 b1]] w fun e w' => e = .returned (.bool true) ∧ Below w.heap.size w w' := by
  have z0 := fun (W : World) (_ : Below w.heap.size w W) => szBoard_any e0 m0 j0 A0 P0.length c0 (1048576) W (by omega) (by omega) (by omega)
  have e0_ : (if (1048576) < (P0.length : Int) then (-1 : Int) else 1048576 - P0.length) = -1 := if_pos (by omega)
  simp only [e0_] at z0
  clear e0_
  obtain ⟨n0, hn0⟩ : ∃ n, P0.length = n := ⟨_, rfl⟩
  rw [hn0] at hbig
  simp only [hn0] at z0 ⊢
  have Z0 := Lib.hid z0
  clear z0 hn0 h0 l0
  go_enter Try.func5, Try.ntmps5
  go_wp2_with fail
  refine (Z0.out _ ((below_box w _).alloc (by simp <;> omega) _)).mono ?_
  rintro e w1 ⟨rfl, hb⟩
  have B_1 := Lib.hid (below_step ((below_box w _).alloc (by simp <;> omega) _) hb)
  have a0c0_1 := cell_kept (p := ⟨w.heap.size, 0, none⟩) (v := .int .i64 e0) (by simp [go_sem]) hb
  have a0c1_1 := cell_kept (p := ⟨w.heap.size, 1, none⟩) (v := .int .i64 m0) (by simp [go_sem]) hb
  have a0c2_1 := cell_kept (p := ⟨w.heap.size, 2, none⟩) (v := .int .i64 j0) (by simp [go_sem]) hb
  have a0c3_1 := cell_kept (p := ⟨w.heap.size, 3, none⟩) (v := .slice A0 n0 c0) (by simp [go_sem]) hb
  have f1a_1 := cell_kept (p := ⟨w.heap.size + 1, 0, none⟩) (v := .int .i64 a1) (by simp [go_sem]) hb
  have f1b_1 := cell_kept (p := ⟨w.heap.size + 1, 1, none⟩) (v := .int .i64 b1) (by simp [go_sem]) hb
  have S_1 : Hid (w.heap.size + 2 ≤ w1.heap.size) := by show _ ≤ _; have := hb.size; simpa using this
  clear hb
  go_wp2
  go_ret
  exact ⟨rfl, B_1.out⟩

set_option maxRecDepth 100000 in
set_option maxHeartbeats 8000000 in
theorem walk_small (e0 m0 j0 : Int) (A0 : Option Addr) (c0 : Nat) (P0 : List (Int × Int)) (a1 b1 : Int) (eX mX jX : Int) (X : List (Int × Int)) (v : Int) (w : World) (h0 : Wires w w.heap.size A0 P0) (hs : (P0.length : Int) ≤ 1048576) (hx : X.length ≤ 1048576)
    (hv : ∀ (W : World) (g0 B0 : Nat), Below w.heap.size w W → Wires W B0 (some ⟨g0, 0, none⟩) P0 → B0 ≤ W.heap.size → Calls Try.prog 22 #[.agg #[.int .i64 e0, .int .i64 m0, .int .i64 j0, .slice (some ⟨g0, 0, none⟩) P0.length P0.length], .agg #[.int .i64 a1, .int .i64 b1]] W (GivesBC eX mX jX X v W))
    (hi : ∀ (W : World) (g0 B0 : Nat), Below w.heap.size w W → Wires W B0 (some ⟨g0, 0, none⟩) P0 → B0 ≤ W.heap.size → Calls Try.prog 24 #[.agg #[.int .i64 e0, .int .i64 m0, .int .i64 j0, .slice (some ⟨g0, 0, none⟩) P0.length P0.length], .agg #[.int .i64 a1, .int .i64 b1]] W (GivesBC eX mX jX X v W)) :
    Calls Try.prog 5 #[.agg #[.int .i64 e0, .int .i64 m0, .int .i64 j0, .slice A0 P0.length c0], .agg #[.int .i64 a1, .int .i64 b1]] w fun e w' => e = .returned (.bool true) ∧ Below w.heap.size w w' := by
  have z0 := fun (W : World) (_ : Below w.heap.size w W) => szBoard_any e0 m0 j0 A0 P0.length c0 (1048576) W (by omega) (by omega) (by omega)
  have e0_ : (if (1048576) < (P0.length : Int) then (-1 : Int) else 1048576 - P0.length) = 1048576 - P0.length := if_neg (by omega)
  simp only [e0_] at z0
  clear e0_
  have hm0 : P0.length ≤ 1048576 := by omega
  have t0 := fun W (hW : Below w.heap.size w W) => toBoardAt_any e0 m0 j0 A0 c0 P0 w.heap.size W (h0.below hW) hW.size hm0
  have q0 := fun A A' W (hA : Wires W W.heap.size A P0) (hA' : Wires W W.heap.size A' P0) => eqBoardAt_any e0 m0 j0 A A' P0.length P0.length P0 W hA hA' hm0
  have r0 := fun A lo hi W (k : Int) (h0 : 0 ≤ k) (h1 : k ≤ 4194304) (hA : WAt W lo hi A P0) => markBoardAt_any e0 m0 j0 A P0.length P0 lo hi k W hA h0 h1 hm0
  have xe := fun A A' c c' W (h : Wires W W.heap.size A X) (h' : Wires W W.heap.size A' X) => eqBoardAt_any eX mX jX A A' c c' X W h h' hx
  have xm := fun A c lo hi W (h : WAt W lo hi A X) => markBoardAt_any eX mX jX A c X lo hi 1 W h (by omega) (by omega) hx
  have xh := fun A c lo hi W (h : WAt W lo hi A (wmk X 1 X.length)) => heldBoardAt_any eX mX jX A c X lo hi 1 W h (by omega) (by omega) hx
  have gx : ¬ 1 + 2 * (X.length : Int) < 0 := by omega
  obtain ⟨nX, hnX⟩ : ∃ n, X.length = n := ⟨_, rfl⟩
  have cv : ∀ (W : World) (g0 lo0 hi0 : Nat), Below w.heap.size w W → WAt W lo0 hi0 (some ⟨g0, 0, none⟩) P0 → Calls Try.prog 22 #[.agg #[.int .i64 e0, .int .i64 m0, .int .i64 j0, .slice (some ⟨g0, 0, none⟩) P0.length P0.length], .agg #[.int .i64 a1, .int .i64 b1]] W (GivesBC eX mX jX X v W) := fun W g0 lo0 hi0 hW hO0 => by
    have := hv W g0 W.heap.size hW hO0.wires (Nat.le_refl _)
    exact this
  have ci : ∀ (W : World) (g0 lo0 hi0 : Nat), Below w.heap.size w W → WAt W lo0 hi0 (some ⟨g0, 0, none⟩) P0 → Calls Try.prog 24 #[.agg #[.int .i64 e0, .int .i64 m0, .int .i64 j0, .slice (some ⟨g0, 0, none⟩) P0.length P0.length], .agg #[.int .i64 a1, .int .i64 b1]] W (GivesBC eX mX jX X v W) := fun W g0 lo0 hi0 hW hO0 => by
    have := hi W g0 W.heap.size hW hO0.wires (Nat.le_refl _)
    exact this
  have cvw : ∀ (W : World) (g0 : Nat), Below w.heap.size w W → Wires W W.heap.size (some ⟨g0, 0, none⟩) P0 → Calls Try.prog 22 #[.agg #[.int .i64 e0, .int .i64 m0, .int .i64 j0, .slice (some ⟨g0, 0, none⟩) P0.length P0.length], .agg #[.int .i64 a1, .int .i64 b1]] W (GivesBC eX mX jX X v W) := fun W g0 hW hP0 => by
    have := hv W g0 W.heap.size hW hP0 (Nat.le_refl _)
    exact this
  have ciw : ∀ (W : World) (g0 : Nat), Below w.heap.size w W → Wires W W.heap.size (some ⟨g0, 0, none⟩) P0 → Calls Try.prog 24 #[.agg #[.int .i64 e0, .int .i64 m0, .int .i64 j0, .slice (some ⟨g0, 0, none⟩) P0.length P0.length], .agg #[.int .i64 a1, .int .i64 b1]] W (GivesBC eX mX jX X v W) := fun W g0 hW hP0 => by
    have := hi W g0 W.heap.size hW hP0 (Nat.le_refl _)
    exact this
  unfold GivesBC at cvw ciw
  simp only [hnX] at cvw ciw
  unfold GivesBC at cv ci
  simp only [hnX] at xe xm xh gx cv ci
  obtain ⟨n0, hn0⟩ : ∃ n, P0.length = n := ⟨_, rfl⟩
  simp only [hn0] at z0 t0 q0 r0 cv ci cvw ciw hs ⊢
  have Z0 := Lib.hid z0
  have T0 := Lib.hid t0
  have Q0 := Lib.hid q0
  have R0 := Lib.hid r0
  have XE := Lib.hid xe
  have XM := Lib.hid xm
  have XH := Lib.hid xh
  have CV := Lib.hid cv
  have CI := Lib.hid ci
  have CVW := Lib.hid cvw
  have CIW := Lib.hid ciw
  have g0 : ¬ 1048576 - (n0 : Int) < 0 := by omega
  have kb0 : 0 ≤ (1 : Int) ∧ (1 : Int) ≤ 4194304 := by omega
  have gk : ¬ 1 + 2 * (n0 : Int) < 0 := by omega
  clear cv ci hv hi cvw ciw xe xm xh hnX z0 t0 q0 r0 hn0 h0 hm0
  go_enter Try.func5, Try.ntmps5
  go_wp2_with fail
  refine (Z0.out _ ((below_box w _).alloc (by simp <;> omega) _)).mono ?_
  rintro e w1 ⟨rfl, hb⟩
  have B_1 := Lib.hid (below_step ((below_box w _).alloc (by simp <;> omega) _) hb)
  have a0c0_1 := cell_kept (p := ⟨w.heap.size, 0, none⟩) (v := .int .i64 e0) (by simp [go_sem]) hb
  have a0c1_1 := cell_kept (p := ⟨w.heap.size, 1, none⟩) (v := .int .i64 m0) (by simp [go_sem]) hb
  have a0c2_1 := cell_kept (p := ⟨w.heap.size, 2, none⟩) (v := .int .i64 j0) (by simp [go_sem]) hb
  have a0c3_1 := cell_kept (p := ⟨w.heap.size, 3, none⟩) (v := .slice A0 n0 c0) (by simp [go_sem]) hb
  have f1a_1 := cell_kept (p := ⟨w.heap.size + 1, 0, none⟩) (v := .int .i64 a1) (by simp [go_sem]) hb
  have f1b_1 := cell_kept (p := ⟨w.heap.size + 1, 1, none⟩) (v := .int .i64 b1) (by simp [go_sem]) hb
  have S_1 : Hid (w.heap.size + 2 ≤ w1.heap.size) := by show _ ≤ _; have := hb.size; simpa using this
  clear hb
  go_upto_region 5 with fail
  go_cut [6, 7] (fun s0 s1 wx => BoxedB w1 eX mX jX X nX v s0 s1 wx)
  case first =>
    have K0 := Lib.hid (below_drew (Below.refl w1.heap.size w1))
    have HC : Hid (Below w.heap.size w w1.drew) := B_1.out.drew
    go_region_held3 (fun W => W.cell? ⟨w.heap.size, 0, none⟩ = some (.int .i64 e0) ∧ W.cell? ⟨w.heap.size, 1, none⟩ = some (.int .i64 m0) ∧ W.cell? ⟨w.heap.size, 2, none⟩ = some (.int .i64 j0) ∧ W.cell? ⟨w.heap.size, 3, none⟩ = some (.slice A0 n0 c0) ∧ W.cell? ⟨w.heap.size + 1, 0, none⟩ = some (.int .i64 a1) ∧ W.cell? ⟨w.heap.size + 1, 1, none⟩ = some (.int .i64 b1))
      (first | with_reducible exact ⟨a0c0_1, a0c1_1, a0c2_1, a0c3_1, f1a_1, f1b_1⟩ | with_reducible exact ⟨cell_kept a0c0_1 K0.out, cell_kept a0c1_1 K0.out, cell_kept a0c2_1 K0.out, cell_kept a0c3_1 K0.out, cell_kept f1a_1 K0.out, cell_kept f1b_1 K0.out⟩ | with_reducible exact ⟨cell_kept a0c0_1 (below_boxed K0.out _), cell_kept a0c1_1 (below_boxed K0.out _), cell_kept a0c2_1 (below_boxed K0.out _), cell_kept a0c3_1 (below_boxed K0.out _), cell_kept f1a_1 (below_boxed K0.out _), cell_kept f1b_1 (below_boxed K0.out _)⟩ | with_reducible exact ⟨cell_kept a0c0_1 K1.out, cell_kept a0c1_1 K1.out, cell_kept a0c2_1 K1.out, cell_kept a0c3_1 K1.out, cell_kept f1a_1 K1.out, cell_kept f1b_1 K1.out⟩ | with_reducible exact ⟨cell_kept a0c0_1 (below_boxed K1.out _), cell_kept a0c1_1 (below_boxed K1.out _), cell_kept a0c2_1 (below_boxed K1.out _), cell_kept a0c3_1 (below_boxed K1.out _), cell_kept f1a_1 (below_boxed K1.out _), cell_kept f1b_1 (below_boxed K1.out _)⟩ | with_reducible exact ⟨cell_kept a0c0_1 K2.out, cell_kept a0c1_1 K2.out, cell_kept a0c2_1 K2.out, cell_kept a0c3_1 K2.out, cell_kept f1a_1 K2.out, cell_kept f1b_1 K2.out⟩ | with_reducible exact ⟨cell_kept a0c0_1 (below_boxed K2.out _), cell_kept a0c1_1 (below_boxed K2.out _), cell_kept a0c2_1 (below_boxed K2.out _), cell_kept a0c3_1 (below_boxed K2.out _), cell_kept f1a_1 (below_boxed K2.out _), cell_kept f1b_1 (below_boxed K2.out _)⟩ | with_reducible exact ⟨cell_kept a0c0_1 K3.out, cell_kept a0c1_1 K3.out, cell_kept a0c2_1 K3.out, cell_kept a0c3_1 K3.out, cell_kept f1a_1 K3.out, cell_kept f1b_1 K3.out⟩ | with_reducible exact ⟨cell_kept a0c0_1 (below_boxed K3.out _), cell_kept a0c1_1 (below_boxed K3.out _), cell_kept a0c2_1 (below_boxed K3.out _), cell_kept a0c3_1 (below_boxed K3.out _), cell_kept f1a_1 (below_boxed K3.out _), cell_kept f1b_1 (below_boxed K3.out _)⟩ | with_reducible exact ⟨cell_kept a0c0_1 (below_stored4 K3.out (Nat.le_refl _)), cell_kept a0c1_1 (below_stored4 K3.out (Nat.le_refl _)), cell_kept a0c2_1 (below_stored4 K3.out (Nat.le_refl _)), cell_kept a0c3_1 (below_stored4 K3.out (Nat.le_refl _)), cell_kept f1a_1 (below_stored4 K3.out (Nat.le_refl _)), cell_kept f1b_1 (below_stored4 K3.out (Nat.le_refl _))⟩ | with_reducible exact ⟨cell_kept a0c0_1 (below_stored4 K3.out K1.out.size), cell_kept a0c1_1 (below_stored4 K3.out K1.out.size), cell_kept a0c2_1 (below_stored4 K3.out K1.out.size), cell_kept a0c3_1 (below_stored4 K3.out K1.out.size), cell_kept f1a_1 (below_stored4 K3.out K1.out.size), cell_kept f1b_1 (below_stored4 K3.out K1.out.size)⟩ | with_reducible exact ⟨cell_kept a0c0_1 (below_stored4 K3.out K2.out.size), cell_kept a0c1_1 (below_stored4 K3.out K2.out.size), cell_kept a0c2_1 (below_stored4 K3.out K2.out.size), cell_kept a0c3_1 (below_stored4 K3.out K2.out.size), cell_kept f1a_1 (below_stored4 K3.out K2.out.size), cell_kept f1b_1 (below_stored4 K3.out K2.out.size)⟩ | exact ⟨cell_kept a0c0_1 (below_boxed K0.out _), cell_kept a0c1_1 (below_boxed K0.out _), cell_kept a0c2_1 (below_boxed K0.out _), cell_kept a0c3_1 (below_boxed K0.out _), cell_kept f1a_1 (below_boxed K0.out _), cell_kept f1b_1 (below_boxed K0.out _)⟩ | exact ⟨a0c0_1, a0c1_1, a0c2_1, a0c3_1, f1a_1, f1b_1⟩ | exact ⟨cell_kept a0c0_1 K0.out, cell_kept a0c1_1 K0.out, cell_kept a0c2_1 K0.out, cell_kept a0c3_1 K0.out, cell_kept f1a_1 K0.out, cell_kept f1b_1 K0.out⟩ | exact ⟨cell_kept a0c0_1 (below_boxed K0.out _), cell_kept a0c1_1 (below_boxed K0.out _), cell_kept a0c2_1 (below_boxed K0.out _), cell_kept a0c3_1 (below_boxed K0.out _), cell_kept f1a_1 (below_boxed K0.out _), cell_kept f1b_1 (below_boxed K0.out _)⟩ | exact ⟨cell_kept a0c0_1 K1.out, cell_kept a0c1_1 K1.out, cell_kept a0c2_1 K1.out, cell_kept a0c3_1 K1.out, cell_kept f1a_1 K1.out, cell_kept f1b_1 K1.out⟩ | exact ⟨cell_kept a0c0_1 (below_boxed K1.out _), cell_kept a0c1_1 (below_boxed K1.out _), cell_kept a0c2_1 (below_boxed K1.out _), cell_kept a0c3_1 (below_boxed K1.out _), cell_kept f1a_1 (below_boxed K1.out _), cell_kept f1b_1 (below_boxed K1.out _)⟩ | exact ⟨cell_kept a0c0_1 K2.out, cell_kept a0c1_1 K2.out, cell_kept a0c2_1 K2.out, cell_kept a0c3_1 K2.out, cell_kept f1a_1 K2.out, cell_kept f1b_1 K2.out⟩ | exact ⟨cell_kept a0c0_1 (below_boxed K2.out _), cell_kept a0c1_1 (below_boxed K2.out _), cell_kept a0c2_1 (below_boxed K2.out _), cell_kept a0c3_1 (below_boxed K2.out _), cell_kept f1a_1 (below_boxed K2.out _), cell_kept f1b_1 (below_boxed K2.out _)⟩ | exact ⟨cell_kept a0c0_1 K3.out, cell_kept a0c1_1 K3.out, cell_kept a0c2_1 K3.out, cell_kept a0c3_1 K3.out, cell_kept f1a_1 K3.out, cell_kept f1b_1 K3.out⟩ | exact ⟨cell_kept a0c0_1 (below_boxed K3.out _), cell_kept a0c1_1 (below_boxed K3.out _), cell_kept a0c2_1 (below_boxed K3.out _), cell_kept a0c3_1 (below_boxed K3.out _), cell_kept f1a_1 (below_boxed K3.out _), cell_kept f1b_1 (below_boxed K3.out _)⟩ | exact ⟨cell_kept a0c0_1 (below_stored4 K3.out (Nat.le_refl _)), cell_kept a0c1_1 (below_stored4 K3.out (Nat.le_refl _)), cell_kept a0c2_1 (below_stored4 K3.out (Nat.le_refl _)), cell_kept a0c3_1 (below_stored4 K3.out (Nat.le_refl _)), cell_kept f1a_1 (below_stored4 K3.out (Nat.le_refl _)), cell_kept f1b_1 (below_stored4 K3.out (Nat.le_refl _))⟩ | exact ⟨cell_kept a0c0_1 (below_stored4 K3.out K1.out.size), cell_kept a0c1_1 (below_stored4 K3.out K1.out.size), cell_kept a0c2_1 (below_stored4 K3.out K1.out.size), cell_kept a0c3_1 (below_stored4 K3.out K1.out.size), cell_kept f1a_1 (below_stored4 K3.out K1.out.size), cell_kept f1b_1 (below_stored4 K3.out K1.out.size)⟩ | exact ⟨cell_kept a0c0_1 (below_stored4 K3.out K2.out.size), cell_kept a0c1_1 (below_stored4 K3.out K2.out.size), cell_kept a0c2_1 (below_stored4 K3.out K2.out.size), cell_kept a0c3_1 (below_stored4 K3.out K2.out.size), cell_kept f1a_1 (below_stored4 K3.out K2.out.size), cell_kept f1b_1 (below_stored4 K3.out K2.out.size)⟩)
      (first
        | (go_at_call 17
           with_reducible refine (T0.out _ ?_).mono ?_
           · first | exact HC.out | exact below_boxed HC.out _
           rintro e wz1 ⟨gw0, rfl, hb, ho⟩
           have K1 : Hid (Below w1.heap.size w1 wz1) := by first | exact below_step K0.out hb | exact below_step (below_boxed K0.out _) hb
           have HC : Hid (Below w.heap.size w wz1) := by first | exact below_step HC.out hb | exact below_step (below_boxed HC.out _) hb
           try (have b0 := Bbox.later (w := (w1.alloc (.cells #[.int .i64 0, .int .i64 0, .int .i64 0, .slice none 0 0] 29)).drew) (bbox_new w1 0 0 0 (.slice none 0 0)) hb)
           have O_w0 := Lib.hid ho
           clear hb ho)
        | (go_at_call 23
           with_reducible refine (toWire_any a1 b1 _).mono ?_
           rintro e wz2 ⟨rfl, hb⟩
           have K2 : Hid (Below w1.heap.size w1 wz2) := by first | exact below_step K1.out hb | exact below_step (below_boxed K1.out _) hb
           have HC : Hid (Below w.heap.size w wz2) := by first | exact below_step HC.out hb | exact below_step (below_boxed HC.out _) hb
           try (have b0 := Bbox.later b0 hb)
           try (have b1 := Bbox.later (bbox_new wz1 0 0 0 (.slice none 0 0)) hb)
           try (have O_w0 := Lib.hid ((O_w0.out.later (below_box _ _)).later hb))
           try (have O_w0 := Lib.hid (O_w0.out.later hb))
           clear hb)
        | (go_at_call 22
           with_reducible refine (CVW.out _ gw0 ?_ ?_).mono ?_
           · first | exact HC.out | exact below_boxed HC.out _
           · first | exact O_w0.out.wires | exact (O_w0.out.later (below_box _ _)).wires
           rintro e wz3 ⟨AW, cW, rfl, hb, ho⟩
           have K3 : Hid (Below w1.heap.size w1 wz3) := by first | exact below_step K2.out hb | exact below_step (below_boxed K2.out _) hb
           have HC : Hid (Below w.heap.size w wz3) := by first | exact below_step HC.out hb | exact below_step (below_boxed HC.out _) hb
           try (have l0 := Lib.hid (Bbox.lt b0))
           try (have l1 := Lib.hid (Bbox.lt b1))
           try (have l2 := Lib.hid (Bbox.lt (bbox_new wz2 0 0 0 (.slice none 0 0))))
           have HBS := Lib.hid hb.size
           try (have b0 := Bbox.later b0 hb)
           try (have b1 := Bbox.later b1 hb)
           try (have b2 := Bbox.later (bbox_new wz2 0 0 0 (.slice none 0 0)) hb)
           have O_W := Lib.hid ho
           try (have c00 := (Bbox.cells b0).1)
           try (have c01 := (Bbox.cells b0).2.1)
           try (have c02 := (Bbox.cells b0).2.2.1)
           try (have c03 := (Bbox.cells b0).2.2.2)
           try (have f0 := Bbox.frozen b0)
           try (have c10 := (Bbox.cells b1).1)
           try (have c11 := (Bbox.cells b1).2.1)
           try (have c12 := (Bbox.cells b1).2.2.1)
           try (have c13 := (Bbox.cells b1).2.2.2)
           try (have f1 := Bbox.frozen b1)
           try (have c20 := (Bbox.cells b2).1)
           try (have c21 := (Bbox.cells b2).2.1)
           try (have c22 := (Bbox.cells b2).2.2.1)
           try (have c23 := (Bbox.cells b2).2.2.2)
           try (have f2 := Bbox.frozen b2)
           clear hb ho))
    all_goals (go_wp2_with fail; go_meet; first | exact boxedB_last K3.out O_W.out K2.out.size HBS.out | exact boxedB_early K3.out b0 O_W.out (Nat.le_refl _) l0.out HBS.out | exact boxedB_early K3.out b1 O_W.out K1.out.size l1.out HBS.out | exact boxedB_early K3.out b2 O_W.out K2.out.size l2.out HBS.out)
  case rest =>
    obtain ⟨kW, AW, cW, loW, hiW, rfl, rfl, hb, hbx, ho, hXW⟩ := hcut
    rename World => w2
    have R_W := Lib.hid (And.intro ho.room hbx.lt)
    have X_W := Lib.hid hXW
    obtain ⟨hc0, hc1, hc2, hc3⟩ := hbx.cells
    have B_2 := Lib.hid (below_step B_1.out hb)
    have a0c0_2 := cell_kept a0c0_1 hb
    have a0c1_2 := cell_kept a0c1_1 hb
    have a0c2_2 := cell_kept a0c2_1 hb
    have a0c3_2 := cell_kept a0c3_1 hb
    have f1a_2 := cell_kept f1a_1 hb
    have f1b_2 := cell_kept f1b_1 hb
    have S_2 : Hid (w1.heap.size ≤ w2.heap.size) := hb.size
    have W_2 := Lib.hid ho
    have bWc0_2 := hc0
    have bWc1_2 := hc1
    have bWc2_2 := hc2
    have bWc3_2 := hc3
    clear hb ho hc0 hc1 hc2 hc3 B_1 a0c0_1 a0c1_1 a0c2_1 a0c3_1 f1a_1 f1b_1 hbx hXW
    go_wp2_with fail
    refine (T0.out _ B_2.out).mono ?_
    rintro e w3 ⟨gx0, rfl, hb, ho⟩
    have B_3 := Lib.hid (below_step B_2.out hb)
    have a0c0_3 := cell_kept a0c0_2 hb
    have a0c1_3 := cell_kept a0c1_2 hb
    have a0c2_3 := cell_kept a0c2_2 hb
    have a0c3_3 := cell_kept a0c3_2 hb
    have f1a_3 := cell_kept f1a_2 hb
    have f1b_3 := cell_kept f1b_2 hb
    have bWc0_3 := cell_kept bWc0_2 hb
    have bWc1_3 := cell_kept bWc1_2 hb
    have bWc2_3 := cell_kept bWc2_2 hb
    have bWc3_3 := cell_kept bWc3_2 hb
    have W_3 := Lib.hid (W_2.out.later hb)
    have S_3 : Hid (w2.heap.size ≤ w3.heap.size) := hb.size
    have x0_3 := Lib.hid ho
    clear hb ho B_2 a0c0_2 a0c1_2 a0c2_2 a0c3_2 f1a_2 f1b_2 bWc0_2 bWc1_2 bWc2_2 bWc3_2 W_2
    have hb := below_box w3 (.cells #[.int .i64 e0, .int .i64 m0, .int .i64 j0, .slice (some ⟨gx0, 0, none⟩) n0 n0] 29)
    obtain ⟨hc0, hc1, hc2, hc3⟩ := board_cells w3 (e0) (m0) (j0) (.slice (some ⟨gx0, 0, none⟩) n0 n0) 29
    obtain ⟨w4, hW4⟩ : ∃ W, w3.alloc (.cells #[.int .i64 e0, .int .i64 m0, .int .i64 j0, .slice (some ⟨gx0, 0, none⟩) n0 n0] 29) = W := ⟨_, rfl⟩
    rw [hW4] at hb hc0 hc1 hc2 hc3
    have B_4 := Lib.hid (below_step B_3.out hb)
    have a0c0_4 := cell_kept a0c0_3 hb
    have a0c1_4 := cell_kept a0c1_3 hb
    have a0c2_4 := cell_kept a0c2_3 hb
    have a0c3_4 := cell_kept a0c3_3 hb
    have f1a_4 := cell_kept f1a_3 hb
    have f1b_4 := cell_kept f1b_3 hb
    have bWc0_4 := cell_kept bWc0_3 hb
    have bWc1_4 := cell_kept bWc1_3 hb
    have bWc2_4 := cell_kept bWc2_3 hb
    have bWc3_4 := cell_kept bWc3_3 hb
    have W_4 := Lib.hid (W_3.out.later hb)
    have x0_4 := Lib.hid (x0_3.out.later hb)
    have S_4 : Hid (w3.heap.size ≤ w4.heap.size) := hb.size
    have bx0c0_4 := hc0
    have bx0c1_4 := hc1
    have bx0c2_4 := hc2
    have bx0c3_4 := hc3
    clear hb hc0 hc1 hc2 hc3 B_3 a0c0_3 a0c1_3 a0c2_3 a0c3_3 f1a_3 f1b_3 bWc0_3 bWc1_3 bWc2_3 bWc3_3 W_3 x0_3
    have Z_bx0 : Hid (w3.heap.size < w4.heap.size) := by show _ < _; rw [← hW4, World.size_alloc]; omega
    go_upto_region 7 with fail
    go_cut [9, 10] (fun s0 s1 wx => BoxedB w4 eX mX jX X nX v s0 s1 wx)
    case first =>
      have K0 := Lib.hid (below_drew (Below.refl w4.heap.size w4))
      have HC : Hid (Below w.heap.size w w4.drew) := B_4.out.drew
      have O_x0 := Lib.hid x0_4.out.drew
      go_region_held3 (fun W => W.cell? ⟨w.heap.size + 1, 0, none⟩ = some (.int .i64 a1) ∧ W.cell? ⟨w.heap.size + 1, 1, none⟩ = some (.int .i64 b1) ∧ W.cell? ⟨w3.heap.size, 0, none⟩ = some (.int .i64 e0) ∧ W.cell? ⟨w3.heap.size, 1, none⟩ = some (.int .i64 m0) ∧ W.cell? ⟨w3.heap.size, 2, none⟩ = some (.int .i64 j0) ∧ W.cell? ⟨w3.heap.size, 3, none⟩ = some (.slice (some ⟨gx0, 0, none⟩) n0 n0))
        (first | with_reducible exact ⟨f1a_4, f1b_4, bx0c0_4, bx0c1_4, bx0c2_4, bx0c3_4⟩ | with_reducible exact ⟨cell_kept f1a_4 K0.out, cell_kept f1b_4 K0.out, cell_kept bx0c0_4 K0.out, cell_kept bx0c1_4 K0.out, cell_kept bx0c2_4 K0.out, cell_kept bx0c3_4 K0.out⟩ | with_reducible exact ⟨cell_kept f1a_4 (below_boxed K0.out _), cell_kept f1b_4 (below_boxed K0.out _), cell_kept bx0c0_4 (below_boxed K0.out _), cell_kept bx0c1_4 (below_boxed K0.out _), cell_kept bx0c2_4 (below_boxed K0.out _), cell_kept bx0c3_4 (below_boxed K0.out _)⟩ | with_reducible exact ⟨cell_kept f1a_4 K1.out, cell_kept f1b_4 K1.out, cell_kept bx0c0_4 K1.out, cell_kept bx0c1_4 K1.out, cell_kept bx0c2_4 K1.out, cell_kept bx0c3_4 K1.out⟩ | with_reducible exact ⟨cell_kept f1a_4 (below_boxed K1.out _), cell_kept f1b_4 (below_boxed K1.out _), cell_kept bx0c0_4 (below_boxed K1.out _), cell_kept bx0c1_4 (below_boxed K1.out _), cell_kept bx0c2_4 (below_boxed K1.out _), cell_kept bx0c3_4 (below_boxed K1.out _)⟩ | with_reducible exact ⟨cell_kept f1a_4 K2.out, cell_kept f1b_4 K2.out, cell_kept bx0c0_4 K2.out, cell_kept bx0c1_4 K2.out, cell_kept bx0c2_4 K2.out, cell_kept bx0c3_4 K2.out⟩ | with_reducible exact ⟨cell_kept f1a_4 (below_boxed K2.out _), cell_kept f1b_4 (below_boxed K2.out _), cell_kept bx0c0_4 (below_boxed K2.out _), cell_kept bx0c1_4 (below_boxed K2.out _), cell_kept bx0c2_4 (below_boxed K2.out _), cell_kept bx0c3_4 (below_boxed K2.out _)⟩ | with_reducible exact ⟨cell_kept f1a_4 (below_stored4 K2.out (Nat.le_refl _)), cell_kept f1b_4 (below_stored4 K2.out (Nat.le_refl _)), cell_kept bx0c0_4 (below_stored4 K2.out (Nat.le_refl _)), cell_kept bx0c1_4 (below_stored4 K2.out (Nat.le_refl _)), cell_kept bx0c2_4 (below_stored4 K2.out (Nat.le_refl _)), cell_kept bx0c3_4 (below_stored4 K2.out (Nat.le_refl _))⟩ | with_reducible exact ⟨cell_kept f1a_4 (below_stored4 K2.out K1.out.size), cell_kept f1b_4 (below_stored4 K2.out K1.out.size), cell_kept bx0c0_4 (below_stored4 K2.out K1.out.size), cell_kept bx0c1_4 (below_stored4 K2.out K1.out.size), cell_kept bx0c2_4 (below_stored4 K2.out K1.out.size), cell_kept bx0c3_4 (below_stored4 K2.out K1.out.size)⟩ | exact ⟨cell_kept f1a_4 (below_boxed K0.out _), cell_kept f1b_4 (below_boxed K0.out _), cell_kept bx0c0_4 (below_boxed K0.out _), cell_kept bx0c1_4 (below_boxed K0.out _), cell_kept bx0c2_4 (below_boxed K0.out _), cell_kept bx0c3_4 (below_boxed K0.out _)⟩ | exact ⟨f1a_4, f1b_4, bx0c0_4, bx0c1_4, bx0c2_4, bx0c3_4⟩ | exact ⟨cell_kept f1a_4 K0.out, cell_kept f1b_4 K0.out, cell_kept bx0c0_4 K0.out, cell_kept bx0c1_4 K0.out, cell_kept bx0c2_4 K0.out, cell_kept bx0c3_4 K0.out⟩ | exact ⟨cell_kept f1a_4 (below_boxed K0.out _), cell_kept f1b_4 (below_boxed K0.out _), cell_kept bx0c0_4 (below_boxed K0.out _), cell_kept bx0c1_4 (below_boxed K0.out _), cell_kept bx0c2_4 (below_boxed K0.out _), cell_kept bx0c3_4 (below_boxed K0.out _)⟩ | exact ⟨cell_kept f1a_4 K1.out, cell_kept f1b_4 K1.out, cell_kept bx0c0_4 K1.out, cell_kept bx0c1_4 K1.out, cell_kept bx0c2_4 K1.out, cell_kept bx0c3_4 K1.out⟩ | exact ⟨cell_kept f1a_4 (below_boxed K1.out _), cell_kept f1b_4 (below_boxed K1.out _), cell_kept bx0c0_4 (below_boxed K1.out _), cell_kept bx0c1_4 (below_boxed K1.out _), cell_kept bx0c2_4 (below_boxed K1.out _), cell_kept bx0c3_4 (below_boxed K1.out _)⟩ | exact ⟨cell_kept f1a_4 K2.out, cell_kept f1b_4 K2.out, cell_kept bx0c0_4 K2.out, cell_kept bx0c1_4 K2.out, cell_kept bx0c2_4 K2.out, cell_kept bx0c3_4 K2.out⟩ | exact ⟨cell_kept f1a_4 (below_boxed K2.out _), cell_kept f1b_4 (below_boxed K2.out _), cell_kept bx0c0_4 (below_boxed K2.out _), cell_kept bx0c1_4 (below_boxed K2.out _), cell_kept bx0c2_4 (below_boxed K2.out _), cell_kept bx0c3_4 (below_boxed K2.out _)⟩ | exact ⟨cell_kept f1a_4 (below_stored4 K2.out (Nat.le_refl _)), cell_kept f1b_4 (below_stored4 K2.out (Nat.le_refl _)), cell_kept bx0c0_4 (below_stored4 K2.out (Nat.le_refl _)), cell_kept bx0c1_4 (below_stored4 K2.out (Nat.le_refl _)), cell_kept bx0c2_4 (below_stored4 K2.out (Nat.le_refl _)), cell_kept bx0c3_4 (below_stored4 K2.out (Nat.le_refl _))⟩ | exact ⟨cell_kept f1a_4 (below_stored4 K2.out K1.out.size), cell_kept f1b_4 (below_stored4 K2.out K1.out.size), cell_kept bx0c0_4 (below_stored4 K2.out K1.out.size), cell_kept bx0c1_4 (below_stored4 K2.out K1.out.size), cell_kept bx0c2_4 (below_stored4 K2.out K1.out.size), cell_kept bx0c3_4 (below_stored4 K2.out K1.out.size)⟩)
        (first
          | (go_at_call 23
             with_reducible refine (toWire_any a1 b1 _).mono ?_
             rintro e wz1 ⟨rfl, hb⟩
             have K1 : Hid (Below w4.heap.size w4 wz1) := by first | exact below_step K0.out hb | exact below_step (below_boxed K0.out _) hb
             have HC : Hid (Below w.heap.size w wz1) := by first | exact below_step HC.out hb | exact below_step (below_boxed HC.out _) hb
             try (have b0 := Bbox.later (w := (w4.alloc (.cells #[.int .i64 0, .int .i64 0, .int .i64 0, .slice none 0 0] 29)).drew) (bbox_new w4 0 0 0 (.slice none 0 0)) hb)
             try (have O_x0 := Lib.hid ((O_x0.out.later (below_box _ _)).later hb))
             try (have O_x0 := Lib.hid (O_x0.out.later hb))
             clear hb)
          | (go_at_call 24
             with_reducible refine (CIW.out _ gx0 ?_ ?_).mono ?_
             · first | exact HC.out | exact below_boxed HC.out _
             · first | exact O_x0.out.wires | exact (O_x0.out.later (below_box _ _)).wires
             rintro e wz2 ⟨AG, cG, rfl, hb, ho⟩
             have K2 : Hid (Below w4.heap.size w4 wz2) := by first | exact below_step K1.out hb | exact below_step (below_boxed K1.out _) hb
             have HC : Hid (Below w.heap.size w wz2) := by first | exact below_step HC.out hb | exact below_step (below_boxed HC.out _) hb
             try (have l0 := Lib.hid (Bbox.lt b0))
             try (have l1 := Lib.hid (Bbox.lt (bbox_new wz1 0 0 0 (.slice none 0 0))))
             have HBS := Lib.hid hb.size
             try (have b0 := Bbox.later b0 hb)
             try (have b1 := Bbox.later (bbox_new wz1 0 0 0 (.slice none 0 0)) hb)
             have O_G := Lib.hid ho
             try (have c00 := (Bbox.cells b0).1)
             try (have c01 := (Bbox.cells b0).2.1)
             try (have c02 := (Bbox.cells b0).2.2.1)
             try (have c03 := (Bbox.cells b0).2.2.2)
             try (have f0 := Bbox.frozen b0)
             try (have c10 := (Bbox.cells b1).1)
             try (have c11 := (Bbox.cells b1).2.1)
             try (have c12 := (Bbox.cells b1).2.2.1)
             try (have c13 := (Bbox.cells b1).2.2.2)
             try (have f1 := Bbox.frozen b1)
             clear hb ho))
      all_goals (go_wp2_with fail; go_meet; first | exact boxedB_last K2.out O_G.out K1.out.size HBS.out | exact boxedB_early K2.out b0 O_G.out (Nat.le_refl _) l0.out HBS.out | exact boxedB_early K2.out b1 O_G.out K1.out.size l1.out HBS.out)
    case rest =>
      obtain ⟨kG, AG, cG, loG, hiG, rfl, rfl, hb, hbx, ho, hXG⟩ := hcut
      rename World => w5
      have R_G := Lib.hid (And.intro ho.room hbx.lt)
      have X_G := Lib.hid hXG
      obtain ⟨hc0, hc1, hc2, hc3⟩ := hbx.cells
      have B_5 := Lib.hid (below_step B_4.out hb)
      have a0c0_5 := cell_kept a0c0_4 hb
      have a0c1_5 := cell_kept a0c1_4 hb
      have a0c2_5 := cell_kept a0c2_4 hb
      have a0c3_5 := cell_kept a0c3_4 hb
      have f1a_5 := cell_kept f1a_4 hb
      have f1b_5 := cell_kept f1b_4 hb
      have bWc0_5 := cell_kept bWc0_4 hb
      have bWc1_5 := cell_kept bWc1_4 hb
      have bWc2_5 := cell_kept bWc2_4 hb
      have bWc3_5 := cell_kept bWc3_4 hb
      have bx0c0_5 := cell_kept bx0c0_4 hb
      have bx0c1_5 := cell_kept bx0c1_4 hb
      have bx0c2_5 := cell_kept bx0c2_4 hb
      have bx0c3_5 := cell_kept bx0c3_4 hb
      have W_5 := Lib.hid (W_4.out.later hb)
      have x0_5 := Lib.hid (x0_4.out.later hb)
      have S_5 : Hid (w4.heap.size ≤ w5.heap.size) := hb.size
      have G_5 := Lib.hid ho
      have bGc0_5 := hc0
      have bGc1_5 := hc1
      have bGc2_5 := hc2
      have bGc3_5 := hc3
      clear hb ho hc0 hc1 hc2 hc3 B_4 a0c0_4 a0c1_4 a0c2_4 a0c3_4 f1a_4 f1b_4 bWc0_4 bWc1_4 bWc2_4 bWc3_4 bx0c0_4 bx0c1_4 bx0c2_4 bx0c3_4 W_4 x0_4 hbx hXG
      go_wp2_with fail
      refine (XE.out _ _ _ _ _ G_5.out.wires W_5.out.wires).mono ?_
      rintro e w6 ⟨rfl, hb⟩
      have B_6 := Lib.hid (below_step B_5.out hb)
      have a0c0_6 := cell_kept a0c0_5 hb
      have a0c1_6 := cell_kept a0c1_5 hb
      have a0c2_6 := cell_kept a0c2_5 hb
      have a0c3_6 := cell_kept a0c3_5 hb
      have f1a_6 := cell_kept f1a_5 hb
      have f1b_6 := cell_kept f1b_5 hb
      have bWc0_6 := cell_kept bWc0_5 hb
      have bWc1_6 := cell_kept bWc1_5 hb
      have bWc2_6 := cell_kept bWc2_5 hb
      have bWc3_6 := cell_kept bWc3_5 hb
      have bx0c0_6 := cell_kept bx0c0_5 hb
      have bx0c1_6 := cell_kept bx0c1_5 hb
      have bx0c2_6 := cell_kept bx0c2_5 hb
      have bx0c3_6 := cell_kept bx0c3_5 hb
      have bGc0_6 := cell_kept bGc0_5 hb
      have bGc1_6 := cell_kept bGc1_5 hb
      have bGc2_6 := cell_kept bGc2_5 hb
      have bGc3_6 := cell_kept bGc3_5 hb
      have W_6 := Lib.hid (W_5.out.later hb)
      have x0_6 := Lib.hid (x0_5.out.later hb)
      have G_6 := Lib.hid (G_5.out.later hb)
      have S_6 : Hid (w5.heap.size ≤ w6.heap.size) := hb.size
      clear hb B_5 a0c0_5 a0c1_5 a0c2_5 a0c3_5 f1a_5 f1b_5 bWc0_5 bWc1_5 bWc2_5 bWc3_5 bx0c0_5 bx0c1_5 bx0c2_5 bx0c3_5 bGc0_5 bGc1_5 bGc2_5 bGc3_5 W_5 x0_5 G_5
      go_wp2
      go_region_held3 (fun W => W.cell? ⟨w3.heap.size, 0, none⟩ = some (.int .i64 e0) ∧ W.cell? ⟨w3.heap.size, 1, none⟩ = some (.int .i64 m0) ∧ W.cell? ⟨w3.heap.size, 2, none⟩ = some (.int .i64 j0) ∧ W.cell? ⟨w3.heap.size, 3, none⟩ = some (.slice (some ⟨gx0, 0, none⟩) n0 n0) ∧ W.cell? ⟨w.heap.size, 0, none⟩ = some (.int .i64 e0) ∧ W.cell? ⟨w.heap.size, 1, none⟩ = some (.int .i64 m0) ∧ W.cell? ⟨w.heap.size, 2, none⟩ = some (.int .i64 j0) ∧ W.cell? ⟨w.heap.size, 3, none⟩ = some (.slice A0 n0 c0))
        (first | exact ⟨bx0c0_6, bx0c1_6, bx0c2_6, bx0c3_6, a0c0_6, a0c1_6, a0c2_6, a0c3_6⟩ | exact ⟨bx0c0_7, bx0c1_7, bx0c2_7, bx0c3_7, a0c0_7, a0c1_7, a0c2_7, a0c3_7⟩ | exact ⟨bx0c0_8, bx0c1_8, bx0c2_8, bx0c3_8, a0c0_8, a0c1_8, a0c2_8, a0c3_8⟩)
        (first
          | (go_at_call 17
             refine (T0.out _ B_6.out.drew).mono ?_
             rintro e w7 ⟨gz0, rfl, hb, ho⟩
             have B_7 := Lib.hid (below_step B_6.out.drew hb)
             have a0c0_7 := cell_kept (w := w6.drew) a0c0_6 hb
             have a0c1_7 := cell_kept (w := w6.drew) a0c1_6 hb
             have a0c2_7 := cell_kept (w := w6.drew) a0c2_6 hb
             have a0c3_7 := cell_kept (w := w6.drew) a0c3_6 hb
             have f1a_7 := cell_kept (w := w6.drew) f1a_6 hb
             have f1b_7 := cell_kept (w := w6.drew) f1b_6 hb
             have bWc0_7 := cell_kept (w := w6.drew) bWc0_6 hb
             have bWc1_7 := cell_kept (w := w6.drew) bWc1_6 hb
             have bWc2_7 := cell_kept (w := w6.drew) bWc2_6 hb
             have bWc3_7 := cell_kept (w := w6.drew) bWc3_6 hb
             have bx0c0_7 := cell_kept (w := w6.drew) bx0c0_6 hb
             have bx0c1_7 := cell_kept (w := w6.drew) bx0c1_6 hb
             have bx0c2_7 := cell_kept (w := w6.drew) bx0c2_6 hb
             have bx0c3_7 := cell_kept (w := w6.drew) bx0c3_6 hb
             have bGc0_7 := cell_kept (w := w6.drew) bGc0_6 hb
             have bGc1_7 := cell_kept (w := w6.drew) bGc1_6 hb
             have bGc2_7 := cell_kept (w := w6.drew) bGc2_6 hb
             have bGc3_7 := cell_kept (w := w6.drew) bGc3_6 hb
             have W_7 := Lib.hid (W_6.out.drew.later hb)
             have x0_7 := Lib.hid (x0_6.out.drew.later hb)
             have G_7 := Lib.hid (G_6.out.drew.later hb)
             have S_7 : Hid (w6.heap.size ≤ w7.heap.size) := hb.size
             have z0_7 := Lib.hid ho
             clear hb ho)
          | (go_at_call 19
             refine (Q0.out _ _ _ x0_7.out.wires z0_7.out.wires).mono ?_
             rintro e w8 ⟨rfl, hb⟩
             have B_8 := Lib.hid (below_step B_7.out hb)
             have a0c0_8 := cell_kept a0c0_7 hb
             have a0c1_8 := cell_kept a0c1_7 hb
             have a0c2_8 := cell_kept a0c2_7 hb
             have a0c3_8 := cell_kept a0c3_7 hb
             have f1a_8 := cell_kept f1a_7 hb
             have f1b_8 := cell_kept f1b_7 hb
             have bWc0_8 := cell_kept bWc0_7 hb
             have bWc1_8 := cell_kept bWc1_7 hb
             have bWc2_8 := cell_kept bWc2_7 hb
             have bWc3_8 := cell_kept bWc3_7 hb
             have bx0c0_8 := cell_kept bx0c0_7 hb
             have bx0c1_8 := cell_kept bx0c1_7 hb
             have bx0c2_8 := cell_kept bx0c2_7 hb
             have bx0c3_8 := cell_kept bx0c3_7 hb
             have bGc0_8 := cell_kept bGc0_7 hb
             have bGc1_8 := cell_kept bGc1_7 hb
             have bGc2_8 := cell_kept bGc2_7 hb
             have bGc3_8 := cell_kept bGc3_7 hb
             have W_8 := Lib.hid (W_7.out.later hb)
             have x0_8 := Lib.hid (x0_7.out.later hb)
             have G_8 := Lib.hid (G_7.out.later hb)
             have z0_8 := Lib.hid (z0_7.out.later hb)
             have S_8 : Hid (w7.heap.size ≤ w8.heap.size) := hb.size
             clear hb))
      clear B_6 a0c0_6 a0c1_6 a0c2_6 a0c3_6 f1a_6 f1b_6 bWc0_6 bWc1_6 bWc2_6 bWc3_6 bx0c0_6 bx0c1_6 bx0c2_6 bx0c3_6 bGc0_6 bGc1_6 bGc2_6 bGc3_6 W_6 x0_6 G_6 B_7 a0c0_7 a0c1_7 a0c2_7 a0c3_7 f1a_7 f1b_7 bWc0_7 bWc1_7 bWc2_7 bWc3_7 bx0c0_7 bx0c1_7 bx0c2_7 bx0c3_7 bGc0_7 bGc1_7 bGc2_7 bGc3_7 W_7 x0_7 G_7 z0_7
      clear z0_8
      go_wp2_with fail
      refine (R0.out _ _ _ _ _ kb0.1 kb0.2 x0_8.out).mono ?_
      rintro e w9 ⟨rfl, hw, hrow⟩
      have B_9 := Lib.hid (below_within B_8.out hw (by have z1 := S_1.out; have z2 := S_2.out; have z3 := S_3.out; have z4 := S_4.out; have z5 := S_5.out; have z6 := S_6.out; have z7 := S_7.out; have z8 := S_8.out; have xR_W := R_W.out; have xX_W := X_W.out; have xR_G := R_G.out; have xX_G := X_G.out; omega))
      have a0c0_9 := hw.cell a0c0_8 (by show w.heap.size < _ ∨ _ ≤ w.heap.size; have z1 := S_1.out; have z2 := S_2.out; have z3 := S_3.out; have z4 := S_4.out; have z5 := S_5.out; have z6 := S_6.out; have z7 := S_7.out; have z8 := S_8.out; have xR_W := R_W.out; have xX_W := X_W.out; have xR_G := R_G.out; have xX_G := X_G.out; omega)
      have a0c1_9 := hw.cell a0c1_8 (by show w.heap.size < _ ∨ _ ≤ w.heap.size; have z1 := S_1.out; have z2 := S_2.out; have z3 := S_3.out; have z4 := S_4.out; have z5 := S_5.out; have z6 := S_6.out; have z7 := S_7.out; have z8 := S_8.out; have xR_W := R_W.out; have xX_W := X_W.out; have xR_G := R_G.out; have xX_G := X_G.out; omega)
      have a0c2_9 := hw.cell a0c2_8 (by show w.heap.size < _ ∨ _ ≤ w.heap.size; have z1 := S_1.out; have z2 := S_2.out; have z3 := S_3.out; have z4 := S_4.out; have z5 := S_5.out; have z6 := S_6.out; have z7 := S_7.out; have z8 := S_8.out; have xR_W := R_W.out; have xX_W := X_W.out; have xR_G := R_G.out; have xX_G := X_G.out; omega)
      have a0c3_9 := hw.cell a0c3_8 (by show w.heap.size < _ ∨ _ ≤ w.heap.size; have z1 := S_1.out; have z2 := S_2.out; have z3 := S_3.out; have z4 := S_4.out; have z5 := S_5.out; have z6 := S_6.out; have z7 := S_7.out; have z8 := S_8.out; have xR_W := R_W.out; have xX_W := X_W.out; have xR_G := R_G.out; have xX_G := X_G.out; omega)
      have f1a_9 := hw.cell f1a_8 (by show w.heap.size + 1 < _ ∨ _ ≤ w.heap.size + 1; have z1 := S_1.out; have z2 := S_2.out; have z3 := S_3.out; have z4 := S_4.out; have z5 := S_5.out; have z6 := S_6.out; have z7 := S_7.out; have z8 := S_8.out; have xR_W := R_W.out; have xX_W := X_W.out; have xR_G := R_G.out; have xX_G := X_G.out; omega)
      have f1b_9 := hw.cell f1b_8 (by show w.heap.size + 1 < _ ∨ _ ≤ w.heap.size + 1; have z1 := S_1.out; have z2 := S_2.out; have z3 := S_3.out; have z4 := S_4.out; have z5 := S_5.out; have z6 := S_6.out; have z7 := S_7.out; have z8 := S_8.out; have xR_W := R_W.out; have xX_W := X_W.out; have xR_G := R_G.out; have xX_G := X_G.out; omega)
      have bWc0_9 := hw.cell bWc0_8 (by show kW < _ ∨ _ ≤ kW; have z1 := S_1.out; have z2 := S_2.out; have z3 := S_3.out; have z4 := S_4.out; have z5 := S_5.out; have z6 := S_6.out; have z7 := S_7.out; have z8 := S_8.out; have xR_W := R_W.out; have xX_W := X_W.out; have xR_G := R_G.out; have xX_G := X_G.out; omega)
      have bWc1_9 := hw.cell bWc1_8 (by show kW < _ ∨ _ ≤ kW; have z1 := S_1.out; have z2 := S_2.out; have z3 := S_3.out; have z4 := S_4.out; have z5 := S_5.out; have z6 := S_6.out; have z7 := S_7.out; have z8 := S_8.out; have xR_W := R_W.out; have xX_W := X_W.out; have xR_G := R_G.out; have xX_G := X_G.out; omega)
      have bWc2_9 := hw.cell bWc2_8 (by show kW < _ ∨ _ ≤ kW; have z1 := S_1.out; have z2 := S_2.out; have z3 := S_3.out; have z4 := S_4.out; have z5 := S_5.out; have z6 := S_6.out; have z7 := S_7.out; have z8 := S_8.out; have xR_W := R_W.out; have xX_W := X_W.out; have xR_G := R_G.out; have xX_G := X_G.out; omega)
      have bWc3_9 := hw.cell bWc3_8 (by show kW < _ ∨ _ ≤ kW; have z1 := S_1.out; have z2 := S_2.out; have z3 := S_3.out; have z4 := S_4.out; have z5 := S_5.out; have z6 := S_6.out; have z7 := S_7.out; have z8 := S_8.out; have xR_W := R_W.out; have xX_W := X_W.out; have xR_G := R_G.out; have xX_G := X_G.out; omega)
      have bx0c0_9 := hw.cell bx0c0_8 (by show w3.heap.size < _ ∨ _ ≤ w3.heap.size; have zz := Z_bx0.out; have z1 := S_1.out; have z2 := S_2.out; have z3 := S_3.out; have z4 := S_4.out; have z5 := S_5.out; have z6 := S_6.out; have z7 := S_7.out; have z8 := S_8.out; have xR_W := R_W.out; have xX_W := X_W.out; have xR_G := R_G.out; have xX_G := X_G.out; omega)
      have bx0c1_9 := hw.cell bx0c1_8 (by show w3.heap.size < _ ∨ _ ≤ w3.heap.size; have zz := Z_bx0.out; have z1 := S_1.out; have z2 := S_2.out; have z3 := S_3.out; have z4 := S_4.out; have z5 := S_5.out; have z6 := S_6.out; have z7 := S_7.out; have z8 := S_8.out; have xR_W := R_W.out; have xX_W := X_W.out; have xR_G := R_G.out; have xX_G := X_G.out; omega)
      have bx0c2_9 := hw.cell bx0c2_8 (by show w3.heap.size < _ ∨ _ ≤ w3.heap.size; have zz := Z_bx0.out; have z1 := S_1.out; have z2 := S_2.out; have z3 := S_3.out; have z4 := S_4.out; have z5 := S_5.out; have z6 := S_6.out; have z7 := S_7.out; have z8 := S_8.out; have xR_W := R_W.out; have xX_W := X_W.out; have xR_G := R_G.out; have xX_G := X_G.out; omega)
      have bx0c3_9 := hw.cell bx0c3_8 (by show w3.heap.size < _ ∨ _ ≤ w3.heap.size; have zz := Z_bx0.out; have z1 := S_1.out; have z2 := S_2.out; have z3 := S_3.out; have z4 := S_4.out; have z5 := S_5.out; have z6 := S_6.out; have z7 := S_7.out; have z8 := S_8.out; have xR_W := R_W.out; have xX_W := X_W.out; have xR_G := R_G.out; have xX_G := X_G.out; omega)
      have bGc0_9 := hw.cell bGc0_8 (by show kG < _ ∨ _ ≤ kG; have z1 := S_1.out; have z2 := S_2.out; have z3 := S_3.out; have z4 := S_4.out; have z5 := S_5.out; have z6 := S_6.out; have z7 := S_7.out; have z8 := S_8.out; have xR_W := R_W.out; have xX_W := X_W.out; have xR_G := R_G.out; have xX_G := X_G.out; omega)
      have bGc1_9 := hw.cell bGc1_8 (by show kG < _ ∨ _ ≤ kG; have z1 := S_1.out; have z2 := S_2.out; have z3 := S_3.out; have z4 := S_4.out; have z5 := S_5.out; have z6 := S_6.out; have z7 := S_7.out; have z8 := S_8.out; have xR_W := R_W.out; have xX_W := X_W.out; have xR_G := R_G.out; have xX_G := X_G.out; omega)
      have bGc2_9 := hw.cell bGc2_8 (by show kG < _ ∨ _ ≤ kG; have z1 := S_1.out; have z2 := S_2.out; have z3 := S_3.out; have z4 := S_4.out; have z5 := S_5.out; have z6 := S_6.out; have z7 := S_7.out; have z8 := S_8.out; have xR_W := R_W.out; have xX_W := X_W.out; have xR_G := R_G.out; have xX_G := X_G.out; omega)
      have bGc3_9 := hw.cell bGc3_8 (by show kG < _ ∨ _ ≤ kG; have z1 := S_1.out; have z2 := S_2.out; have z3 := S_3.out; have z4 := S_4.out; have z5 := S_5.out; have z6 := S_6.out; have z7 := S_7.out; have z8 := S_8.out; have xR_W := R_W.out; have xX_W := X_W.out; have xR_G := R_G.out; have xX_G := X_G.out; omega)
      have W_9 := Lib.hid (W_8.out.within hw (Or.inl (by have z1 := S_1.out; have z2 := S_2.out; have z3 := S_3.out; have z4 := S_4.out; have z5 := S_5.out; have z6 := S_6.out; have z7 := S_7.out; have z8 := S_8.out; have xR_W := R_W.out; have xX_W := X_W.out; have xR_G := R_G.out; have xX_G := X_G.out; omega)))
      have x0_9 := Lib.hid hrow
      have G_9 := Lib.hid (G_8.out.within hw (Or.inr (by have z1 := S_1.out; have z2 := S_2.out; have z3 := S_3.out; have z4 := S_4.out; have z5 := S_5.out; have z6 := S_6.out; have z7 := S_7.out; have z8 := S_8.out; have xR_W := R_W.out; have xX_W := X_W.out; have xR_G := R_G.out; have xX_G := X_G.out; omega)))
      have S_9 : Hid (w8.heap.size ≤ w9.heap.size) := hw.size
      clear hw hrow B_8 a0c0_8 a0c1_8 a0c2_8 a0c3_8 f1a_8 f1b_8 bWc0_8 bWc1_8 bWc2_8 bWc3_8 bx0c0_8 bx0c1_8 bx0c2_8 bx0c3_8 bGc0_8 bGc1_8 bGc2_8 bGc3_8 W_8 x0_8 G_8
      go_wp2_with fail
      refine (XE.out _ _ _ _ _ G_9.out.wires W_9.out.wires).mono ?_
      rintro e w10 ⟨rfl, hb⟩
      have B_10 := Lib.hid (below_step B_9.out hb)
      have a0c0_10 := cell_kept a0c0_9 hb
      have a0c1_10 := cell_kept a0c1_9 hb
      have a0c2_10 := cell_kept a0c2_9 hb
      have a0c3_10 := cell_kept a0c3_9 hb
      have f1a_10 := cell_kept f1a_9 hb
      have f1b_10 := cell_kept f1b_9 hb
      have bWc0_10 := cell_kept bWc0_9 hb
      have bWc1_10 := cell_kept bWc1_9 hb
      have bWc2_10 := cell_kept bWc2_9 hb
      have bWc3_10 := cell_kept bWc3_9 hb
      have bx0c0_10 := cell_kept bx0c0_9 hb
      have bx0c1_10 := cell_kept bx0c1_9 hb
      have bx0c2_10 := cell_kept bx0c2_9 hb
      have bx0c3_10 := cell_kept bx0c3_9 hb
      have bGc0_10 := cell_kept bGc0_9 hb
      have bGc1_10 := cell_kept bGc1_9 hb
      have bGc2_10 := cell_kept bGc2_9 hb
      have bGc3_10 := cell_kept bGc3_9 hb
      have W_10 := Lib.hid (W_9.out.later hb)
      have x0_10 := Lib.hid (x0_9.out.later hb)
      have G_10 := Lib.hid (G_9.out.later hb)
      have S_10 : Hid (w9.heap.size ≤ w10.heap.size) := hb.size
      clear hb B_9 a0c0_9 a0c1_9 a0c2_9 a0c3_9 f1a_9 f1b_9 bWc0_9 bWc1_9 bWc2_9 bWc3_9 bx0c0_9 bx0c1_9 bx0c2_9 bx0c3_9 bGc0_9 bGc1_9 bGc2_9 bGc3_9 W_9 x0_9 G_9
      clear x0_10
      go_wp2_with fail
      refine (XM.out _ _ _ _ _ G_10.out).mono ?_
      rintro e w11 ⟨rfl, hw, hrow⟩
      have B_11 := Lib.hid (below_within B_10.out hw (by have z1 := S_1.out; have z2 := S_2.out; have z3 := S_3.out; have z4 := S_4.out; have z5 := S_5.out; have z6 := S_6.out; have z7 := S_7.out; have z8 := S_8.out; have z9 := S_9.out; have z10 := S_10.out; have xR_W := R_W.out; have xX_W := X_W.out; have xR_G := R_G.out; have xX_G := X_G.out; omega))
      have a0c0_11 := hw.cell a0c0_10 (by show w.heap.size < _ ∨ _ ≤ w.heap.size; have z1 := S_1.out; have z2 := S_2.out; have z3 := S_3.out; have z4 := S_4.out; have z5 := S_5.out; have z6 := S_6.out; have z7 := S_7.out; have z8 := S_8.out; have z9 := S_9.out; have z10 := S_10.out; have xR_W := R_W.out; have xX_W := X_W.out; have xR_G := R_G.out; have xX_G := X_G.out; omega)
      have a0c1_11 := hw.cell a0c1_10 (by show w.heap.size < _ ∨ _ ≤ w.heap.size; have z1 := S_1.out; have z2 := S_2.out; have z3 := S_3.out; have z4 := S_4.out; have z5 := S_5.out; have z6 := S_6.out; have z7 := S_7.out; have z8 := S_8.out; have z9 := S_9.out; have z10 := S_10.out; have xR_W := R_W.out; have xX_W := X_W.out; have xR_G := R_G.out; have xX_G := X_G.out; omega)
      have a0c2_11 := hw.cell a0c2_10 (by show w.heap.size < _ ∨ _ ≤ w.heap.size; have z1 := S_1.out; have z2 := S_2.out; have z3 := S_3.out; have z4 := S_4.out; have z5 := S_5.out; have z6 := S_6.out; have z7 := S_7.out; have z8 := S_8.out; have z9 := S_9.out; have z10 := S_10.out; have xR_W := R_W.out; have xX_W := X_W.out; have xR_G := R_G.out; have xX_G := X_G.out; omega)
      have a0c3_11 := hw.cell a0c3_10 (by show w.heap.size < _ ∨ _ ≤ w.heap.size; have z1 := S_1.out; have z2 := S_2.out; have z3 := S_3.out; have z4 := S_4.out; have z5 := S_5.out; have z6 := S_6.out; have z7 := S_7.out; have z8 := S_8.out; have z9 := S_9.out; have z10 := S_10.out; have xR_W := R_W.out; have xX_W := X_W.out; have xR_G := R_G.out; have xX_G := X_G.out; omega)
      have f1a_11 := hw.cell f1a_10 (by show w.heap.size + 1 < _ ∨ _ ≤ w.heap.size + 1; have z1 := S_1.out; have z2 := S_2.out; have z3 := S_3.out; have z4 := S_4.out; have z5 := S_5.out; have z6 := S_6.out; have z7 := S_7.out; have z8 := S_8.out; have z9 := S_9.out; have z10 := S_10.out; have xR_W := R_W.out; have xX_W := X_W.out; have xR_G := R_G.out; have xX_G := X_G.out; omega)
      have f1b_11 := hw.cell f1b_10 (by show w.heap.size + 1 < _ ∨ _ ≤ w.heap.size + 1; have z1 := S_1.out; have z2 := S_2.out; have z3 := S_3.out; have z4 := S_4.out; have z5 := S_5.out; have z6 := S_6.out; have z7 := S_7.out; have z8 := S_8.out; have z9 := S_9.out; have z10 := S_10.out; have xR_W := R_W.out; have xX_W := X_W.out; have xR_G := R_G.out; have xX_G := X_G.out; omega)
      have bWc0_11 := hw.cell bWc0_10 (by show kW < _ ∨ _ ≤ kW; have z1 := S_1.out; have z2 := S_2.out; have z3 := S_3.out; have z4 := S_4.out; have z5 := S_5.out; have z6 := S_6.out; have z7 := S_7.out; have z8 := S_8.out; have z9 := S_9.out; have z10 := S_10.out; have xR_W := R_W.out; have xX_W := X_W.out; have xR_G := R_G.out; have xX_G := X_G.out; omega)
      have bWc1_11 := hw.cell bWc1_10 (by show kW < _ ∨ _ ≤ kW; have z1 := S_1.out; have z2 := S_2.out; have z3 := S_3.out; have z4 := S_4.out; have z5 := S_5.out; have z6 := S_6.out; have z7 := S_7.out; have z8 := S_8.out; have z9 := S_9.out; have z10 := S_10.out; have xR_W := R_W.out; have xX_W := X_W.out; have xR_G := R_G.out; have xX_G := X_G.out; omega)
      have bWc2_11 := hw.cell bWc2_10 (by show kW < _ ∨ _ ≤ kW; have z1 := S_1.out; have z2 := S_2.out; have z3 := S_3.out; have z4 := S_4.out; have z5 := S_5.out; have z6 := S_6.out; have z7 := S_7.out; have z8 := S_8.out; have z9 := S_9.out; have z10 := S_10.out; have xR_W := R_W.out; have xX_W := X_W.out; have xR_G := R_G.out; have xX_G := X_G.out; omega)
      have bWc3_11 := hw.cell bWc3_10 (by show kW < _ ∨ _ ≤ kW; have z1 := S_1.out; have z2 := S_2.out; have z3 := S_3.out; have z4 := S_4.out; have z5 := S_5.out; have z6 := S_6.out; have z7 := S_7.out; have z8 := S_8.out; have z9 := S_9.out; have z10 := S_10.out; have xR_W := R_W.out; have xX_W := X_W.out; have xR_G := R_G.out; have xX_G := X_G.out; omega)
      have bx0c0_11 := hw.cell bx0c0_10 (by show w3.heap.size < _ ∨ _ ≤ w3.heap.size; have zz := Z_bx0.out; have z1 := S_1.out; have z2 := S_2.out; have z3 := S_3.out; have z4 := S_4.out; have z5 := S_5.out; have z6 := S_6.out; have z7 := S_7.out; have z8 := S_8.out; have z9 := S_9.out; have z10 := S_10.out; have xR_W := R_W.out; have xX_W := X_W.out; have xR_G := R_G.out; have xX_G := X_G.out; omega)
      have bx0c1_11 := hw.cell bx0c1_10 (by show w3.heap.size < _ ∨ _ ≤ w3.heap.size; have zz := Z_bx0.out; have z1 := S_1.out; have z2 := S_2.out; have z3 := S_3.out; have z4 := S_4.out; have z5 := S_5.out; have z6 := S_6.out; have z7 := S_7.out; have z8 := S_8.out; have z9 := S_9.out; have z10 := S_10.out; have xR_W := R_W.out; have xX_W := X_W.out; have xR_G := R_G.out; have xX_G := X_G.out; omega)
      have bx0c2_11 := hw.cell bx0c2_10 (by show w3.heap.size < _ ∨ _ ≤ w3.heap.size; have zz := Z_bx0.out; have z1 := S_1.out; have z2 := S_2.out; have z3 := S_3.out; have z4 := S_4.out; have z5 := S_5.out; have z6 := S_6.out; have z7 := S_7.out; have z8 := S_8.out; have z9 := S_9.out; have z10 := S_10.out; have xR_W := R_W.out; have xX_W := X_W.out; have xR_G := R_G.out; have xX_G := X_G.out; omega)
      have bx0c3_11 := hw.cell bx0c3_10 (by show w3.heap.size < _ ∨ _ ≤ w3.heap.size; have zz := Z_bx0.out; have z1 := S_1.out; have z2 := S_2.out; have z3 := S_3.out; have z4 := S_4.out; have z5 := S_5.out; have z6 := S_6.out; have z7 := S_7.out; have z8 := S_8.out; have z9 := S_9.out; have z10 := S_10.out; have xR_W := R_W.out; have xX_W := X_W.out; have xR_G := R_G.out; have xX_G := X_G.out; omega)
      have bGc0_11 := hw.cell bGc0_10 (by show kG < _ ∨ _ ≤ kG; have z1 := S_1.out; have z2 := S_2.out; have z3 := S_3.out; have z4 := S_4.out; have z5 := S_5.out; have z6 := S_6.out; have z7 := S_7.out; have z8 := S_8.out; have z9 := S_9.out; have z10 := S_10.out; have xR_W := R_W.out; have xX_W := X_W.out; have xR_G := R_G.out; have xX_G := X_G.out; omega)
      have bGc1_11 := hw.cell bGc1_10 (by show kG < _ ∨ _ ≤ kG; have z1 := S_1.out; have z2 := S_2.out; have z3 := S_3.out; have z4 := S_4.out; have z5 := S_5.out; have z6 := S_6.out; have z7 := S_7.out; have z8 := S_8.out; have z9 := S_9.out; have z10 := S_10.out; have xR_W := R_W.out; have xX_W := X_W.out; have xR_G := R_G.out; have xX_G := X_G.out; omega)
      have bGc2_11 := hw.cell bGc2_10 (by show kG < _ ∨ _ ≤ kG; have z1 := S_1.out; have z2 := S_2.out; have z3 := S_3.out; have z4 := S_4.out; have z5 := S_5.out; have z6 := S_6.out; have z7 := S_7.out; have z8 := S_8.out; have z9 := S_9.out; have z10 := S_10.out; have xR_W := R_W.out; have xX_W := X_W.out; have xR_G := R_G.out; have xX_G := X_G.out; omega)
      have bGc3_11 := hw.cell bGc3_10 (by show kG < _ ∨ _ ≤ kG; have z1 := S_1.out; have z2 := S_2.out; have z3 := S_3.out; have z4 := S_4.out; have z5 := S_5.out; have z6 := S_6.out; have z7 := S_7.out; have z8 := S_8.out; have z9 := S_9.out; have z10 := S_10.out; have xR_W := R_W.out; have xX_W := X_W.out; have xR_G := R_G.out; have xX_G := X_G.out; omega)
      have W_11 := Lib.hid (W_10.out.within hw (Or.inl (by have z1 := S_1.out; have z2 := S_2.out; have z3 := S_3.out; have z4 := S_4.out; have z5 := S_5.out; have z6 := S_6.out; have z7 := S_7.out; have z8 := S_8.out; have z9 := S_9.out; have z10 := S_10.out; have xR_W := R_W.out; have xX_W := X_W.out; have xR_G := R_G.out; have xX_G := X_G.out; omega)))
      have G_11 := Lib.hid hrow
      have S_11 : Hid (w10.heap.size ≤ w11.heap.size) := hw.size
      clear hw hrow B_10 a0c0_10 a0c1_10 a0c2_10 a0c3_10 f1a_10 f1b_10 bWc0_10 bWc1_10 bWc2_10 bWc3_10 bx0c0_10 bx0c1_10 bx0c2_10 bx0c3_10 bGc0_10 bGc1_10 bGc2_10 bGc3_10 W_10 G_10
      go_wp2_with fail
      refine (XH.out _ _ _ _ _ G_11.out).mono ?_
      rintro e w12 ⟨rfl, hb⟩
      have B_12 := Lib.hid (below_step B_11.out hb)
      have a0c0_12 := cell_kept a0c0_11 hb
      have a0c1_12 := cell_kept a0c1_11 hb
      have a0c2_12 := cell_kept a0c2_11 hb
      have a0c3_12 := cell_kept a0c3_11 hb
      have f1a_12 := cell_kept f1a_11 hb
      have f1b_12 := cell_kept f1b_11 hb
      have bWc0_12 := cell_kept bWc0_11 hb
      have bWc1_12 := cell_kept bWc1_11 hb
      have bWc2_12 := cell_kept bWc2_11 hb
      have bWc3_12 := cell_kept bWc3_11 hb
      have bx0c0_12 := cell_kept bx0c0_11 hb
      have bx0c1_12 := cell_kept bx0c1_11 hb
      have bx0c2_12 := cell_kept bx0c2_11 hb
      have bx0c3_12 := cell_kept bx0c3_11 hb
      have bGc0_12 := cell_kept bGc0_11 hb
      have bGc1_12 := cell_kept bGc1_11 hb
      have bGc2_12 := cell_kept bGc2_11 hb
      have bGc3_12 := cell_kept bGc3_11 hb
      have W_12 := Lib.hid (W_11.out.later hb)
      have G_12 := Lib.hid (G_11.out.later hb)
      have S_12 : Hid (w11.heap.size ≤ w12.heap.size) := hb.size
      clear hb B_11 a0c0_11 a0c1_11 a0c2_11 a0c3_11 f1a_11 f1b_11 bWc0_11 bWc1_11 bWc2_11 bWc3_11 bx0c0_11 bx0c1_11 bx0c2_11 bx0c3_11 bGc0_11 bGc1_11 bGc2_11 bGc3_11 W_11 G_11
      go_upto_region 24 with fail
      go_cut [14, 15] (fun s0 s1 wx => BoxedB w12 eX mX jX X nX v s0 s1 wx)
      case first =>
        have K0 := Lib.hid (below_drew (Below.refl w12.heap.size w12))
        have HC : Hid (Below w.heap.size w w12.drew) := B_12.out.drew
        go_region_held3 (fun W => W.cell? ⟨w.heap.size, 0, none⟩ = some (.int .i64 e0) ∧ W.cell? ⟨w.heap.size, 1, none⟩ = some (.int .i64 m0) ∧ W.cell? ⟨w.heap.size, 2, none⟩ = some (.int .i64 j0) ∧ W.cell? ⟨w.heap.size, 3, none⟩ = some (.slice A0 n0 c0) ∧ W.cell? ⟨w.heap.size + 1, 0, none⟩ = some (.int .i64 a1) ∧ W.cell? ⟨w.heap.size + 1, 1, none⟩ = some (.int .i64 b1))
          (first | with_reducible exact ⟨a0c0_12, a0c1_12, a0c2_12, a0c3_12, f1a_12, f1b_12⟩ | with_reducible exact ⟨cell_kept a0c0_12 K0.out, cell_kept a0c1_12 K0.out, cell_kept a0c2_12 K0.out, cell_kept a0c3_12 K0.out, cell_kept f1a_12 K0.out, cell_kept f1b_12 K0.out⟩ | with_reducible exact ⟨cell_kept a0c0_12 (below_boxed K0.out _), cell_kept a0c1_12 (below_boxed K0.out _), cell_kept a0c2_12 (below_boxed K0.out _), cell_kept a0c3_12 (below_boxed K0.out _), cell_kept f1a_12 (below_boxed K0.out _), cell_kept f1b_12 (below_boxed K0.out _)⟩ | with_reducible exact ⟨cell_kept a0c0_12 K1.out, cell_kept a0c1_12 K1.out, cell_kept a0c2_12 K1.out, cell_kept a0c3_12 K1.out, cell_kept f1a_12 K1.out, cell_kept f1b_12 K1.out⟩ | with_reducible exact ⟨cell_kept a0c0_12 (below_boxed K1.out _), cell_kept a0c1_12 (below_boxed K1.out _), cell_kept a0c2_12 (below_boxed K1.out _), cell_kept a0c3_12 (below_boxed K1.out _), cell_kept f1a_12 (below_boxed K1.out _), cell_kept f1b_12 (below_boxed K1.out _)⟩ | with_reducible exact ⟨cell_kept a0c0_12 K2.out, cell_kept a0c1_12 K2.out, cell_kept a0c2_12 K2.out, cell_kept a0c3_12 K2.out, cell_kept f1a_12 K2.out, cell_kept f1b_12 K2.out⟩ | with_reducible exact ⟨cell_kept a0c0_12 (below_boxed K2.out _), cell_kept a0c1_12 (below_boxed K2.out _), cell_kept a0c2_12 (below_boxed K2.out _), cell_kept a0c3_12 (below_boxed K2.out _), cell_kept f1a_12 (below_boxed K2.out _), cell_kept f1b_12 (below_boxed K2.out _)⟩ | with_reducible exact ⟨cell_kept a0c0_12 K3.out, cell_kept a0c1_12 K3.out, cell_kept a0c2_12 K3.out, cell_kept a0c3_12 K3.out, cell_kept f1a_12 K3.out, cell_kept f1b_12 K3.out⟩ | with_reducible exact ⟨cell_kept a0c0_12 (below_boxed K3.out _), cell_kept a0c1_12 (below_boxed K3.out _), cell_kept a0c2_12 (below_boxed K3.out _), cell_kept a0c3_12 (below_boxed K3.out _), cell_kept f1a_12 (below_boxed K3.out _), cell_kept f1b_12 (below_boxed K3.out _)⟩ | with_reducible exact ⟨cell_kept a0c0_12 (below_stored4 K3.out (Nat.le_refl _)), cell_kept a0c1_12 (below_stored4 K3.out (Nat.le_refl _)), cell_kept a0c2_12 (below_stored4 K3.out (Nat.le_refl _)), cell_kept a0c3_12 (below_stored4 K3.out (Nat.le_refl _)), cell_kept f1a_12 (below_stored4 K3.out (Nat.le_refl _)), cell_kept f1b_12 (below_stored4 K3.out (Nat.le_refl _))⟩ | with_reducible exact ⟨cell_kept a0c0_12 (below_stored4 K3.out K1.out.size), cell_kept a0c1_12 (below_stored4 K3.out K1.out.size), cell_kept a0c2_12 (below_stored4 K3.out K1.out.size), cell_kept a0c3_12 (below_stored4 K3.out K1.out.size), cell_kept f1a_12 (below_stored4 K3.out K1.out.size), cell_kept f1b_12 (below_stored4 K3.out K1.out.size)⟩ | with_reducible exact ⟨cell_kept a0c0_12 (below_stored4 K3.out K2.out.size), cell_kept a0c1_12 (below_stored4 K3.out K2.out.size), cell_kept a0c2_12 (below_stored4 K3.out K2.out.size), cell_kept a0c3_12 (below_stored4 K3.out K2.out.size), cell_kept f1a_12 (below_stored4 K3.out K2.out.size), cell_kept f1b_12 (below_stored4 K3.out K2.out.size)⟩ | exact ⟨cell_kept a0c0_12 (below_boxed K0.out _), cell_kept a0c1_12 (below_boxed K0.out _), cell_kept a0c2_12 (below_boxed K0.out _), cell_kept a0c3_12 (below_boxed K0.out _), cell_kept f1a_12 (below_boxed K0.out _), cell_kept f1b_12 (below_boxed K0.out _)⟩ | exact ⟨a0c0_12, a0c1_12, a0c2_12, a0c3_12, f1a_12, f1b_12⟩ | exact ⟨cell_kept a0c0_12 K0.out, cell_kept a0c1_12 K0.out, cell_kept a0c2_12 K0.out, cell_kept a0c3_12 K0.out, cell_kept f1a_12 K0.out, cell_kept f1b_12 K0.out⟩ | exact ⟨cell_kept a0c0_12 (below_boxed K0.out _), cell_kept a0c1_12 (below_boxed K0.out _), cell_kept a0c2_12 (below_boxed K0.out _), cell_kept a0c3_12 (below_boxed K0.out _), cell_kept f1a_12 (below_boxed K0.out _), cell_kept f1b_12 (below_boxed K0.out _)⟩ | exact ⟨cell_kept a0c0_12 K1.out, cell_kept a0c1_12 K1.out, cell_kept a0c2_12 K1.out, cell_kept a0c3_12 K1.out, cell_kept f1a_12 K1.out, cell_kept f1b_12 K1.out⟩ | exact ⟨cell_kept a0c0_12 (below_boxed K1.out _), cell_kept a0c1_12 (below_boxed K1.out _), cell_kept a0c2_12 (below_boxed K1.out _), cell_kept a0c3_12 (below_boxed K1.out _), cell_kept f1a_12 (below_boxed K1.out _), cell_kept f1b_12 (below_boxed K1.out _)⟩ | exact ⟨cell_kept a0c0_12 K2.out, cell_kept a0c1_12 K2.out, cell_kept a0c2_12 K2.out, cell_kept a0c3_12 K2.out, cell_kept f1a_12 K2.out, cell_kept f1b_12 K2.out⟩ | exact ⟨cell_kept a0c0_12 (below_boxed K2.out _), cell_kept a0c1_12 (below_boxed K2.out _), cell_kept a0c2_12 (below_boxed K2.out _), cell_kept a0c3_12 (below_boxed K2.out _), cell_kept f1a_12 (below_boxed K2.out _), cell_kept f1b_12 (below_boxed K2.out _)⟩ | exact ⟨cell_kept a0c0_12 K3.out, cell_kept a0c1_12 K3.out, cell_kept a0c2_12 K3.out, cell_kept a0c3_12 K3.out, cell_kept f1a_12 K3.out, cell_kept f1b_12 K3.out⟩ | exact ⟨cell_kept a0c0_12 (below_boxed K3.out _), cell_kept a0c1_12 (below_boxed K3.out _), cell_kept a0c2_12 (below_boxed K3.out _), cell_kept a0c3_12 (below_boxed K3.out _), cell_kept f1a_12 (below_boxed K3.out _), cell_kept f1b_12 (below_boxed K3.out _)⟩ | exact ⟨cell_kept a0c0_12 (below_stored4 K3.out (Nat.le_refl _)), cell_kept a0c1_12 (below_stored4 K3.out (Nat.le_refl _)), cell_kept a0c2_12 (below_stored4 K3.out (Nat.le_refl _)), cell_kept a0c3_12 (below_stored4 K3.out (Nat.le_refl _)), cell_kept f1a_12 (below_stored4 K3.out (Nat.le_refl _)), cell_kept f1b_12 (below_stored4 K3.out (Nat.le_refl _))⟩ | exact ⟨cell_kept a0c0_12 (below_stored4 K3.out K1.out.size), cell_kept a0c1_12 (below_stored4 K3.out K1.out.size), cell_kept a0c2_12 (below_stored4 K3.out K1.out.size), cell_kept a0c3_12 (below_stored4 K3.out K1.out.size), cell_kept f1a_12 (below_stored4 K3.out K1.out.size), cell_kept f1b_12 (below_stored4 K3.out K1.out.size)⟩ | exact ⟨cell_kept a0c0_12 (below_stored4 K3.out K2.out.size), cell_kept a0c1_12 (below_stored4 K3.out K2.out.size), cell_kept a0c2_12 (below_stored4 K3.out K2.out.size), cell_kept a0c3_12 (below_stored4 K3.out K2.out.size), cell_kept f1a_12 (below_stored4 K3.out K2.out.size), cell_kept f1b_12 (below_stored4 K3.out K2.out.size)⟩)
          (first
            | (go_at_call 17
               with_reducible refine (T0.out _ ?_).mono ?_
               · first | exact HC.out | exact below_boxed HC.out _
               rintro e wz1 ⟨gv0, rfl, hb, ho⟩
               have K1 : Hid (Below w12.heap.size w12 wz1) := by first | exact below_step K0.out hb | exact below_step (below_boxed K0.out _) hb
               have HC : Hid (Below w.heap.size w wz1) := by first | exact below_step HC.out hb | exact below_step (below_boxed HC.out _) hb
               try (have b0 := Bbox.later (w := (w12.alloc (.cells #[.int .i64 0, .int .i64 0, .int .i64 0, .slice none 0 0] 29)).drew) (bbox_new w12 0 0 0 (.slice none 0 0)) hb)
               have O_v0 := Lib.hid ho
               clear hb ho)
            | (go_at_call 23
               with_reducible refine (toWire_any a1 b1 _).mono ?_
               rintro e wz2 ⟨rfl, hb⟩
               have K2 : Hid (Below w12.heap.size w12 wz2) := by first | exact below_step K1.out hb | exact below_step (below_boxed K1.out _) hb
               have HC : Hid (Below w.heap.size w wz2) := by first | exact below_step HC.out hb | exact below_step (below_boxed HC.out _) hb
               try (have b0 := Bbox.later b0 hb)
               try (have b1 := Bbox.later (bbox_new wz1 0 0 0 (.slice none 0 0)) hb)
               try (have O_v0 := Lib.hid ((O_v0.out.later (below_box _ _)).later hb))
               try (have O_v0 := Lib.hid (O_v0.out.later hb))
               clear hb)
            | (go_at_call 24
               with_reducible refine (CIW.out _ gv0 ?_ ?_).mono ?_
               · first | exact HC.out | exact below_boxed HC.out _
               · first | exact O_v0.out.wires | exact (O_v0.out.later (below_box _ _)).wires
               rintro e wz3 ⟨AH, cH, rfl, hb, ho⟩
               have K3 : Hid (Below w12.heap.size w12 wz3) := by first | exact below_step K2.out hb | exact below_step (below_boxed K2.out _) hb
               have HC : Hid (Below w.heap.size w wz3) := by first | exact below_step HC.out hb | exact below_step (below_boxed HC.out _) hb
               try (have l0 := Lib.hid (Bbox.lt b0))
               try (have l1 := Lib.hid (Bbox.lt b1))
               try (have l2 := Lib.hid (Bbox.lt (bbox_new wz2 0 0 0 (.slice none 0 0))))
               have HBS := Lib.hid hb.size
               try (have b0 := Bbox.later b0 hb)
               try (have b1 := Bbox.later b1 hb)
               try (have b2 := Bbox.later (bbox_new wz2 0 0 0 (.slice none 0 0)) hb)
               have O_H := Lib.hid ho
               try (have c00 := (Bbox.cells b0).1)
               try (have c01 := (Bbox.cells b0).2.1)
               try (have c02 := (Bbox.cells b0).2.2.1)
               try (have c03 := (Bbox.cells b0).2.2.2)
               try (have f0 := Bbox.frozen b0)
               try (have c10 := (Bbox.cells b1).1)
               try (have c11 := (Bbox.cells b1).2.1)
               try (have c12 := (Bbox.cells b1).2.2.1)
               try (have c13 := (Bbox.cells b1).2.2.2)
               try (have f1 := Bbox.frozen b1)
               try (have c20 := (Bbox.cells b2).1)
               try (have c21 := (Bbox.cells b2).2.1)
               try (have c22 := (Bbox.cells b2).2.2.1)
               try (have c23 := (Bbox.cells b2).2.2.2)
               try (have f2 := Bbox.frozen b2)
               clear hb ho))
        all_goals (go_wp2_with fail; go_meet; first | exact boxedB_last K3.out O_H.out K2.out.size HBS.out | exact boxedB_early K3.out b0 O_H.out (Nat.le_refl _) l0.out HBS.out | exact boxedB_early K3.out b1 O_H.out K1.out.size l1.out HBS.out | exact boxedB_early K3.out b2 O_H.out K2.out.size l2.out HBS.out)
      case rest =>
        obtain ⟨kH, AH, cH, loH, hiH, rfl, rfl, hb, hbx, ho, hXH⟩ := hcut
        rename World => w13
        have R_H := Lib.hid (And.intro ho.room hbx.lt)
        have X_H := Lib.hid hXH
        obtain ⟨hc0, hc1, hc2, hc3⟩ := hbx.cells
        have B_13 := Lib.hid (below_step B_12.out hb)
        have a0c0_13 := cell_kept a0c0_12 hb
        have a0c1_13 := cell_kept a0c1_12 hb
        have a0c2_13 := cell_kept a0c2_12 hb
        have a0c3_13 := cell_kept a0c3_12 hb
        have f1a_13 := cell_kept f1a_12 hb
        have f1b_13 := cell_kept f1b_12 hb
        have bWc0_13 := cell_kept bWc0_12 hb
        have bWc1_13 := cell_kept bWc1_12 hb
        have bWc2_13 := cell_kept bWc2_12 hb
        have bWc3_13 := cell_kept bWc3_12 hb
        have bx0c0_13 := cell_kept bx0c0_12 hb
        have bx0c1_13 := cell_kept bx0c1_12 hb
        have bx0c2_13 := cell_kept bx0c2_12 hb
        have bx0c3_13 := cell_kept bx0c3_12 hb
        have bGc0_13 := cell_kept bGc0_12 hb
        have bGc1_13 := cell_kept bGc1_12 hb
        have bGc2_13 := cell_kept bGc2_12 hb
        have bGc3_13 := cell_kept bGc3_12 hb
        have W_13 := Lib.hid (W_12.out.later hb)
        have G_13 := Lib.hid (G_12.out.later hb)
        have S_13 : Hid (w12.heap.size ≤ w13.heap.size) := hb.size
        have H_13 := Lib.hid ho
        have bHc0_13 := hc0
        have bHc1_13 := hc1
        have bHc2_13 := hc2
        have bHc3_13 := hc3
        clear hb ho hc0 hc1 hc2 hc3 B_12 a0c0_12 a0c1_12 a0c2_12 a0c3_12 f1a_12 f1b_12 bWc0_12 bWc1_12 bWc2_12 bWc3_12 bx0c0_12 bx0c1_12 bx0c2_12 bx0c3_12 bGc0_12 bGc1_12 bGc2_12 bGc3_12 W_12 G_12 hbx hXH
        go_wp2_with fail
        refine (XE.out _ _ _ _ _ H_13.out.wires W_13.out.wires).mono ?_
        rintro e w14 ⟨rfl, hb⟩
        have B_14 := Lib.hid (below_step B_13.out hb)
        have a0c0_14 := cell_kept a0c0_13 hb
        have a0c1_14 := cell_kept a0c1_13 hb
        have a0c2_14 := cell_kept a0c2_13 hb
        have a0c3_14 := cell_kept a0c3_13 hb
        have f1a_14 := cell_kept f1a_13 hb
        have f1b_14 := cell_kept f1b_13 hb
        have bWc0_14 := cell_kept bWc0_13 hb
        have bWc1_14 := cell_kept bWc1_13 hb
        have bWc2_14 := cell_kept bWc2_13 hb
        have bWc3_14 := cell_kept bWc3_13 hb
        have bx0c0_14 := cell_kept bx0c0_13 hb
        have bx0c1_14 := cell_kept bx0c1_13 hb
        have bx0c2_14 := cell_kept bx0c2_13 hb
        have bx0c3_14 := cell_kept bx0c3_13 hb
        have bGc0_14 := cell_kept bGc0_13 hb
        have bGc1_14 := cell_kept bGc1_13 hb
        have bGc2_14 := cell_kept bGc2_13 hb
        have bGc3_14 := cell_kept bGc3_13 hb
        have bHc0_14 := cell_kept bHc0_13 hb
        have bHc1_14 := cell_kept bHc1_13 hb
        have bHc2_14 := cell_kept bHc2_13 hb
        have bHc3_14 := cell_kept bHc3_13 hb
        have W_14 := Lib.hid (W_13.out.later hb)
        have G_14 := Lib.hid (G_13.out.later hb)
        have H_14 := Lib.hid (H_13.out.later hb)
        have S_14 : Hid (w13.heap.size ≤ w14.heap.size) := hb.size
        clear hb B_13 a0c0_13 a0c1_13 a0c2_13 a0c3_13 f1a_13 f1b_13 bWc0_13 bWc1_13 bWc2_13 bWc3_13 bx0c0_13 bx0c1_13 bx0c2_13 bx0c3_13 bGc0_13 bGc1_13 bGc2_13 bGc3_13 bHc0_13 bHc1_13 bHc2_13 bHc3_13 W_13 G_13 H_13
        go_wp2_with fail
        refine (XH.out _ _ _ _ _ G_14.out).mono ?_
        rintro e w15 ⟨rfl, hb⟩
        have B_15 := Lib.hid (below_step B_14.out hb)
        have a0c0_15 := cell_kept a0c0_14 hb
        have a0c1_15 := cell_kept a0c1_14 hb
        have a0c2_15 := cell_kept a0c2_14 hb
        have a0c3_15 := cell_kept a0c3_14 hb
        have f1a_15 := cell_kept f1a_14 hb
        have f1b_15 := cell_kept f1b_14 hb
        have bWc0_15 := cell_kept bWc0_14 hb
        have bWc1_15 := cell_kept bWc1_14 hb
        have bWc2_15 := cell_kept bWc2_14 hb
        have bWc3_15 := cell_kept bWc3_14 hb
        have bx0c0_15 := cell_kept bx0c0_14 hb
        have bx0c1_15 := cell_kept bx0c1_14 hb
        have bx0c2_15 := cell_kept bx0c2_14 hb
        have bx0c3_15 := cell_kept bx0c3_14 hb
        have bGc0_15 := cell_kept bGc0_14 hb
        have bGc1_15 := cell_kept bGc1_14 hb
        have bGc2_15 := cell_kept bGc2_14 hb
        have bGc3_15 := cell_kept bGc3_14 hb
        have bHc0_15 := cell_kept bHc0_14 hb
        have bHc1_15 := cell_kept bHc1_14 hb
        have bHc2_15 := cell_kept bHc2_14 hb
        have bHc3_15 := cell_kept bHc3_14 hb
        have W_15 := Lib.hid (W_14.out.later hb)
        have G_15 := Lib.hid (G_14.out.later hb)
        have H_15 := Lib.hid (H_14.out.later hb)
        have S_15 : Hid (w14.heap.size ≤ w15.heap.size) := hb.size
        clear hb B_14 a0c0_14 a0c1_14 a0c2_14 a0c3_14 f1a_14 f1b_14 bWc0_14 bWc1_14 bWc2_14 bWc3_14 bx0c0_14 bx0c1_14 bx0c2_14 bx0c3_14 bGc0_14 bGc1_14 bGc2_14 bGc3_14 bHc0_14 bHc1_14 bHc2_14 bHc3_14 W_14 G_14 H_14
        go_wp2
        go_ret
        exact ⟨rfl, B_15.out⟩

theorem walk (e0 m0 j0 : Int) (A0 : Option Addr) (c0 : Nat) (P0 : List (Int × Int)) {y0 : World} (h0 : Wires y0 y0.heap.size A0 P0) (l0 : P0.length ≤ 9223372036854775807) (hw0 : (Lit.int .i64 e0).wf = true ∧ (Lit.int .i64 m0).wf = true ∧ (Lit.int .i64 j0).wf = true) (a1 b1 : Int) (_ : (Lit.int .i64 a1).wf = true) (_ : (Lit.int .i64 b1).wf = true) (w : World) (e0_ : y0 = w) :
    Calls Try.prog 5 #[.agg #[.int .i64 e0, .int .i64 m0, .int .i64 j0, .slice A0 P0.length c0], .agg #[.int .i64 a1, .int .i64 b1]] w fun e w' => e = .returned (.bool true) ∧ Below w.heap.size w w' := by
  subst e0_
  by_cases hb0 : 1048576 < (P0.length : Int)
  · exact walk_big0 e0 m0 j0 A0 c0 P0 a1 b1 _ h0 l0  hb0
  have hs0 : (P0.length : Int) ≤ 1048576 := by omega
  have hm0 : P0.length ≤ 1048576 := by omega
  have hwb0 := wide_of hw0
  have hx := addA_length e0 m0 j0 P0 a1 b1
  refine walk_small e0 m0 j0 A0 c0 P0 a1 b1 (addV e0 m0 j0 P0 a1 b1 e0) (addV e0 m0 j0 P0 a1 b1 m0) (addV e0 m0 j0 P0 a1 b1 j0) (addA e0 m0 j0 P0 a1 b1) (addC e0 m0 j0 P0 a1 b1) _ h0 hs0 hx (fun W g0 B0 hW hP0 hB0 => ?_) (fun W g0 B0 hW hP0 hB0 => ?_)
  · exact specAddW_any e0 m0 j0 (some ⟨g0, 0, none⟩) P0.length P0 B0 a1 b1 W hP0 hB0 hm0 (by simp)
  · exact implAddW_any e0 m0 j0 (some ⟨g0, 0, none⟩) P0.length P0 B0 a1 b1 W hP0 hB0 hm0

set_option maxRecDepth 100000 in
theorem lifted (os : Os) (started : os.Started) (H : Type) (enc : TypeId × Value → H) :
    ReturnsInHanded {} Try.checked os 5 .any (Rows.fnExactAddWireSpec.pre6 enc Try.prog Try.f5 Rows.fnExactAddWireRow.domain false) (Rows.fnExactAddWireSpec.post enc Try.prog Try.f5 false true false false) := by
  refine returnsInHanded_of_change (C := Try.checked) own started (by kernel_rfl) Try.func5
    (ChangeSpec.witness6 (enc := enc) (C := Try.checked) false ⟨#[], #[.agg #[.int .i64 0, .int .i64 0, .int .i64 0, .slice none 0 0], .agg #[.int .i64 0, .int .i64 0]], []⟩ 8 (by kernel_rfl) (by kernel_rfl) (by kernel_rfl) (by kernel_rfl)) ?_
  intro W base args ds gs before hval0 hW _ _
  have hval : ∀ (j : Nat) t v, Try.f5.params[j]? = some t → args[j]? = some v → Value.okWide Try.prog W .any base t v := hval0
  have hW' := hW
  obtain ⟨p, q, hA0, hV, rfl, _, _⟩ := hW
  have hA : DataW.TrodAll enc Try.prog W 0 (fun _ => true) true Try.f5.params.toList args.toList ds p := hA0
  rw [Try.params5] at hA hval
  obtain ⟨v0, vs0, d0, ds0, p0, q0, hargs, rfl, rfl, h0, r0⟩ := trodAll_cons hA
  obtain ⟨v1, vs1, d1, ds1, p1, q1, rfl, rfl, rfl, h1, r1⟩ := trodAll_cons r0
  obtain ⟨rfl, rfl, rfl⟩ := trodAll_nil r1
  obtain rfl : args = #[v0, v1] := by cases args; simp_all
  obtain ⟨rfl, rfl⟩ := trodVars_none hV
  obtain ⟨e0, m0, j0, A0, c0, P0, rfl, i0, l0, w0⟩ := open_board (hval 0 24 v0 rfl rfl) h0
  obtain ⟨a1, b1, rfl, w1, u1⟩ := open_wire (hval 1 35 v1 rfl rfl) h1
  refine (walk e0 m0 j0 A0 c0 P0 i0 l0 w0 a1 b1 w1 u1 W rfl).mono fun e W' ⟨he, hb⟩ => ?_
  subst he
  refine ⟨_, rfl, law_post hW' rfl rfl ?_ rfl rfl rfl hb⟩
  intro t ht
  rw [Try.params5] at ht
  have ht' : t = 24 ∨ t = 35 := by simpa using ht
  rcases ht' with rfl | rfl <;> exact ⟨by kernel_rfl, of_decide_eq_true (by kernel_rfl)⟩

theorem over : Rows.fnExactAddWireRow.holds Try.pinned (OpenSpec.ofChange Rows.fnExactAddWireSpec) :=
  OpenClaim.holds_of_wide 5 Try.f5 rfl rfl rfl rfl rfl rfl rfl ⟨rfl, rfl, rfl, rfl, rfl⟩ rfl rfl rfl rfl rfl (by kernel_rfl) Try.func5 (by kernel_rfl)
    (of_decide_eq_true (by kernel_rfl)) (by unfold Func.isWrapper; first | (rw [if_pos (by decide +kernel)]; kernel_rfl) | (rw [if_neg (by decide +kernel)]; exact ⟨rfl, rfl⟩))
    (fun os started H enc _ => lifted os started H enc)

theorem proved : Rows.FnExactAddWireSaid :=
  over
end Go.Proofs.Ytpklmhffgbgakaa.fnExactAddWire
