/- For every two boards, the law FnExactSameBoard returns true: impl.SameBoard answers as spec.SameBoard, and leaves its arguments as they were. Conditions: none. -/
import Derived.Test.YtpklmhffgbgakaaBrdSame
import Derived.Test.YtpklmhffgbgakaaLaw
import Derived.Test.YtpklmhffgbgakaaBoxed
import Derived.Test.YtpklmhffgbgakaaBoard
import Derived.Deep.RegionHeld3
import Derived.Deep.DeepCutAuto
import Derived.Laws.NewDeep
namespace Go.Proofs.Ytpklmhffgbgakaa.fnExactSameBoard
open Go.ChangeShapes Go.WideShapes Go.ChangeAt Go.RowKit

theorem walk_big0 (e0 m0 j0 : Int) (A0 : Option Addr) (c0 : Nat) (P0 : List (Int × Int)) (e1 m1 j1 : Int) (A1 : Option Addr) (c1 : Nat) (P1 : List (Int × Int)) (w : World) (h0 : Wires w w.heap.size A0 P0) (l0 : P0.length ≤ 9223372036854775807)  (hbig : 1048576 < (P0.length : Int)) :
    Calls Try.prog 4 #[.agg #[.int .i64 e0, .int .i64 m0, .int .i64 j0, .slice A0 P0.length c0], .agg #[.int .i64 e1, .int .i64 m1, .int .i64 j1, .slice A1 P1.length c1]] w fun e w' => e = .returned (.bool true) ∧ Below w.heap.size w w' := by
  have z0 := fun (W : World) (_ : Below w.heap.size w W) => szBoard_any e0 m0 j0 A0 P0.length c0 (1048576) W (by omega) (by omega) (by omega)
  have e0_ : (if (1048576) < (P0.length : Int) then (-1 : Int) else 1048576 - P0.length) = -1 := if_pos (by omega)
  simp only [e0_] at z0
  clear e0_
  obtain ⟨n1, hn1⟩ : ∃ n, P1.length = n := ⟨_, rfl⟩
  rw [hn1]
  obtain ⟨n0, hn0⟩ : ∃ n, P0.length = n := ⟨_, rfl⟩
  rw [hn0] at hbig
  simp only [hn0] at z0 ⊢
  have Z0 := Lib.hid z0
  clear z0 hn0 hn1 h0 l0
  go_enter Try.func4, Try.ntmps4
  go_wp2_with fail
  refine (Z0.out _ ((below_box w _).alloc (by simp <;> omega) _)).mono ?_
  rintro e w1 ⟨rfl, hb⟩
  have B_1 := Lib.hid (below_step ((below_box w _).alloc (by simp <;> omega) _) hb)
  have a0c0_1 := cell_kept (p := ⟨w.heap.size, 0, none⟩) (v := .int .i64 e0) (by simp [go_sem]) hb
  have a0c1_1 := cell_kept (p := ⟨w.heap.size, 1, none⟩) (v := .int .i64 m0) (by simp [go_sem]) hb
  have a0c2_1 := cell_kept (p := ⟨w.heap.size, 2, none⟩) (v := .int .i64 j0) (by simp [go_sem]) hb
  have a0c3_1 := cell_kept (p := ⟨w.heap.size, 3, none⟩) (v := .slice A0 n0 c0) (by simp [go_sem]) hb
  have a1c0_1 := cell_kept (p := ⟨w.heap.size + 1, 0, none⟩) (v := .int .i64 e1) (by simp [go_sem]) hb
  have a1c1_1 := cell_kept (p := ⟨w.heap.size + 1, 1, none⟩) (v := .int .i64 m1) (by simp [go_sem]) hb
  have a1c2_1 := cell_kept (p := ⟨w.heap.size + 1, 2, none⟩) (v := .int .i64 j1) (by simp [go_sem]) hb
  have a1c3_1 := cell_kept (p := ⟨w.heap.size + 1, 3, none⟩) (v := .slice A1 n1 c1) (by simp [go_sem]) hb
  have S_1 : Hid (w.heap.size + 2 ≤ w1.heap.size) := by show _ ≤ _; have := hb.size; simpa using this
  clear hb
  go_wp2
  go_ret
  exact ⟨rfl, B_1.out⟩

theorem walk_big1 (e0 m0 j0 : Int) (A0 : Option Addr) (c0 : Nat) (P0 : List (Int × Int)) (e1 m1 j1 : Int) (A1 : Option Addr) (c1 : Nat) (P1 : List (Int × Int)) (w : World) (h0 : Wires w w.heap.size A0 P0) (h1 : Wires w w.heap.size A1 P1) (l1 : P1.length ≤ 9223372036854775807) (hs : (P0.length : Int) ≤ 1048576) (hbig : 1048576 < (P0.length : Int) + (P1.length : Int)) :
    Calls Try.prog 4 #[.agg #[.int .i64 e0, .int .i64 m0, .int .i64 j0, .slice A0 P0.length c0], .agg #[.int .i64 e1, .int .i64 m1, .int .i64 j1, .slice A1 P1.length c1]] w fun e w' => e = .returned (.bool true) ∧ Below w.heap.size w w' := by
  have z0 := fun (W : World) (_ : Below w.heap.size w W) => szBoard_any e0 m0 j0 A0 P0.length c0 (1048576) W (by omega) (by omega) (by omega)
  have e0_ : (if (1048576) < (P0.length : Int) then (-1 : Int) else 1048576 - P0.length) = 1048576 - P0.length := if_neg (by omega)
  simp only [e0_] at z0
  clear e0_
  have z1 := fun (W : World) (_ : Below w.heap.size w W) => szBoard_any e1 m1 j1 A1 P1.length c1 (1048576 - (P0.length : Int)) W (by omega) (by omega) (by omega)
  have e1_ : (if (1048576 - (P0.length : Int)) < (P1.length : Int) then (-1 : Int) else 1048576 - (P0.length : Int) - P1.length) = -1 := if_pos (by omega)
  simp only [e1_] at z1
  clear e1_
  obtain ⟨n0, hn0⟩ : ∃ n, P0.length = n := ⟨_, rfl⟩
  rw [hn0] at hbig hs
  simp only [hn0] at z0 z1 ⊢
  obtain ⟨n1, hn1⟩ : ∃ n, P1.length = n := ⟨_, rfl⟩
  rw [hn1] at hbig
  simp only [hn1] at z1 ⊢
  have Z0 := Lib.hid z0
  have Z1 := Lib.hid z1
  have g0 : ¬ 1048576 - (n0 : Int) < 0 := by omega
  clear z0 z1 hn0 hn1 h0 h1 l1
  go_enter Try.func4, Try.ntmps4
  go_wp2_with fail
  refine (Z0.out _ ((below_box w _).alloc (by simp <;> omega) _)).mono ?_
  rintro e w1 ⟨rfl, hb⟩
  have B_1 := Lib.hid (below_step ((below_box w _).alloc (by simp <;> omega) _) hb)
  have a0c0_1 := cell_kept (p := ⟨w.heap.size, 0, none⟩) (v := .int .i64 e0) (by simp [go_sem]) hb
  have a0c1_1 := cell_kept (p := ⟨w.heap.size, 1, none⟩) (v := .int .i64 m0) (by simp [go_sem]) hb
  have a0c2_1 := cell_kept (p := ⟨w.heap.size, 2, none⟩) (v := .int .i64 j0) (by simp [go_sem]) hb
  have a0c3_1 := cell_kept (p := ⟨w.heap.size, 3, none⟩) (v := .slice A0 n0 c0) (by simp [go_sem]) hb
  have a1c0_1 := cell_kept (p := ⟨w.heap.size + 1, 0, none⟩) (v := .int .i64 e1) (by simp [go_sem]) hb
  have a1c1_1 := cell_kept (p := ⟨w.heap.size + 1, 1, none⟩) (v := .int .i64 m1) (by simp [go_sem]) hb
  have a1c2_1 := cell_kept (p := ⟨w.heap.size + 1, 2, none⟩) (v := .int .i64 j1) (by simp [go_sem]) hb
  have a1c3_1 := cell_kept (p := ⟨w.heap.size + 1, 3, none⟩) (v := .slice A1 n1 c1) (by simp [go_sem]) hb
  have S_1 : Hid (w.heap.size + 2 ≤ w1.heap.size) := by show _ ≤ _; have := hb.size; simpa using this
  clear hb
  go_wp2_with fail
  refine (Z1.out _ B_1.out).mono ?_
  rintro e w2 ⟨rfl, hb⟩
  have B_2 := Lib.hid (below_step B_1.out hb)
  have a0c0_2 := cell_kept a0c0_1 hb
  have a0c1_2 := cell_kept a0c1_1 hb
  have a0c2_2 := cell_kept a0c2_1 hb
  have a0c3_2 := cell_kept a0c3_1 hb
  have a1c0_2 := cell_kept a1c0_1 hb
  have a1c1_2 := cell_kept a1c1_1 hb
  have a1c2_2 := cell_kept a1c2_1 hb
  have a1c3_2 := cell_kept a1c3_1 hb
  have S_2 : Hid (w1.heap.size ≤ w2.heap.size) := hb.size
  clear hb B_1 a0c0_1 a0c1_1 a0c2_1 a0c3_1 a1c0_1 a1c1_1 a1c2_1 a1c3_1
  go_wp2
  go_ret
  exact ⟨rfl, B_2.out⟩

set_option maxRecDepth 100000 in
set_option maxHeartbeats 8000000 in
theorem walk_small (e0 m0 j0 : Int) (A0 : Option Addr) (c0 : Nat) (P0 : List (Int × Int)) (e1 m1 j1 : Int) (A1 : Option Addr) (c1 : Nat) (P1 : List (Int × Int)) (v : Bool) (w : World) (h0 : Wires w w.heap.size A0 P0) (h1 : Wires w w.heap.size A1 P1) (hs : (P0.length : Int) + (P1.length : Int) ≤ 1048576) 
    (hv : ∀ (W : World) (A0 : Option Addr) (B0 : Nat) (A1 : Option Addr) (B1 : Nat), Below w.heap.size w W → Wires W B0 A0 P0 → B0 ≤ W.heap.size → Wires W B1 A1 P1 → B1 ≤ W.heap.size → Calls Try.prog 20 #[.agg #[.int .i64 e0, .int .i64 m0, .int .i64 j0, .slice A0 P0.length P0.length], .agg #[.int .i64 e1, .int .i64 m1, .int .i64 j1, .slice A1 P1.length P1.length]] W fun e w' => e = .returned (.bool v) ∧ Below W.heap.size W w')
    (hi : ∀ (W : World) (A0 : Option Addr) (B0 : Nat) (A1 : Option Addr) (B1 : Nat), Below w.heap.size w W → Wires W B0 A0 P0 → B0 ≤ W.heap.size → Wires W B1 A1 P1 → B1 ≤ W.heap.size → Calls Try.prog 21 #[.agg #[.int .i64 e0, .int .i64 m0, .int .i64 j0, .slice A0 P0.length P0.length], .agg #[.int .i64 e1, .int .i64 m1, .int .i64 j1, .slice A1 P1.length P1.length]] W fun e w' => e = .returned (.bool v) ∧ Below W.heap.size W w') :
    Calls Try.prog 4 #[.agg #[.int .i64 e0, .int .i64 m0, .int .i64 j0, .slice A0 P0.length c0], .agg #[.int .i64 e1, .int .i64 m1, .int .i64 j1, .slice A1 P1.length c1]] w fun e w' => e = .returned (.bool true) ∧ Below w.heap.size w w' := by
  have z0 := fun (W : World) (_ : Below w.heap.size w W) => szBoard_any e0 m0 j0 A0 P0.length c0 (1048576) W (by omega) (by omega) (by omega)
  have e0_ : (if (1048576) < (P0.length : Int) then (-1 : Int) else 1048576 - P0.length) = 1048576 - P0.length := if_neg (by omega)
  simp only [e0_] at z0
  clear e0_
  have hm0 : P0.length ≤ 1048576 := by omega
  have t0 := fun W (hW : Below w.heap.size w W) => toBoardAt_any e0 m0 j0 A0 c0 P0 w.heap.size W (h0.below hW) hW.size hm0
  have q0 := fun A A' W (hA : Wires W W.heap.size A P0) (hA' : Wires W W.heap.size A' P0) => eqBoardAt_any e0 m0 j0 A A' P0.length P0.length P0 W hA hA' hm0
  have z1 := fun (W : World) (_ : Below w.heap.size w W) => szBoard_any e1 m1 j1 A1 P1.length c1 (1048576 - (P0.length : Int)) W (by omega) (by omega) (by omega)
  have e1_ : (if (1048576 - (P0.length : Int)) < (P1.length : Int) then (-1 : Int) else 1048576 - (P0.length : Int) - P1.length) = 1048576 - (P0.length : Int) - P1.length := if_neg (by omega)
  simp only [e1_] at z1
  clear e1_
  have hm1 : P1.length ≤ 1048576 := by omega
  have t1 := fun W (hW : Below w.heap.size w W) => toBoardAt_any e1 m1 j1 A1 c1 P1 w.heap.size W (h1.below hW) hW.size hm1
  have q1 := fun A A' W (hA : Wires W W.heap.size A P1) (hA' : Wires W W.heap.size A' P1) => eqBoardAt_any e1 m1 j1 A A' P1.length P1.length P1 W hA hA' hm1
  have cv : ∀ (W : World) (g0 lo0 hi0 : Nat) (g1 lo1 hi1 : Nat), Below w.heap.size w W → WAt W lo0 hi0 (some ⟨g0, 0, none⟩) P0 → WAt W lo1 hi1 (some ⟨g1, 0, none⟩) P1 → Calls Try.prog 20 #[.agg #[.int .i64 e0, .int .i64 m0, .int .i64 j0, .slice (some ⟨g0, 0, none⟩) P0.length P0.length], .agg #[.int .i64 e1, .int .i64 m1, .int .i64 j1, .slice (some ⟨g1, 0, none⟩) P1.length P1.length]] W fun e w' => e = .returned (.bool v) ∧ Below W.heap.size W w' := fun W g0 lo0 hi0 g1 lo1 hi1 hW hO0 hO1 => by
    have := hv W (some ⟨g0, 0, none⟩) W.heap.size (some ⟨g1, 0, none⟩) W.heap.size hW hO0.wires (Nat.le_refl _) hO1.wires (Nat.le_refl _)
    exact this
  have ci : ∀ (W : World) (g0 lo0 hi0 : Nat) (g1 lo1 hi1 : Nat), Below w.heap.size w W → WAt W lo0 hi0 (some ⟨g0, 0, none⟩) P0 → WAt W lo1 hi1 (some ⟨g1, 0, none⟩) P1 → Calls Try.prog 21 #[.agg #[.int .i64 e0, .int .i64 m0, .int .i64 j0, .slice (some ⟨g0, 0, none⟩) P0.length P0.length], .agg #[.int .i64 e1, .int .i64 m1, .int .i64 j1, .slice (some ⟨g1, 0, none⟩) P1.length P1.length]] W fun e w' => e = .returned (.bool v) ∧ Below W.heap.size W w' := fun W g0 lo0 hi0 g1 lo1 hi1 hW hO0 hO1 => by
    have := hi W (some ⟨g0, 0, none⟩) W.heap.size (some ⟨g1, 0, none⟩) W.heap.size hW hO0.wires (Nat.le_refl _) hO1.wires (Nat.le_refl _)
    exact this
  obtain ⟨n0, hn0⟩ : ∃ n, P0.length = n := ⟨_, rfl⟩
  simp only [hn0] at z0 z1 t0 q0 cv ci hs ⊢
  obtain ⟨n1, hn1⟩ : ∃ n, P1.length = n := ⟨_, rfl⟩
  simp only [hn1] at z1 t1 q1 cv ci hs ⊢
  have Z0 := Lib.hid z0
  have T0 := Lib.hid t0
  have Q0 := Lib.hid q0
  have Z1 := Lib.hid z1
  have T1 := Lib.hid t1
  have Q1 := Lib.hid q1
  have CV := Lib.hid cv
  have CI := Lib.hid ci
  have g0 : ¬ 1048576 - (n0 : Int) < 0 := by omega
  have g1 : ¬ 1048576 - (n0 : Int) - (n1 : Int) < 0 := by omega
  clear cv ci hv hi z0 t0 q0 hn0 h0 hm0 z1 t1 q1 hn1 h1 hm1
  go_enter Try.func4, Try.ntmps4
  go_wp2_with fail
  refine (Z0.out _ ((below_box w _).alloc (by simp <;> omega) _)).mono ?_
  rintro e w1 ⟨rfl, hb⟩
  have B_1 := Lib.hid (below_step ((below_box w _).alloc (by simp <;> omega) _) hb)
  have a0c0_1 := cell_kept (p := ⟨w.heap.size, 0, none⟩) (v := .int .i64 e0) (by simp [go_sem]) hb
  have a0c1_1 := cell_kept (p := ⟨w.heap.size, 1, none⟩) (v := .int .i64 m0) (by simp [go_sem]) hb
  have a0c2_1 := cell_kept (p := ⟨w.heap.size, 2, none⟩) (v := .int .i64 j0) (by simp [go_sem]) hb
  have a0c3_1 := cell_kept (p := ⟨w.heap.size, 3, none⟩) (v := .slice A0 n0 c0) (by simp [go_sem]) hb
  have a1c0_1 := cell_kept (p := ⟨w.heap.size + 1, 0, none⟩) (v := .int .i64 e1) (by simp [go_sem]) hb
  have a1c1_1 := cell_kept (p := ⟨w.heap.size + 1, 1, none⟩) (v := .int .i64 m1) (by simp [go_sem]) hb
  have a1c2_1 := cell_kept (p := ⟨w.heap.size + 1, 2, none⟩) (v := .int .i64 j1) (by simp [go_sem]) hb
  have a1c3_1 := cell_kept (p := ⟨w.heap.size + 1, 3, none⟩) (v := .slice A1 n1 c1) (by simp [go_sem]) hb
  have S_1 : Hid (w.heap.size + 2 ≤ w1.heap.size) := by show _ ≤ _; have := hb.size; simpa using this
  clear hb
  go_wp2_with fail
  refine (Z1.out _ B_1.out).mono ?_
  rintro e w2 ⟨rfl, hb⟩
  have B_2 := Lib.hid (below_step B_1.out hb)
  have a0c0_2 := cell_kept a0c0_1 hb
  have a0c1_2 := cell_kept a0c1_1 hb
  have a0c2_2 := cell_kept a0c2_1 hb
  have a0c3_2 := cell_kept a0c3_1 hb
  have a1c0_2 := cell_kept a1c0_1 hb
  have a1c1_2 := cell_kept a1c1_1 hb
  have a1c2_2 := cell_kept a1c2_1 hb
  have a1c3_2 := cell_kept a1c3_1 hb
  have S_2 : Hid (w1.heap.size ≤ w2.heap.size) := hb.size
  clear hb B_1 a0c0_1 a0c1_1 a0c2_1 a0c3_1 a1c0_1 a1c1_1 a1c2_1 a1c3_1
  go_upto_region 8 with fail
  go_cut [6] (fun s0 wx => s0 = .bool v ∧ Below w2.heap.size w2 wx)
  case first =>
    have HS : Hid (Below w2.drew.heap.size w2.drew w2.drew) := Below.refl _ _
    have HC : Hid (Below w.heap.size w w2.drew) := B_2.out.drew
    go_region_held3 (fun W => W.cell? ⟨w.heap.size, 0, none⟩ = some (.int .i64 e0) ∧ W.cell? ⟨w.heap.size, 1, none⟩ = some (.int .i64 m0) ∧ W.cell? ⟨w.heap.size, 2, none⟩ = some (.int .i64 j0) ∧ W.cell? ⟨w.heap.size, 3, none⟩ = some (.slice A0 n0 c0) ∧ W.cell? ⟨w.heap.size + 1, 0, none⟩ = some (.int .i64 e1) ∧ W.cell? ⟨w.heap.size + 1, 1, none⟩ = some (.int .i64 m1) ∧ W.cell? ⟨w.heap.size + 1, 2, none⟩ = some (.int .i64 j1) ∧ W.cell? ⟨w.heap.size + 1, 3, none⟩ = some (.slice A1 n1 c1))
      (first | exact ⟨cell_kept (w := w2.drew) a0c0_2 HS.out, cell_kept (w := w2.drew) a0c1_2 HS.out, cell_kept (w := w2.drew) a0c2_2 HS.out, cell_kept (w := w2.drew) a0c3_2 HS.out, cell_kept (w := w2.drew) a1c0_2 HS.out, cell_kept (w := w2.drew) a1c1_2 HS.out, cell_kept (w := w2.drew) a1c2_2 HS.out, cell_kept (w := w2.drew) a1c3_2 HS.out⟩ | go_keep)
      (first
        | (go_at_call 17
           with_reducible refine (T0.out _ HC.out).mono ?_
           rintro e wz ⟨gw0, rfl, hb, ho⟩
           have HC := Lib.hid (below_step HC.out hb)
           have HS := Lib.hid (below_step HS.out hb)
           try (have O_w1 := Lib.hid (O_w1.out.later hb))
           have O_w0 := Lib.hid ho
           clear hb ho)
        | (go_at_call 17
           with_reducible refine (T1.out _ HC.out).mono ?_
           rintro e wz ⟨gw1, rfl, hb, ho⟩
           have HC := Lib.hid (below_step HC.out hb)
           have HS := Lib.hid (below_step HS.out hb)
           try (have O_w0 := Lib.hid (O_w0.out.later hb))
           have O_w1 := Lib.hid ho
           clear hb ho)
        | (go_at_call 20
           refine (CV.out _ _ _ _ _ _ _ HC.out O_w0.out O_w1.out).mono ?_
           rintro e wz ⟨rfl, hb⟩
           have HC := Lib.hid (below_step HC.out hb)
           have HS := Lib.hid (below_step HS.out hb)
           try (have O_w0 := Lib.hid (O_w0.out.later hb))
           try (have O_w1 := Lib.hid (O_w1.out.later hb))
           clear hb))
    all_goals (go_wp2_with fail; go_meet; exact ⟨rfl, below_step (below_drew (Below.refl _ _)) HS.out⟩)
  case rest =>
    obtain ⟨rfl, hb⟩ := hcut
    rename World => w3
    have B_3 := Lib.hid (below_step B_2.out hb)
    have a0c0_3 := cell_kept a0c0_2 hb
    have a0c1_3 := cell_kept a0c1_2 hb
    have a0c2_3 := cell_kept a0c2_2 hb
    have a0c3_3 := cell_kept a0c3_2 hb
    have a1c0_3 := cell_kept a1c0_2 hb
    have a1c1_3 := cell_kept a1c1_2 hb
    have a1c2_3 := cell_kept a1c2_2 hb
    have a1c3_3 := cell_kept a1c3_2 hb
    have S_3 : Hid (w2.heap.size ≤ w3.heap.size) := hb.size
    clear hb B_2 a0c0_2 a0c1_2 a0c2_2 a0c3_2 a1c0_2 a1c1_2 a1c2_2 a1c3_2
    go_wp2_with fail
    refine (T0.out _ B_3.out).mono ?_
    rintro e w4 ⟨gx0, rfl, hb, ho⟩
    have B_4 := Lib.hid (below_step B_3.out hb)
    have a0c0_4 := cell_kept a0c0_3 hb
    have a0c1_4 := cell_kept a0c1_3 hb
    have a0c2_4 := cell_kept a0c2_3 hb
    have a0c3_4 := cell_kept a0c3_3 hb
    have a1c0_4 := cell_kept a1c0_3 hb
    have a1c1_4 := cell_kept a1c1_3 hb
    have a1c2_4 := cell_kept a1c2_3 hb
    have a1c3_4 := cell_kept a1c3_3 hb
    have S_4 : Hid (w3.heap.size ≤ w4.heap.size) := hb.size
    have x0_4 := Lib.hid ho
    clear hb ho B_3 a0c0_3 a0c1_3 a0c2_3 a0c3_3 a1c0_3 a1c1_3 a1c2_3 a1c3_3
    have hb := below_box w4 (.cells #[.int .i64 e0, .int .i64 m0, .int .i64 j0, .slice (some ⟨gx0, 0, none⟩) n0 n0] 29)
    obtain ⟨hc0, hc1, hc2, hc3⟩ := board_cells w4 (e0) (m0) (j0) (.slice (some ⟨gx0, 0, none⟩) n0 n0) 29
    obtain ⟨w5, hW5⟩ : ∃ W, w4.alloc (.cells #[.int .i64 e0, .int .i64 m0, .int .i64 j0, .slice (some ⟨gx0, 0, none⟩) n0 n0] 29) = W := ⟨_, rfl⟩
    rw [hW5] at hb hc0 hc1 hc2 hc3
    have B_5 := Lib.hid (below_step B_4.out hb)
    have a0c0_5 := cell_kept a0c0_4 hb
    have a0c1_5 := cell_kept a0c1_4 hb
    have a0c2_5 := cell_kept a0c2_4 hb
    have a0c3_5 := cell_kept a0c3_4 hb
    have a1c0_5 := cell_kept a1c0_4 hb
    have a1c1_5 := cell_kept a1c1_4 hb
    have a1c2_5 := cell_kept a1c2_4 hb
    have a1c3_5 := cell_kept a1c3_4 hb
    have x0_5 := Lib.hid (x0_4.out.later hb)
    have S_5 : Hid (w4.heap.size ≤ w5.heap.size) := hb.size
    have bx0c0_5 := hc0
    have bx0c1_5 := hc1
    have bx0c2_5 := hc2
    have bx0c3_5 := hc3
    clear hb hc0 hc1 hc2 hc3 B_4 a0c0_4 a0c1_4 a0c2_4 a0c3_4 a1c0_4 a1c1_4 a1c2_4 a1c3_4 x0_4
    have Z_bx0 : Hid (w4.heap.size < w5.heap.size) := by show _ < _; rw [← hW5, World.size_alloc]; omega
    go_wp2_with fail
    refine (T1.out _ B_5.out).mono ?_
    rintro e w6 ⟨gx1, rfl, hb, ho⟩
    have B_6 := Lib.hid (below_step B_5.out hb)
    have a0c0_6 := cell_kept a0c0_5 hb
    have a0c1_6 := cell_kept a0c1_5 hb
    have a0c2_6 := cell_kept a0c2_5 hb
    have a0c3_6 := cell_kept a0c3_5 hb
    have a1c0_6 := cell_kept a1c0_5 hb
    have a1c1_6 := cell_kept a1c1_5 hb
    have a1c2_6 := cell_kept a1c2_5 hb
    have a1c3_6 := cell_kept a1c3_5 hb
    have bx0c0_6 := cell_kept bx0c0_5 hb
    have bx0c1_6 := cell_kept bx0c1_5 hb
    have bx0c2_6 := cell_kept bx0c2_5 hb
    have bx0c3_6 := cell_kept bx0c3_5 hb
    have x0_6 := Lib.hid (x0_5.out.later hb)
    have S_6 : Hid (w5.heap.size ≤ w6.heap.size) := hb.size
    have x1_6 := Lib.hid ho
    clear hb ho B_5 a0c0_5 a0c1_5 a0c2_5 a0c3_5 a1c0_5 a1c1_5 a1c2_5 a1c3_5 bx0c0_5 bx0c1_5 bx0c2_5 bx0c3_5 x0_5
    have hb := below_box w6 (.cells #[.int .i64 e1, .int .i64 m1, .int .i64 j1, .slice (some ⟨gx1, 0, none⟩) n1 n1] 29)
    obtain ⟨hc0, hc1, hc2, hc3⟩ := board_cells w6 (e1) (m1) (j1) (.slice (some ⟨gx1, 0, none⟩) n1 n1) 29
    obtain ⟨w7, hW7⟩ : ∃ W, w6.alloc (.cells #[.int .i64 e1, .int .i64 m1, .int .i64 j1, .slice (some ⟨gx1, 0, none⟩) n1 n1] 29) = W := ⟨_, rfl⟩
    rw [hW7] at hb hc0 hc1 hc2 hc3
    have B_7 := Lib.hid (below_step B_6.out hb)
    have a0c0_7 := cell_kept a0c0_6 hb
    have a0c1_7 := cell_kept a0c1_6 hb
    have a0c2_7 := cell_kept a0c2_6 hb
    have a0c3_7 := cell_kept a0c3_6 hb
    have a1c0_7 := cell_kept a1c0_6 hb
    have a1c1_7 := cell_kept a1c1_6 hb
    have a1c2_7 := cell_kept a1c2_6 hb
    have a1c3_7 := cell_kept a1c3_6 hb
    have bx0c0_7 := cell_kept bx0c0_6 hb
    have bx0c1_7 := cell_kept bx0c1_6 hb
    have bx0c2_7 := cell_kept bx0c2_6 hb
    have bx0c3_7 := cell_kept bx0c3_6 hb
    have x0_7 := Lib.hid (x0_6.out.later hb)
    have x1_7 := Lib.hid (x1_6.out.later hb)
    have S_7 : Hid (w6.heap.size ≤ w7.heap.size) := hb.size
    have bx1c0_7 := hc0
    have bx1c1_7 := hc1
    have bx1c2_7 := hc2
    have bx1c3_7 := hc3
    clear hb hc0 hc1 hc2 hc3 B_6 a0c0_6 a0c1_6 a0c2_6 a0c3_6 a1c0_6 a1c1_6 a1c2_6 a1c3_6 bx0c0_6 bx0c1_6 bx0c2_6 bx0c3_6 x0_6 x1_6
    have Z_bx1 : Hid (w6.heap.size < w7.heap.size) := by show _ < _; rw [← hW7, World.size_alloc]; omega
    go_wp2_with fail
    refine (CI.out _ _ _ _ _ _ _ B_7.out x0_7.out x1_7.out).mono ?_
    rintro e w8 ⟨rfl, hb⟩
    have B_8 := Lib.hid (below_step B_7.out hb)
    have a0c0_8 := cell_kept a0c0_7 hb
    have a0c1_8 := cell_kept a0c1_7 hb
    have a0c2_8 := cell_kept a0c2_7 hb
    have a0c3_8 := cell_kept a0c3_7 hb
    have a1c0_8 := cell_kept a1c0_7 hb
    have a1c1_8 := cell_kept a1c1_7 hb
    have a1c2_8 := cell_kept a1c2_7 hb
    have a1c3_8 := cell_kept a1c3_7 hb
    have bx0c0_8 := cell_kept bx0c0_7 hb
    have bx0c1_8 := cell_kept bx0c1_7 hb
    have bx0c2_8 := cell_kept bx0c2_7 hb
    have bx0c3_8 := cell_kept bx0c3_7 hb
    have bx1c0_8 := cell_kept bx1c0_7 hb
    have bx1c1_8 := cell_kept bx1c1_7 hb
    have bx1c2_8 := cell_kept bx1c2_7 hb
    have bx1c3_8 := cell_kept bx1c3_7 hb
    have x0_8 := Lib.hid (x0_7.out.later hb)
    have x1_8 := Lib.hid (x1_7.out.later hb)
    have S_8 : Hid (w7.heap.size ≤ w8.heap.size) := hb.size
    clear hb B_7 a0c0_7 a0c1_7 a0c2_7 a0c3_7 a1c0_7 a1c1_7 a1c2_7 a1c3_7 bx0c0_7 bx0c1_7 bx0c2_7 bx0c3_7 bx1c0_7 bx1c1_7 bx1c2_7 bx1c3_7 x0_7 x1_7
    cases v
    all_goals
    go_wp2
    go_region_held3 (fun W => W.cell? ⟨w4.heap.size, 0, none⟩ = some (.int .i64 e0) ∧ W.cell? ⟨w4.heap.size, 1, none⟩ = some (.int .i64 m0) ∧ W.cell? ⟨w4.heap.size, 2, none⟩ = some (.int .i64 j0) ∧ W.cell? ⟨w4.heap.size, 3, none⟩ = some (.slice (some ⟨gx0, 0, none⟩) n0 n0) ∧ W.cell? ⟨w.heap.size, 0, none⟩ = some (.int .i64 e0) ∧ W.cell? ⟨w.heap.size, 1, none⟩ = some (.int .i64 m0) ∧ W.cell? ⟨w.heap.size, 2, none⟩ = some (.int .i64 j0) ∧ W.cell? ⟨w.heap.size, 3, none⟩ = some (.slice A0 n0 c0))
      (first | exact ⟨bx0c0_8, bx0c1_8, bx0c2_8, bx0c3_8, a0c0_8, a0c1_8, a0c2_8, a0c3_8⟩ | exact ⟨bx0c0_9, bx0c1_9, bx0c2_9, bx0c3_9, a0c0_9, a0c1_9, a0c2_9, a0c3_9⟩ | exact ⟨bx0c0_10, bx0c1_10, bx0c2_10, bx0c3_10, a0c0_10, a0c1_10, a0c2_10, a0c3_10⟩)
      (first
        | (go_at_call 17
           refine (T0.out _ B_8.out.drew).mono ?_
           rintro e w9 ⟨gz0, rfl, hb, ho⟩
           have B_9 := Lib.hid (below_step B_8.out.drew hb)
           have a0c0_9 := cell_kept (w := w8.drew) a0c0_8 hb
           have a0c1_9 := cell_kept (w := w8.drew) a0c1_8 hb
           have a0c2_9 := cell_kept (w := w8.drew) a0c2_8 hb
           have a0c3_9 := cell_kept (w := w8.drew) a0c3_8 hb
           have a1c0_9 := cell_kept (w := w8.drew) a1c0_8 hb
           have a1c1_9 := cell_kept (w := w8.drew) a1c1_8 hb
           have a1c2_9 := cell_kept (w := w8.drew) a1c2_8 hb
           have a1c3_9 := cell_kept (w := w8.drew) a1c3_8 hb
           have bx0c0_9 := cell_kept (w := w8.drew) bx0c0_8 hb
           have bx0c1_9 := cell_kept (w := w8.drew) bx0c1_8 hb
           have bx0c2_9 := cell_kept (w := w8.drew) bx0c2_8 hb
           have bx0c3_9 := cell_kept (w := w8.drew) bx0c3_8 hb
           have bx1c0_9 := cell_kept (w := w8.drew) bx1c0_8 hb
           have bx1c1_9 := cell_kept (w := w8.drew) bx1c1_8 hb
           have bx1c2_9 := cell_kept (w := w8.drew) bx1c2_8 hb
           have bx1c3_9 := cell_kept (w := w8.drew) bx1c3_8 hb
           have x0_9 := Lib.hid (x0_8.out.drew.later hb)
           have x1_9 := Lib.hid (x1_8.out.drew.later hb)
           have S_9 : Hid (w8.heap.size ≤ w9.heap.size) := hb.size
           have z0_9 := Lib.hid ho
           clear hb ho)
        | (go_at_call 19
           refine (Q0.out _ _ _ x0_9.out.wires z0_9.out.wires).mono ?_
           rintro e w10 ⟨rfl, hb⟩
           have B_10 := Lib.hid (below_step B_9.out hb)
           have a0c0_10 := cell_kept a0c0_9 hb
           have a0c1_10 := cell_kept a0c1_9 hb
           have a0c2_10 := cell_kept a0c2_9 hb
           have a0c3_10 := cell_kept a0c3_9 hb
           have a1c0_10 := cell_kept a1c0_9 hb
           have a1c1_10 := cell_kept a1c1_9 hb
           have a1c2_10 := cell_kept a1c2_9 hb
           have a1c3_10 := cell_kept a1c3_9 hb
           have bx0c0_10 := cell_kept bx0c0_9 hb
           have bx0c1_10 := cell_kept bx0c1_9 hb
           have bx0c2_10 := cell_kept bx0c2_9 hb
           have bx0c3_10 := cell_kept bx0c3_9 hb
           have bx1c0_10 := cell_kept bx1c0_9 hb
           have bx1c1_10 := cell_kept bx1c1_9 hb
           have bx1c2_10 := cell_kept bx1c2_9 hb
           have bx1c3_10 := cell_kept bx1c3_9 hb
           have x0_10 := Lib.hid (x0_9.out.later hb)
           have x1_10 := Lib.hid (x1_9.out.later hb)
           have z0_10 := Lib.hid (z0_9.out.later hb)
           have S_10 : Hid (w9.heap.size ≤ w10.heap.size) := hb.size
           clear hb))
    clear B_8 a0c0_8 a0c1_8 a0c2_8 a0c3_8 a1c0_8 a1c1_8 a1c2_8 a1c3_8 bx0c0_8 bx0c1_8 bx0c2_8 bx0c3_8 bx1c0_8 bx1c1_8 bx1c2_8 bx1c3_8 x0_8 x1_8 B_9 a0c0_9 a0c1_9 a0c2_9 a0c3_9 a1c0_9 a1c1_9 a1c2_9 a1c3_9 bx0c0_9 bx0c1_9 bx0c2_9 bx0c3_9 bx1c0_9 bx1c1_9 bx1c2_9 bx1c3_9 x0_9 x1_9 z0_9
    clear z0_10
    go_wp2
    go_region_held3 (fun W => W.cell? ⟨w6.heap.size, 0, none⟩ = some (.int .i64 e1) ∧ W.cell? ⟨w6.heap.size, 1, none⟩ = some (.int .i64 m1) ∧ W.cell? ⟨w6.heap.size, 2, none⟩ = some (.int .i64 j1) ∧ W.cell? ⟨w6.heap.size, 3, none⟩ = some (.slice (some ⟨gx1, 0, none⟩) n1 n1) ∧ W.cell? ⟨w.heap.size + 1, 0, none⟩ = some (.int .i64 e1) ∧ W.cell? ⟨w.heap.size + 1, 1, none⟩ = some (.int .i64 m1) ∧ W.cell? ⟨w.heap.size + 1, 2, none⟩ = some (.int .i64 j1) ∧ W.cell? ⟨w.heap.size + 1, 3, none⟩ = some (.slice A1 n1 c1))
      (first | exact ⟨bx1c0_10, bx1c1_10, bx1c2_10, bx1c3_10, a1c0_10, a1c1_10, a1c2_10, a1c3_10⟩ | exact ⟨bx1c0_11, bx1c1_11, bx1c2_11, bx1c3_11, a1c0_11, a1c1_11, a1c2_11, a1c3_11⟩ | exact ⟨bx1c0_12, bx1c1_12, bx1c2_12, bx1c3_12, a1c0_12, a1c1_12, a1c2_12, a1c3_12⟩)
      (first
        | (go_at_call 17
           refine (T1.out _ B_10.out.drew).mono ?_
           rintro e w11 ⟨gz1, rfl, hb, ho⟩
           have B_11 := Lib.hid (below_step B_10.out.drew hb)
           have a0c0_11 := cell_kept (w := w10.drew) a0c0_10 hb
           have a0c1_11 := cell_kept (w := w10.drew) a0c1_10 hb
           have a0c2_11 := cell_kept (w := w10.drew) a0c2_10 hb
           have a0c3_11 := cell_kept (w := w10.drew) a0c3_10 hb
           have a1c0_11 := cell_kept (w := w10.drew) a1c0_10 hb
           have a1c1_11 := cell_kept (w := w10.drew) a1c1_10 hb
           have a1c2_11 := cell_kept (w := w10.drew) a1c2_10 hb
           have a1c3_11 := cell_kept (w := w10.drew) a1c3_10 hb
           have bx0c0_11 := cell_kept (w := w10.drew) bx0c0_10 hb
           have bx0c1_11 := cell_kept (w := w10.drew) bx0c1_10 hb
           have bx0c2_11 := cell_kept (w := w10.drew) bx0c2_10 hb
           have bx0c3_11 := cell_kept (w := w10.drew) bx0c3_10 hb
           have bx1c0_11 := cell_kept (w := w10.drew) bx1c0_10 hb
           have bx1c1_11 := cell_kept (w := w10.drew) bx1c1_10 hb
           have bx1c2_11 := cell_kept (w := w10.drew) bx1c2_10 hb
           have bx1c3_11 := cell_kept (w := w10.drew) bx1c3_10 hb
           have x0_11 := Lib.hid (x0_10.out.drew.later hb)
           have x1_11 := Lib.hid (x1_10.out.drew.later hb)
           have S_11 : Hid (w10.heap.size ≤ w11.heap.size) := hb.size
           have z1_11 := Lib.hid ho
           clear hb ho)
        | (go_at_call 19
           refine (Q1.out _ _ _ x1_11.out.wires z1_11.out.wires).mono ?_
           rintro e w12 ⟨rfl, hb⟩
           have B_12 := Lib.hid (below_step B_11.out hb)
           have a0c0_12 := cell_kept a0c0_11 hb
           have a0c1_12 := cell_kept a0c1_11 hb
           have a0c2_12 := cell_kept a0c2_11 hb
           have a0c3_12 := cell_kept a0c3_11 hb
           have a1c0_12 := cell_kept a1c0_11 hb
           have a1c1_12 := cell_kept a1c1_11 hb
           have a1c2_12 := cell_kept a1c2_11 hb
           have a1c3_12 := cell_kept a1c3_11 hb
           have bx0c0_12 := cell_kept bx0c0_11 hb
           have bx0c1_12 := cell_kept bx0c1_11 hb
           have bx0c2_12 := cell_kept bx0c2_11 hb
           have bx0c3_12 := cell_kept bx0c3_11 hb
           have bx1c0_12 := cell_kept bx1c0_11 hb
           have bx1c1_12 := cell_kept bx1c1_11 hb
           have bx1c2_12 := cell_kept bx1c2_11 hb
           have bx1c3_12 := cell_kept bx1c3_11 hb
           have x0_12 := Lib.hid (x0_11.out.later hb)
           have x1_12 := Lib.hid (x1_11.out.later hb)
           have z1_12 := Lib.hid (z1_11.out.later hb)
           have S_12 : Hid (w11.heap.size ≤ w12.heap.size) := hb.size
           clear hb))
    clear B_10 a0c0_10 a0c1_10 a0c2_10 a0c3_10 a1c0_10 a1c1_10 a1c2_10 a1c3_10 bx0c0_10 bx0c1_10 bx0c2_10 bx0c3_10 bx1c0_10 bx1c1_10 bx1c2_10 bx1c3_10 x0_10 x1_10 B_11 a0c0_11 a0c1_11 a0c2_11 a0c3_11 a1c0_11 a1c1_11 a1c2_11 a1c3_11 bx0c0_11 bx0c1_11 bx0c2_11 bx0c3_11 bx1c0_11 bx1c1_11 bx1c2_11 bx1c3_11 x0_11 x1_11 z1_11
    clear z1_12
    go_wp2
    go_ret
    exact ⟨rfl, B_12.out⟩

theorem walk (e0 m0 j0 : Int) (A0 : Option Addr) (c0 : Nat) (P0 : List (Int × Int)) {y0 : World} (h0 : Wires y0 y0.heap.size A0 P0) (l0 : P0.length ≤ 9223372036854775807) (hw0 : (Lit.int .i64 e0).wf = true ∧ (Lit.int .i64 m0).wf = true ∧ (Lit.int .i64 j0).wf = true) (e1 m1 j1 : Int) (A1 : Option Addr) (c1 : Nat) (P1 : List (Int × Int)) {y1 : World} (h1 : Wires y1 y1.heap.size A1 P1) (l1 : P1.length ≤ 9223372036854775807) (hw1 : (Lit.int .i64 e1).wf = true ∧ (Lit.int .i64 m1).wf = true ∧ (Lit.int .i64 j1).wf = true) (w : World) (e0_ : y0 = w) (e1_ : y1 = w) :
    Calls Try.prog 4 #[.agg #[.int .i64 e0, .int .i64 m0, .int .i64 j0, .slice A0 P0.length c0], .agg #[.int .i64 e1, .int .i64 m1, .int .i64 j1, .slice A1 P1.length c1]] w fun e w' => e = .returned (.bool true) ∧ Below w.heap.size w w' := by
  subst e0_
  subst e1_
  by_cases hb0 : 1048576 < (P0.length : Int)
  · exact walk_big0 e0 m0 j0 A0 c0 P0 e1 m1 j1 A1 c1 P1 _ h0 l0  hb0
  have hs0 : (P0.length : Int) ≤ 1048576 := by omega
  by_cases hb1 : 1048576 < (P0.length : Int) + (P1.length : Int)
  · exact walk_big1 e0 m0 j0 A0 c0 P0 e1 m1 j1 A1 c1 P1 _ h0 h1 l1 hs0 hb1
  have hs1 : (P0.length : Int) + (P1.length : Int) ≤ 1048576 := by omega
  have hm0 : P0.length ≤ 1048576 := by omega
  have hm1 : P1.length ≤ 1048576 := by omega
  have hwb0 := wide_of hw0
  have hwb1 := wide_of hw1
  refine walk_small e0 m0 j0 A0 c0 P0 e1 m1 j1 A1 c1 P1 (sameBV e0 m0 j0 P0 e1 m1 j1 P1) _ h0 h1 hs1 (fun W A0 B0 A1 B1 hW hP0 hB0 hP1 hB1 => ?_) (fun W A0 B0 A1 B1 hW hP0 hB0 hP1 hB1 => ?_)
  · exact specSameBoard_any e0 m0 j0 A0 P0.length P0 e1 m1 j1 A1 P1.length P1 B0 B1 W hP0 hP1 hB0 hB1 hm0 hm1
  · exact implSameBoard_any e0 m0 j0 A0 P0.length P0 e1 m1 j1 A1 P1.length P1 B0 B1 W hP0 hP1 hB0 hB1 hm0 hm1

set_option maxRecDepth 100000 in
theorem lifted (os : Os) (started : os.Started) (H : Type) (enc : TypeId × Value → H) :
    ReturnsInHanded {} Try.checked os 4 .any (Rows.fnExactSameBoardSpec.pre6 enc Try.prog Try.f4 Rows.fnExactSameBoardRow.domain false) (Rows.fnExactSameBoardSpec.post enc Try.prog Try.f4 false true false false) := by
  refine returnsInHanded_of_change (C := Try.checked) own started (by kernel_rfl) Try.func4
    (ChangeSpec.witness6 (enc := enc) (C := Try.checked) false ⟨#[], #[.agg #[.int .i64 0, .int .i64 0, .int .i64 0, .slice none 0 0], .agg #[.int .i64 0, .int .i64 0, .int .i64 0, .slice none 0 0]], []⟩ 8 (by kernel_rfl) (by kernel_rfl) (by kernel_rfl) (by kernel_rfl)) ?_
  intro W base args ds gs before hval0 hW _ _
  have hval : ∀ (j : Nat) t v, Try.f4.params[j]? = some t → args[j]? = some v → Value.okWide Try.prog W .any base t v := hval0
  have hW' := hW
  obtain ⟨p, q, hA0, hV, rfl, _, _⟩ := hW
  have hA : DataW.TrodAll enc Try.prog W 0 (fun _ => true) true Try.f4.params.toList args.toList ds p := hA0
  rw [Try.params4] at hA hval
  obtain ⟨v0, vs0, d0, ds0, p0, q0, hargs, rfl, rfl, h0, r0⟩ := trodAll_cons hA
  obtain ⟨v1, vs1, d1, ds1, p1, q1, rfl, rfl, rfl, h1, r1⟩ := trodAll_cons r0
  obtain ⟨rfl, rfl, rfl⟩ := trodAll_nil r1
  obtain rfl : args = #[v0, v1] := by cases args; simp_all
  obtain ⟨rfl, rfl⟩ := trodVars_none hV
  obtain ⟨e0, m0, j0, A0, c0, P0, rfl, i0, l0, w0⟩ := open_board (hval 0 24 v0 rfl rfl) h0
  obtain ⟨e1, m1, j1, A1, c1, P1, rfl, i1, l1, w1⟩ := open_board (hval 1 24 v1 rfl rfl) h1
  refine (walk e0 m0 j0 A0 c0 P0 i0 l0 w0 e1 m1 j1 A1 c1 P1 i1 l1 w1 W rfl rfl).mono fun e W' ⟨he, hb⟩ => ?_
  subst he
  refine ⟨_, rfl, law_post hW' rfl rfl ?_ rfl rfl rfl hb⟩
  intro t ht
  rw [Try.params4] at ht
  obtain rfl : t = 24 := by simpa using ht
  exact ⟨by kernel_rfl, of_decide_eq_true (by kernel_rfl)⟩

theorem over : Rows.fnExactSameBoardRow.holds Try.pinned (OpenSpec.ofChange Rows.fnExactSameBoardSpec) :=
  OpenClaim.holds_of_wide 4 Try.f4 rfl rfl rfl rfl rfl rfl rfl ⟨rfl, rfl, rfl, rfl, rfl⟩ rfl rfl rfl rfl rfl (by kernel_rfl) Try.func4 (by kernel_rfl)
    (of_decide_eq_true (by kernel_rfl)) (by unfold Func.isWrapper; first | (rw [if_pos (by decide +kernel)]; kernel_rfl) | (rw [if_neg (by decide +kernel)]; exact ⟨rfl, rfl⟩))
    (fun os started H enc _ => lifted os started H enc)

theorem proved : Rows.FnExactSameBoardSaid :=
  over
end Go.Proofs.Ytpklmhffgbgakaa.fnExactSameBoard
