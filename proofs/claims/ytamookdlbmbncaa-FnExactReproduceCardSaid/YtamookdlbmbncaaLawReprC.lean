/- For every card, list of copies and number of columns, the law FnExactReproduceCard returns true: impl.ReproduceCard answers as spec.ReproduceCard, in memory of its own, and leaves its arguments as it was. Conditions: none. -/
import Derived.Test.YtamookdlbmbncaaReprK
import Derived.Test.YtamookdlbmbncaaLaw
import Derived.Test.YtamookdlbmbncaaBoxed
import Derived.Test.YtamookdlbmbncaaCardAt
import Derived.Deep.RegionHeld3
import Derived.Deep.DeepCutAuto
import Derived.Laws.NewDeep
import Derived.Test.YtamookdlbmbncaaCopyMem
namespace Go.Proofs.Ytamookdlbmbncaa.fnExactReproduceCard
open Go.ChangeShapes Go.WideShapes Go.ChangeAt Go.RowKit

theorem walk_big0 (A0 : Option Addr) (c0 : Nat) (X0 : List Int) (A1 : Option Addr) (c1 : Nat) (P1 : List (Int × Int)) (x2 : Int) (w : World) (h0 : Ints w w.heap.size A0 X0) (l0 : X0.length ≤ 9223372036854775807)  (hbig : 1048576 < (X0.length : Int)) :
    Calls Try.prog 4 #[.agg #[.slice A0 X0.length c0], .slice A1 P1.length c1, .int .i64 x2] w fun e w' => e = .returned (.bool true) ∧ Below w.heap.size w w' := by
  have z0 := fun (W : World) (_ : Below w.heap.size w W) => szCard_any A0 X0.length c0 (1048576) W (by omega) (by omega) (by omega)
  have e0 : (if (1048576) < (X0.length : Int) then (-1 : Int) else 1048576 - X0.length) = -1 := if_pos (by omega)
  simp only [e0] at z0
  clear e0
  obtain ⟨n0, hn0⟩ : ∃ n, X0.length = n := ⟨_, rfl⟩
  rw [hn0] at hbig
  simp only [hn0] at z0 ⊢
  have Z0 := Lib.hid z0
  clear z0 hn0 h0 l0
  go_enter Try.func4, Try.ntmps4
  go_wp2_with fail
  refine (Z0.out _ (below_box w _)).mono ?_
  rintro e w1 ⟨rfl, hb⟩
  have B_1 := Lib.hid (below_step (below_box w _) hb)
  have a0_1 := cell_kept (p := ⟨w.heap.size, 0, none⟩) (v := .slice A0 n0 c0) (by simp [go_sem]) hb
  have S_1 : Hid (w.heap.size + 1 ≤ w1.heap.size) := by show _ ≤ _; have := hb.size; simpa using this
  clear hb
  go_wp2
  go_ret
  exact ⟨rfl, B_1.out⟩

theorem walk_big1 (A0 : Option Addr) (c0 : Nat) (X0 : List Int) (A1 : Option Addr) (c1 : Nat) (P1 : List (Int × Int)) (x2 : Int) (w : World) (h0 : Ints w w.heap.size A0 X0) (h1 : Copies w w.heap.size A1 P1) (l1 : P1.length ≤ 9223372036854775807) (hs : (X0.length : Int) ≤ 1048576) (hbig : 1048576 < (X0.length : Int) + (P1.length : Int)) :
    Calls Try.prog 4 #[.agg #[.slice A0 X0.length c0], .slice A1 P1.length c1, .int .i64 x2] w fun e w' => e = .returned (.bool true) ∧ Below w.heap.size w w' := by
  have z0 := fun (W : World) (_ : Below w.heap.size w W) => szCard_any A0 X0.length c0 (1048576) W (by omega) (by omega) (by omega)
  have e0 : (if (1048576) < (X0.length : Int) then (-1 : Int) else 1048576 - X0.length) = 1048576 - X0.length := if_neg (by omega)
  simp only [e0] at z0
  clear e0
  have z1 := fun (W : World) (_ : Below w.heap.size w W) => szCopies_any A1 P1.length c1 (1048576 - (X0.length : Int)) W (by omega) (by omega) (by omega)
  have e1 : (if (1048576 - (X0.length : Int)) < (P1.length : Int) then (-1 : Int) else 1048576 - (X0.length : Int) - P1.length) = -1 := if_pos (by omega)
  simp only [e1] at z1
  clear e1
  obtain ⟨n0, hn0⟩ : ∃ n, X0.length = n := ⟨_, rfl⟩
  rw [hn0] at hbig hs
  simp only [hn0] at z0 z1 ⊢
  obtain ⟨n1, hn1⟩ : ∃ n, P1.length = n := ⟨_, rfl⟩
  rw [hn1] at hbig
  simp only [hn1] at z1 ⊢
  have Z0 := Lib.hid z0
  have Z1 := Lib.hid z1
  have g0 : ¬ 1048576 - (n0 : Int) < 0 := by omega
  clear z0 z1 hn0 hn1 h0 h1 l1
  go_enter Try.func4, Try.ntmps4
  go_wp2_with fail
  refine (Z0.out _ (below_box w _)).mono ?_
  rintro e w1 ⟨rfl, hb⟩
  have B_1 := Lib.hid (below_step (below_box w _) hb)
  have a0_1 := cell_kept (p := ⟨w.heap.size, 0, none⟩) (v := .slice A0 n0 c0) (by simp [go_sem]) hb
  have S_1 : Hid (w.heap.size + 1 ≤ w1.heap.size) := by show _ ≤ _; have := hb.size; simpa using this
  clear hb
  go_wp2_with fail
  refine (Z1.out _ B_1.out).mono ?_
  rintro e w2 ⟨rfl, rfl⟩
  go_wp2
  go_ret
  exact ⟨rfl, B_1.out⟩

set_option maxRecDepth 100000 in
set_option maxHeartbeats 8000000 in
theorem walk_small (A0 : Option Addr) (c0 : Nat) (X0 : List Int) (A1 : Option Addr) (c1 : Nat) (P1 : List (Int × Int)) (x2 : Int) (X : List Int) (v : Int) (w : World) (h0 : Ints w w.heap.size A0 X0) (h1 : Copies w w.heap.size A1 P1) (hs : (X0.length : Int) + (P1.length : Int) ≤ 1048576) (hx : X.length ≤ 1048576)
    (hv : ∀ (W : World) (A0 : Option Addr) (B0 : Nat) (A1 : Option Addr) (B1 : Nat), Below w.heap.size w W → Ints W B0 A0 X0 → B0 ≤ W.heap.size → Copies W B1 A1 P1 → B1 ≤ W.heap.size → Calls Try.prog 18 #[.agg #[.slice A0 X0.length X0.length], .slice A1 P1.length P1.length, .int .i64 x2] W (GivesKC X v W))
    (hi : ∀ (W : World) (A0 : Option Addr) (B0 : Nat) (A1 : Option Addr) (B1 : Nat), Below w.heap.size w W → Ints W B0 A0 X0 → B0 ≤ W.heap.size → Copies W B1 A1 P1 → B1 ≤ W.heap.size → Calls Try.prog 20 #[.agg #[.slice A0 X0.length X0.length], .slice A1 P1.length P1.length, .int .i64 x2] W (GivesKC X v W)) :
    Calls Try.prog 4 #[.agg #[.slice A0 X0.length c0], .slice A1 P1.length c1, .int .i64 x2] w fun e w' => e = .returned (.bool true) ∧ Below w.heap.size w w' := by
  have z0 := fun (W : World) (_ : Below w.heap.size w W) => szCard_any A0 X0.length c0 (1048576) W (by omega) (by omega) (by omega)
  have e0 : (if (1048576) < (X0.length : Int) then (-1 : Int) else 1048576 - X0.length) = 1048576 - X0.length := if_neg (by omega)
  simp only [e0] at z0
  clear e0
  have hm0 : X0.length ≤ 1048576 := by omega
  have t0 := fun W (hW : Below w.heap.size w W) => toCardAt_any A0 c0 X0 w.heap.size W (h0.below hW) hW.size hm0
  have q0 := fun A A' W (hA : Ints W W.heap.size A X0) (hA' : Ints W W.heap.size A' X0) => eqCardAt_any A A' X0.length X0.length X0 W hA hA' hm0
  have r0 := fun A lo hi W (k : Int) (h0 : 0 ≤ k) (h1 : k ≤ 4194304) (hA : IAt W lo hi A X0) => markCardAt_any A X0.length X0 lo hi k W hA h0 h1 hm0
  have z1 := fun (W : World) (_ : Below w.heap.size w W) => szCopies_any A1 P1.length c1 (1048576 - (X0.length : Int)) W (by omega) (by omega) (by omega)
  have e1 : (if (1048576 - (X0.length : Int)) < (P1.length : Int) then (-1 : Int) else 1048576 - (X0.length : Int) - P1.length) = 1048576 - (X0.length : Int) - P1.length := if_neg (by omega)
  simp only [e1] at z1
  clear e1
  have hm1 : P1.length ≤ 1048576 := by omega
  have t1 := fun W (hW : Below w.heap.size w W) => toCopiesAt_any A1 c1 P1 w.heap.size W (h1.below hW) hW.size hm1
  have q1 := fun A A' W (hA : Copies W W.heap.size A P1) (hA' : Copies W W.heap.size A' P1) => eqCopies_same A A' P1.length P1.length P1 W.heap.size W.heap.size W hA hA' (Nat.le_refl _) (Nat.le_refl _) hm1
  have r1 := fun A lo hi W (k : Int) (h0 : 0 ≤ k) (h1 : k ≤ 4194304) (hA : QAt W lo hi A P1) => markCopies_any A P1.length P1 lo hi k W hA h0 h1 hm1
  have xe := fun A A' c c' W h h' => eqCardAt_any A A' c c' X W h h' hx
  have xm := fun A c lo hi W (h : IAt W lo hi A X) => markCardAt_any A c X lo hi 1 W h (by omega) (by omega) hx
  have xh := fun A c lo hi W (h : IAt W lo hi A (marks 1 X.length)) => heldCardAt_any A c X lo hi 1 W h (by omega) (by omega) hx
  have gx : ¬ 1 + (X.length : Int) < 0 := by omega
  obtain ⟨nX, hnX⟩ : ∃ n, X.length = n := ⟨_, rfl⟩
  have cv : ∀ (W : World) (g0 lo0 hi0 : Nat) (g1 lo1 hi1 : Nat), Below w.heap.size w W → IAt W lo0 hi0 (some ⟨g0, 0, none⟩) X0 → QAt W lo1 hi1 (some ⟨g1, 0, none⟩) P1 → Calls Try.prog 18 #[.agg #[.slice (some ⟨g0, 0, none⟩) X0.length X0.length], .slice (some ⟨g1, 0, none⟩) P1.length P1.length, .int .i64 x2] W (GivesKC X v W) := fun W g0 lo0 hi0 g1 lo1 hi1 hW hO0 hO1 => by
    have := hv W (some ⟨g0, 0, none⟩) W.heap.size (some ⟨g1, 0, none⟩) W.heap.size hW hO0.ints (Nat.le_refl _) hO1.copies (Nat.le_refl _)
    exact this
  have ci : ∀ (W : World) (g0 lo0 hi0 : Nat) (g1 lo1 hi1 : Nat), Below w.heap.size w W → IAt W lo0 hi0 (some ⟨g0, 0, none⟩) X0 → QAt W lo1 hi1 (some ⟨g1, 0, none⟩) P1 → Calls Try.prog 20 #[.agg #[.slice (some ⟨g0, 0, none⟩) X0.length X0.length], .slice (some ⟨g1, 0, none⟩) P1.length P1.length, .int .i64 x2] W (GivesKC X v W) := fun W g0 lo0 hi0 g1 lo1 hi1 hW hO0 hO1 => by
    have := hi W (some ⟨g0, 0, none⟩) W.heap.size (some ⟨g1, 0, none⟩) W.heap.size hW hO0.ints (Nat.le_refl _) hO1.copies (Nat.le_refl _)
    exact this
  unfold GivesKC at cv ci
  simp only [hnX] at xe xm xh gx cv ci
  obtain ⟨n0, hn0⟩ : ∃ n, X0.length = n := ⟨_, rfl⟩
  simp only [hn0] at z0 z1 t0 q0 r0 cv ci hs ⊢
  obtain ⟨n1, hn1⟩ : ∃ n, P1.length = n := ⟨_, rfl⟩
  simp only [hn1] at z1 t1 q1 r1 cv ci hs ⊢
  have Z0 := Lib.hid z0
  have T0 := Lib.hid t0
  have Q0 := Lib.hid q0
  have R0 := Lib.hid r0
  have Z1 := Lib.hid z1
  have T1 := Lib.hid t1
  have Q1 := Lib.hid q1
  have R1 := Lib.hid r1
  have XE := Lib.hid xe
  have XM := Lib.hid xm
  have XH := Lib.hid xh
  have CV := Lib.hid cv
  have CI := Lib.hid ci
  have g0 : ¬ 1048576 - (n0 : Int) < 0 := by omega
  have g1 : ¬ 1048576 - (n0 : Int) - (n1 : Int) < 0 := by omega
  have kb0 : 0 ≤ (1 : Int) ∧ (1 : Int) ≤ 4194304 := by omega
  have kb1 : 0 ≤ 1 + (n0 : Int) ∧ 1 + (n0 : Int) ≤ 4194304 := by omega
  have gk : ¬ 1 + (n0 : Int) + 2 * (n1 : Int) < 0 := by omega
  clear cv ci hv hi xe xm xh hnX z0 t0 q0 r0 hn0 h0 hm0 z1 t1 q1 r1 hn1 h1 hm1
  go_enter Try.func4, Try.ntmps4
  go_wp2_with fail
  refine (Z0.out _ (below_box w _)).mono ?_
  rintro e w1 ⟨rfl, hb⟩
  have B_1 := Lib.hid (below_step (below_box w _) hb)
  have a0_1 := cell_kept (p := ⟨w.heap.size, 0, none⟩) (v := .slice A0 n0 c0) (by simp [go_sem]) hb
  have S_1 : Hid (w.heap.size + 1 ≤ w1.heap.size) := by show _ ≤ _; have := hb.size; simpa using this
  clear hb
  go_wp2_with fail
  refine (Z1.out _ B_1.out).mono ?_
  rintro e w2 ⟨rfl, rfl⟩
  go_wp2_with fail
  refine (T0.out _ B_1.out).mono ?_
  rintro e w2 ⟨gw0, rfl, hb, ho⟩
  have B_2 := Lib.hid (below_step B_1.out hb)
  have a0_2 := cell_kept a0_1 hb
  have S_2 : Hid (w1.heap.size ≤ w2.heap.size) := hb.size
  have w0_2 := Lib.hid ho
  clear hb ho B_1 a0_1
  go_wp2_with fail
  refine (T1.out _ B_2.out).mono ?_
  rintro e w3 ⟨gw1, rfl, hb, ho⟩
  have B_3 := Lib.hid (below_step B_2.out hb)
  have a0_3 := cell_kept a0_2 hb
  have w0_3 := Lib.hid (w0_2.out.later hb)
  have S_3 : Hid (w2.heap.size ≤ w3.heap.size) := hb.size
  have w1_3 := Lib.hid ho
  clear hb ho B_2 a0_2 w0_2
  go_wp2_with fail
  refine (CV.out _ _ _ _ _ _ _ B_3.out w0_3.out w1_3.out).mono ?_
  rintro e w4 ⟨AW, cW, rfl, hb, ho⟩
  have B_4 := Lib.hid (below_step B_3.out hb)
  have a0_4 := cell_kept a0_3 hb
  have w0_4 := Lib.hid (w0_3.out.later hb)
  have w1_4 := Lib.hid (w1_3.out.later hb)
  have S_4 : Hid (w3.heap.size ≤ w4.heap.size) := hb.size
  have W_4 := Lib.hid ho
  clear hb ho B_3 a0_3 w0_3 w1_3
  have hb := below_box w4 (.cells #[.slice AW nX cW] 33)
  have hc := new_cell w4 (.slice AW nX cW) 33
  obtain ⟨w5, hW5⟩ : ∃ W, w4.alloc (.cells #[.slice AW nX cW] 33) = W := ⟨_, rfl⟩
  rw [hW5] at hb hc
  have B_5 := Lib.hid (below_step B_4.out hb)
  have a0_5 := cell_kept a0_4 hb
  have w0_5 := Lib.hid (w0_4.out.later hb)
  have w1_5 := Lib.hid (w1_4.out.later hb)
  have W_5 := Lib.hid (W_4.out.later hb)
  have S_5 : Hid (w4.heap.size ≤ w5.heap.size) := hb.size
  have bW_5 := hc
  clear hb hc B_4 a0_4 w0_4 w1_4 W_4
  have Z_bW : Hid (w4.heap.size < w5.heap.size) := by show _ < _; rw [← hW5, World.size_alloc]; omega
  clear w0_5
  clear w1_5
  go_wp2_with fail
  refine (T0.out _ B_5.out).mono ?_
  rintro e w6 ⟨gx0, rfl, hb, ho⟩
  have B_6 := Lib.hid (below_step B_5.out hb)
  have a0_6 := cell_kept a0_5 hb
  have bW_6 := cell_kept bW_5 hb
  have W_6 := Lib.hid (W_5.out.later hb)
  have S_6 : Hid (w5.heap.size ≤ w6.heap.size) := hb.size
  have x0_6 := Lib.hid ho
  clear hb ho B_5 a0_5 bW_5 W_5
  have hb := below_box w6 (.cells #[.slice (some ⟨gx0, 0, none⟩) n0 n0] 33)
  have hc := new_cell w6 (.slice (some ⟨gx0, 0, none⟩) n0 n0) 33
  obtain ⟨w7, hW7⟩ : ∃ W, w6.alloc (.cells #[.slice (some ⟨gx0, 0, none⟩) n0 n0] 33) = W := ⟨_, rfl⟩
  rw [hW7] at hb hc
  have B_7 := Lib.hid (below_step B_6.out hb)
  have a0_7 := cell_kept a0_6 hb
  have bW_7 := cell_kept bW_6 hb
  have W_7 := Lib.hid (W_6.out.later hb)
  have x0_7 := Lib.hid (x0_6.out.later hb)
  have S_7 : Hid (w6.heap.size ≤ w7.heap.size) := hb.size
  have bx0_7 := hc
  clear hb hc B_6 a0_6 bW_6 W_6 x0_6
  have Z_bx0 : Hid (w6.heap.size < w7.heap.size) := by show _ < _; rw [← hW7, World.size_alloc]; omega
  go_wp2_with fail
  refine (T1.out _ B_7.out).mono ?_
  rintro e w8 ⟨gx1, rfl, hb, ho⟩
  have B_8 := Lib.hid (below_step B_7.out hb)
  have a0_8 := cell_kept a0_7 hb
  have bW_8 := cell_kept bW_7 hb
  have bx0_8 := cell_kept bx0_7 hb
  have W_8 := Lib.hid (W_7.out.later hb)
  have x0_8 := Lib.hid (x0_7.out.later hb)
  have S_8 : Hid (w7.heap.size ≤ w8.heap.size) := hb.size
  have x1_8 := Lib.hid ho
  clear hb ho B_7 a0_7 bW_7 bx0_7 W_7 x0_7
  go_wp2_with fail
  refine (CI.out _ _ _ _ _ _ _ B_8.out x0_8.out x1_8.out).mono ?_
  rintro e w9 ⟨AG, cG, rfl, hb, ho⟩
  have B_9 := Lib.hid (below_step B_8.out hb)
  have a0_9 := cell_kept a0_8 hb
  have bW_9 := cell_kept bW_8 hb
  have bx0_9 := cell_kept bx0_8 hb
  have W_9 := Lib.hid (W_8.out.later hb)
  have x0_9 := Lib.hid (x0_8.out.later hb)
  have x1_9 := Lib.hid (x1_8.out.later hb)
  have S_9 : Hid (w8.heap.size ≤ w9.heap.size) := hb.size
  have G_9 := Lib.hid ho
  clear hb ho B_8 a0_8 bW_8 bx0_8 W_8 x0_8 x1_8
  have hb := below_box w9 (.cells #[.slice AG nX cG] 33)
  have hc := new_cell w9 (.slice AG nX cG) 33
  obtain ⟨w10, hW10⟩ : ∃ W, w9.alloc (.cells #[.slice AG nX cG] 33) = W := ⟨_, rfl⟩
  rw [hW10] at hb hc
  have B_10 := Lib.hid (below_step B_9.out hb)
  have a0_10 := cell_kept a0_9 hb
  have bW_10 := cell_kept bW_9 hb
  have bx0_10 := cell_kept bx0_9 hb
  have W_10 := Lib.hid (W_9.out.later hb)
  have x0_10 := Lib.hid (x0_9.out.later hb)
  have x1_10 := Lib.hid (x1_9.out.later hb)
  have G_10 := Lib.hid (G_9.out.later hb)
  have S_10 : Hid (w9.heap.size ≤ w10.heap.size) := hb.size
  have bG_10 := hc
  clear hb hc B_9 a0_9 bW_9 bx0_9 W_9 x0_9 x1_9 G_9
  have Z_bG : Hid (w9.heap.size < w10.heap.size) := by show _ < _; rw [← hW10, World.size_alloc]; omega
  go_wp2_with fail
  refine (XE.out _ _ _ _ _ G_10.out.ints W_10.out.ints).mono ?_
  rintro e w11 ⟨rfl, hb⟩
  have B_11 := Lib.hid (below_step B_10.out hb)
  have a0_11 := cell_kept a0_10 hb
  have bW_11 := cell_kept bW_10 hb
  have bx0_11 := cell_kept bx0_10 hb
  have bG_11 := cell_kept bG_10 hb
  have W_11 := Lib.hid (W_10.out.later hb)
  have x0_11 := Lib.hid (x0_10.out.later hb)
  have x1_11 := Lib.hid (x1_10.out.later hb)
  have G_11 := Lib.hid (G_10.out.later hb)
  have S_11 : Hid (w10.heap.size ≤ w11.heap.size) := hb.size
  clear hb B_10 a0_10 bW_10 bx0_10 bG_10 W_10 x0_10 x1_10 G_10
  go_wp2
  go_region_held3 (fun W => W.cell? ⟨w6.heap.size, 0, none⟩ = some (.slice (some ⟨gx0, 0, none⟩) n0 n0) ∧ W.cell? ⟨w.heap.size, 0, none⟩ = some (.slice A0 n0 c0))
    (first | exact ⟨bx0_11, a0_11⟩ | exact ⟨bx0_12, a0_12⟩ | exact ⟨bx0_13, a0_13⟩)
    (first
      | (go_at_call 19
         refine (T0.out _ B_11.out.drew).mono ?_
         rintro e w12 ⟨gz0, rfl, hb, ho⟩
         have B_12 := Lib.hid (below_step B_11.out.drew hb)
         have a0_12 := cell_kept (w := w11.drew) a0_11 hb
         have bW_12 := cell_kept (w := w11.drew) bW_11 hb
         have bx0_12 := cell_kept (w := w11.drew) bx0_11 hb
         have bG_12 := cell_kept (w := w11.drew) bG_11 hb
         have W_12 := Lib.hid (W_11.out.drew.later hb)
         have x0_12 := Lib.hid (x0_11.out.drew.later hb)
         have x1_12 := Lib.hid (x1_11.out.drew.later hb)
         have G_12 := Lib.hid (G_11.out.drew.later hb)
         have S_12 : Hid (w11.heap.size ≤ w12.heap.size) := hb.size
         have z0_12 := Lib.hid ho
         clear hb ho)
      | (go_at_call 21
         refine (Q0.out _ _ _ x0_12.out.ints z0_12.out.ints).mono ?_
         rintro e w13 ⟨rfl, hb⟩
         have B_13 := Lib.hid (below_step B_12.out hb)
         have a0_13 := cell_kept a0_12 hb
         have bW_13 := cell_kept bW_12 hb
         have bx0_13 := cell_kept bx0_12 hb
         have bG_13 := cell_kept bG_12 hb
         have W_13 := Lib.hid (W_12.out.later hb)
         have x0_13 := Lib.hid (x0_12.out.later hb)
         have x1_13 := Lib.hid (x1_12.out.later hb)
         have G_13 := Lib.hid (G_12.out.later hb)
         have z0_13 := Lib.hid (z0_12.out.later hb)
         have S_13 : Hid (w12.heap.size ≤ w13.heap.size) := hb.size
         clear hb))
  clear B_11 a0_11 bW_11 bx0_11 bG_11 W_11 x0_11 x1_11 G_11 B_12 a0_12 bW_12 bx0_12 bG_12 W_12 x0_12 x1_12 G_12 z0_12
  clear z0_13
  go_wp2_with fail
  refine (T1.out _ B_13.out).mono ?_
  rintro e w14 ⟨gz1, rfl, hb, ho⟩
  have B_14 := Lib.hid (below_step B_13.out hb)
  have a0_14 := cell_kept a0_13 hb
  have bW_14 := cell_kept bW_13 hb
  have bx0_14 := cell_kept bx0_13 hb
  have bG_14 := cell_kept bG_13 hb
  have W_14 := Lib.hid (W_13.out.later hb)
  have x0_14 := Lib.hid (x0_13.out.later hb)
  have x1_14 := Lib.hid (x1_13.out.later hb)
  have G_14 := Lib.hid (G_13.out.later hb)
  have S_14 : Hid (w13.heap.size ≤ w14.heap.size) := hb.size
  have z1_14 := Lib.hid ho
  clear hb ho B_13 a0_13 bW_13 bx0_13 bG_13 W_13 x0_13 x1_13 G_13
  go_wp2_with fail
  refine (Q1.out _ _ _ x1_14.out.copies z1_14.out.copies).mono ?_
  rintro e w15 ⟨rfl, hb⟩
  have B_15 := Lib.hid (below_step B_14.out hb)
  have a0_15 := cell_kept a0_14 hb
  have bW_15 := cell_kept bW_14 hb
  have bx0_15 := cell_kept bx0_14 hb
  have bG_15 := cell_kept bG_14 hb
  have W_15 := Lib.hid (W_14.out.later hb)
  have x0_15 := Lib.hid (x0_14.out.later hb)
  have x1_15 := Lib.hid (x1_14.out.later hb)
  have G_15 := Lib.hid (G_14.out.later hb)
  have z1_15 := Lib.hid (z1_14.out.later hb)
  have S_15 : Hid (w14.heap.size ≤ w15.heap.size) := hb.size
  clear hb B_14 a0_14 bW_14 bx0_14 bG_14 W_14 x0_14 x1_14 G_14 z1_14
  clear z1_15
  go_wp2_with fail
  refine (R0.out _ _ _ _ _ kb0.1 kb0.2 x0_15.out).mono ?_
  rintro e w16 ⟨rfl, hw, hrow⟩
  have B_16 := Lib.hid (below_within B_15.out hw (by have z1 := S_1.out; have z2 := S_2.out; have z3 := S_3.out; have z4 := S_4.out; have z5 := S_5.out; have z6 := S_6.out; have z7 := S_7.out; have z8 := S_8.out; have z9 := S_9.out; have z10 := S_10.out; have z11 := S_11.out; have z12 := S_12.out; have z13 := S_13.out; have z14 := S_14.out; have z15 := S_15.out; omega))
  have a0_16 := hw.cell a0_15 (by show w.heap.size < _ ∨ _ ≤ w.heap.size; have z1 := S_1.out; have z2 := S_2.out; have z3 := S_3.out; have z4 := S_4.out; have z5 := S_5.out; have z6 := S_6.out; have z7 := S_7.out; have z8 := S_8.out; have z9 := S_9.out; have z10 := S_10.out; have z11 := S_11.out; have z12 := S_12.out; have z13 := S_13.out; have z14 := S_14.out; have z15 := S_15.out; omega)
  have bW_16 := hw.cell bW_15 (by show w4.heap.size < _ ∨ _ ≤ w4.heap.size; have zz := Z_bW.out; have z1 := S_1.out; have z2 := S_2.out; have z3 := S_3.out; have z4 := S_4.out; have z5 := S_5.out; have z6 := S_6.out; have z7 := S_7.out; have z8 := S_8.out; have z9 := S_9.out; have z10 := S_10.out; have z11 := S_11.out; have z12 := S_12.out; have z13 := S_13.out; have z14 := S_14.out; have z15 := S_15.out; omega)
  have bx0_16 := hw.cell bx0_15 (by show w6.heap.size < _ ∨ _ ≤ w6.heap.size; have zz := Z_bx0.out; have z1 := S_1.out; have z2 := S_2.out; have z3 := S_3.out; have z4 := S_4.out; have z5 := S_5.out; have z6 := S_6.out; have z7 := S_7.out; have z8 := S_8.out; have z9 := S_9.out; have z10 := S_10.out; have z11 := S_11.out; have z12 := S_12.out; have z13 := S_13.out; have z14 := S_14.out; have z15 := S_15.out; omega)
  have bG_16 := hw.cell bG_15 (by show w9.heap.size < _ ∨ _ ≤ w9.heap.size; have zz := Z_bG.out; have z1 := S_1.out; have z2 := S_2.out; have z3 := S_3.out; have z4 := S_4.out; have z5 := S_5.out; have z6 := S_6.out; have z7 := S_7.out; have z8 := S_8.out; have z9 := S_9.out; have z10 := S_10.out; have z11 := S_11.out; have z12 := S_12.out; have z13 := S_13.out; have z14 := S_14.out; have z15 := S_15.out; omega)
  have W_16 := Lib.hid (W_15.out.within hw (Or.inl (by have z1 := S_1.out; have z2 := S_2.out; have z3 := S_3.out; have z4 := S_4.out; have z5 := S_5.out; have z6 := S_6.out; have z7 := S_7.out; have z8 := S_8.out; have z9 := S_9.out; have z10 := S_10.out; have z11 := S_11.out; have z12 := S_12.out; have z13 := S_13.out; have z14 := S_14.out; have z15 := S_15.out; omega)))
  have x0_16 := Lib.hid hrow
  have x1_16 := Lib.hid (x1_15.out.within hw (Or.inr (by have z1 := S_1.out; have z2 := S_2.out; have z3 := S_3.out; have z4 := S_4.out; have z5 := S_5.out; have z6 := S_6.out; have z7 := S_7.out; have z8 := S_8.out; have z9 := S_9.out; have z10 := S_10.out; have z11 := S_11.out; have z12 := S_12.out; have z13 := S_13.out; have z14 := S_14.out; have z15 := S_15.out; omega)))
  have G_16 := Lib.hid (G_15.out.within hw (Or.inr (by have z1 := S_1.out; have z2 := S_2.out; have z3 := S_3.out; have z4 := S_4.out; have z5 := S_5.out; have z6 := S_6.out; have z7 := S_7.out; have z8 := S_8.out; have z9 := S_9.out; have z10 := S_10.out; have z11 := S_11.out; have z12 := S_12.out; have z13 := S_13.out; have z14 := S_14.out; have z15 := S_15.out; omega)))
  have S_16 : Hid (w15.heap.size ≤ w16.heap.size) := hw.size
  clear hw hrow B_15 a0_15 bW_15 bx0_15 bG_15 W_15 x0_15 x1_15 G_15
  go_wp2_with fail
  refine (R1.out _ _ _ _ _ kb1.1 kb1.2 x1_16.out).mono ?_
  rintro e w17 ⟨rfl, hw, hrow⟩
  have B_17 := Lib.hid (below_within B_16.out hw (by have z1 := S_1.out; have z2 := S_2.out; have z3 := S_3.out; have z4 := S_4.out; have z5 := S_5.out; have z6 := S_6.out; have z7 := S_7.out; have z8 := S_8.out; have z9 := S_9.out; have z10 := S_10.out; have z11 := S_11.out; have z12 := S_12.out; have z13 := S_13.out; have z14 := S_14.out; have z15 := S_15.out; have z16 := S_16.out; omega))
  have a0_17 := hw.cell a0_16 (by show w.heap.size < _ ∨ _ ≤ w.heap.size; have z1 := S_1.out; have z2 := S_2.out; have z3 := S_3.out; have z4 := S_4.out; have z5 := S_5.out; have z6 := S_6.out; have z7 := S_7.out; have z8 := S_8.out; have z9 := S_9.out; have z10 := S_10.out; have z11 := S_11.out; have z12 := S_12.out; have z13 := S_13.out; have z14 := S_14.out; have z15 := S_15.out; have z16 := S_16.out; omega)
  have bW_17 := hw.cell bW_16 (by show w4.heap.size < _ ∨ _ ≤ w4.heap.size; have zz := Z_bW.out; have z1 := S_1.out; have z2 := S_2.out; have z3 := S_3.out; have z4 := S_4.out; have z5 := S_5.out; have z6 := S_6.out; have z7 := S_7.out; have z8 := S_8.out; have z9 := S_9.out; have z10 := S_10.out; have z11 := S_11.out; have z12 := S_12.out; have z13 := S_13.out; have z14 := S_14.out; have z15 := S_15.out; have z16 := S_16.out; omega)
  have bx0_17 := hw.cell bx0_16 (by show w6.heap.size < _ ∨ _ ≤ w6.heap.size; have zz := Z_bx0.out; have z1 := S_1.out; have z2 := S_2.out; have z3 := S_3.out; have z4 := S_4.out; have z5 := S_5.out; have z6 := S_6.out; have z7 := S_7.out; have z8 := S_8.out; have z9 := S_9.out; have z10 := S_10.out; have z11 := S_11.out; have z12 := S_12.out; have z13 := S_13.out; have z14 := S_14.out; have z15 := S_15.out; have z16 := S_16.out; omega)
  have bG_17 := hw.cell bG_16 (by show w9.heap.size < _ ∨ _ ≤ w9.heap.size; have zz := Z_bG.out; have z1 := S_1.out; have z2 := S_2.out; have z3 := S_3.out; have z4 := S_4.out; have z5 := S_5.out; have z6 := S_6.out; have z7 := S_7.out; have z8 := S_8.out; have z9 := S_9.out; have z10 := S_10.out; have z11 := S_11.out; have z12 := S_12.out; have z13 := S_13.out; have z14 := S_14.out; have z15 := S_15.out; have z16 := S_16.out; omega)
  have W_17 := Lib.hid (W_16.out.within hw (Or.inl (by have z1 := S_1.out; have z2 := S_2.out; have z3 := S_3.out; have z4 := S_4.out; have z5 := S_5.out; have z6 := S_6.out; have z7 := S_7.out; have z8 := S_8.out; have z9 := S_9.out; have z10 := S_10.out; have z11 := S_11.out; have z12 := S_12.out; have z13 := S_13.out; have z14 := S_14.out; have z15 := S_15.out; have z16 := S_16.out; omega)))
  have x0_17 := Lib.hid (x0_16.out.within hw (Or.inl (by have z1 := S_1.out; have z2 := S_2.out; have z3 := S_3.out; have z4 := S_4.out; have z5 := S_5.out; have z6 := S_6.out; have z7 := S_7.out; have z8 := S_8.out; have z9 := S_9.out; have z10 := S_10.out; have z11 := S_11.out; have z12 := S_12.out; have z13 := S_13.out; have z14 := S_14.out; have z15 := S_15.out; have z16 := S_16.out; omega)))
  have x1_17 := Lib.hid hrow
  have G_17 := Lib.hid (G_16.out.within hw (Or.inr (by have z1 := S_1.out; have z2 := S_2.out; have z3 := S_3.out; have z4 := S_4.out; have z5 := S_5.out; have z6 := S_6.out; have z7 := S_7.out; have z8 := S_8.out; have z9 := S_9.out; have z10 := S_10.out; have z11 := S_11.out; have z12 := S_12.out; have z13 := S_13.out; have z14 := S_14.out; have z15 := S_15.out; have z16 := S_16.out; omega)))
  have S_17 : Hid (w16.heap.size ≤ w17.heap.size) := hw.size
  clear hw hrow B_16 a0_16 bW_16 bx0_16 bG_16 W_16 x0_16 x1_16 G_16
  go_wp2_with fail
  refine (XE.out _ _ _ _ _ G_17.out.ints W_17.out.ints).mono ?_
  rintro e w18 ⟨rfl, hb⟩
  have B_18 := Lib.hid (below_step B_17.out hb)
  have a0_18 := cell_kept a0_17 hb
  have bW_18 := cell_kept bW_17 hb
  have bx0_18 := cell_kept bx0_17 hb
  have bG_18 := cell_kept bG_17 hb
  have W_18 := Lib.hid (W_17.out.later hb)
  have x0_18 := Lib.hid (x0_17.out.later hb)
  have x1_18 := Lib.hid (x1_17.out.later hb)
  have G_18 := Lib.hid (G_17.out.later hb)
  have S_18 : Hid (w17.heap.size ≤ w18.heap.size) := hb.size
  clear hb B_17 a0_17 bW_17 bx0_17 bG_17 W_17 x0_17 x1_17 G_17
  clear x0_18
  clear x1_18
  go_wp2_with fail
  refine (XM.out _ _ _ _ _ G_18.out).mono ?_
  rintro e w19 ⟨rfl, hw, hrow⟩
  have B_19 := Lib.hid (below_within B_18.out hw (by have z1 := S_1.out; have z2 := S_2.out; have z3 := S_3.out; have z4 := S_4.out; have z5 := S_5.out; have z6 := S_6.out; have z7 := S_7.out; have z8 := S_8.out; have z9 := S_9.out; have z10 := S_10.out; have z11 := S_11.out; have z12 := S_12.out; have z13 := S_13.out; have z14 := S_14.out; have z15 := S_15.out; have z16 := S_16.out; have z17 := S_17.out; have z18 := S_18.out; omega))
  have a0_19 := hw.cell a0_18 (by show w.heap.size < _ ∨ _ ≤ w.heap.size; have z1 := S_1.out; have z2 := S_2.out; have z3 := S_3.out; have z4 := S_4.out; have z5 := S_5.out; have z6 := S_6.out; have z7 := S_7.out; have z8 := S_8.out; have z9 := S_9.out; have z10 := S_10.out; have z11 := S_11.out; have z12 := S_12.out; have z13 := S_13.out; have z14 := S_14.out; have z15 := S_15.out; have z16 := S_16.out; have z17 := S_17.out; have z18 := S_18.out; omega)
  have bW_19 := hw.cell bW_18 (by show w4.heap.size < _ ∨ _ ≤ w4.heap.size; have zz := Z_bW.out; have z1 := S_1.out; have z2 := S_2.out; have z3 := S_3.out; have z4 := S_4.out; have z5 := S_5.out; have z6 := S_6.out; have z7 := S_7.out; have z8 := S_8.out; have z9 := S_9.out; have z10 := S_10.out; have z11 := S_11.out; have z12 := S_12.out; have z13 := S_13.out; have z14 := S_14.out; have z15 := S_15.out; have z16 := S_16.out; have z17 := S_17.out; have z18 := S_18.out; omega)
  have bx0_19 := hw.cell bx0_18 (by show w6.heap.size < _ ∨ _ ≤ w6.heap.size; have zz := Z_bx0.out; have z1 := S_1.out; have z2 := S_2.out; have z3 := S_3.out; have z4 := S_4.out; have z5 := S_5.out; have z6 := S_6.out; have z7 := S_7.out; have z8 := S_8.out; have z9 := S_9.out; have z10 := S_10.out; have z11 := S_11.out; have z12 := S_12.out; have z13 := S_13.out; have z14 := S_14.out; have z15 := S_15.out; have z16 := S_16.out; have z17 := S_17.out; have z18 := S_18.out; omega)
  have bG_19 := hw.cell bG_18 (by show w9.heap.size < _ ∨ _ ≤ w9.heap.size; have zz := Z_bG.out; have z1 := S_1.out; have z2 := S_2.out; have z3 := S_3.out; have z4 := S_4.out; have z5 := S_5.out; have z6 := S_6.out; have z7 := S_7.out; have z8 := S_8.out; have z9 := S_9.out; have z10 := S_10.out; have z11 := S_11.out; have z12 := S_12.out; have z13 := S_13.out; have z14 := S_14.out; have z15 := S_15.out; have z16 := S_16.out; have z17 := S_17.out; have z18 := S_18.out; omega)
  have W_19 := Lib.hid (W_18.out.within hw (Or.inl (by have z1 := S_1.out; have z2 := S_2.out; have z3 := S_3.out; have z4 := S_4.out; have z5 := S_5.out; have z6 := S_6.out; have z7 := S_7.out; have z8 := S_8.out; have z9 := S_9.out; have z10 := S_10.out; have z11 := S_11.out; have z12 := S_12.out; have z13 := S_13.out; have z14 := S_14.out; have z15 := S_15.out; have z16 := S_16.out; have z17 := S_17.out; have z18 := S_18.out; omega)))
  have G_19 := Lib.hid hrow
  have S_19 : Hid (w18.heap.size ≤ w19.heap.size) := hw.size
  clear hw hrow B_18 a0_18 bW_18 bx0_18 bG_18 W_18 G_18
  go_wp2_with fail
  refine (XH.out _ _ _ _ _ G_19.out).mono ?_
  rintro e w20 ⟨rfl, hb⟩
  have B_20 := Lib.hid (below_step B_19.out hb)
  have a0_20 := cell_kept a0_19 hb
  have bW_20 := cell_kept bW_19 hb
  have bx0_20 := cell_kept bx0_19 hb
  have bG_20 := cell_kept bG_19 hb
  have W_20 := Lib.hid (W_19.out.later hb)
  have G_20 := Lib.hid (G_19.out.later hb)
  have S_20 : Hid (w19.heap.size ≤ w20.heap.size) := hb.size
  clear hb B_19 a0_19 bW_19 bx0_19 bG_19 W_19 G_19
  go_wp2_with fail
  refine (T0.out _ B_20.out).mono ?_
  rintro e w21 ⟨gv0, rfl, hb, ho⟩
  have B_21 := Lib.hid (below_step B_20.out hb)
  have a0_21 := cell_kept a0_20 hb
  have bW_21 := cell_kept bW_20 hb
  have bx0_21 := cell_kept bx0_20 hb
  have bG_21 := cell_kept bG_20 hb
  have W_21 := Lib.hid (W_20.out.later hb)
  have G_21 := Lib.hid (G_20.out.later hb)
  have S_21 : Hid (w20.heap.size ≤ w21.heap.size) := hb.size
  have v0_21 := Lib.hid ho
  clear hb ho B_20 a0_20 bW_20 bx0_20 bG_20 W_20 G_20
  go_wp2_with fail
  refine (T1.out _ B_21.out).mono ?_
  rintro e w22 ⟨gv1, rfl, hb, ho⟩
  have B_22 := Lib.hid (below_step B_21.out hb)
  have a0_22 := cell_kept a0_21 hb
  have bW_22 := cell_kept bW_21 hb
  have bx0_22 := cell_kept bx0_21 hb
  have bG_22 := cell_kept bG_21 hb
  have W_22 := Lib.hid (W_21.out.later hb)
  have G_22 := Lib.hid (G_21.out.later hb)
  have v0_22 := Lib.hid (v0_21.out.later hb)
  have S_22 : Hid (w21.heap.size ≤ w22.heap.size) := hb.size
  have v1_22 := Lib.hid ho
  clear hb ho B_21 a0_21 bW_21 bx0_21 bG_21 W_21 G_21 v0_21
  go_wp2_with fail
  refine (CI.out _ _ _ _ _ _ _ B_22.out v0_22.out v1_22.out).mono ?_
  rintro e w23 ⟨AH, cH, rfl, hb, ho⟩
  have B_23 := Lib.hid (below_step B_22.out hb)
  have a0_23 := cell_kept a0_22 hb
  have bW_23 := cell_kept bW_22 hb
  have bx0_23 := cell_kept bx0_22 hb
  have bG_23 := cell_kept bG_22 hb
  have W_23 := Lib.hid (W_22.out.later hb)
  have G_23 := Lib.hid (G_22.out.later hb)
  have v0_23 := Lib.hid (v0_22.out.later hb)
  have v1_23 := Lib.hid (v1_22.out.later hb)
  have S_23 : Hid (w22.heap.size ≤ w23.heap.size) := hb.size
  have H_23 := Lib.hid ho
  clear hb ho B_22 a0_22 bW_22 bx0_22 bG_22 W_22 G_22 v0_22 v1_22
  have hb := below_box w23 (.cells #[.slice AH nX cH] 33)
  have hc := new_cell w23 (.slice AH nX cH) 33
  obtain ⟨w24, hW24⟩ : ∃ W, w23.alloc (.cells #[.slice AH nX cH] 33) = W := ⟨_, rfl⟩
  rw [hW24] at hb hc
  have B_24 := Lib.hid (below_step B_23.out hb)
  have a0_24 := cell_kept a0_23 hb
  have bW_24 := cell_kept bW_23 hb
  have bx0_24 := cell_kept bx0_23 hb
  have bG_24 := cell_kept bG_23 hb
  have W_24 := Lib.hid (W_23.out.later hb)
  have G_24 := Lib.hid (G_23.out.later hb)
  have v0_24 := Lib.hid (v0_23.out.later hb)
  have v1_24 := Lib.hid (v1_23.out.later hb)
  have H_24 := Lib.hid (H_23.out.later hb)
  have S_24 : Hid (w23.heap.size ≤ w24.heap.size) := hb.size
  have bH_24 := hc
  clear hb hc B_23 a0_23 bW_23 bx0_23 bG_23 W_23 G_23 v0_23 v1_23 H_23
  have Z_bH : Hid (w23.heap.size < w24.heap.size) := by show _ < _; rw [← hW24, World.size_alloc]; omega
  go_wp2_with fail
  refine (XE.out _ _ _ _ _ H_24.out.ints W_24.out.ints).mono ?_
  rintro e w25 ⟨rfl, hb⟩
  have B_25 := Lib.hid (below_step B_24.out hb)
  have a0_25 := cell_kept a0_24 hb
  have bW_25 := cell_kept bW_24 hb
  have bx0_25 := cell_kept bx0_24 hb
  have bG_25 := cell_kept bG_24 hb
  have bH_25 := cell_kept bH_24 hb
  have W_25 := Lib.hid (W_24.out.later hb)
  have G_25 := Lib.hid (G_24.out.later hb)
  have v0_25 := Lib.hid (v0_24.out.later hb)
  have v1_25 := Lib.hid (v1_24.out.later hb)
  have H_25 := Lib.hid (H_24.out.later hb)
  have S_25 : Hid (w24.heap.size ≤ w25.heap.size) := hb.size
  clear hb B_24 a0_24 bW_24 bx0_24 bG_24 bH_24 W_24 G_24 v0_24 v1_24 H_24
  go_wp2_with fail
  refine (XH.out _ _ _ _ _ G_25.out).mono ?_
  rintro e w26 ⟨rfl, hb⟩
  have B_26 := Lib.hid (below_step B_25.out hb)
  have a0_26 := cell_kept a0_25 hb
  have bW_26 := cell_kept bW_25 hb
  have bx0_26 := cell_kept bx0_25 hb
  have bG_26 := cell_kept bG_25 hb
  have bH_26 := cell_kept bH_25 hb
  have W_26 := Lib.hid (W_25.out.later hb)
  have G_26 := Lib.hid (G_25.out.later hb)
  have v0_26 := Lib.hid (v0_25.out.later hb)
  have v1_26 := Lib.hid (v1_25.out.later hb)
  have H_26 := Lib.hid (H_25.out.later hb)
  have S_26 : Hid (w25.heap.size ≤ w26.heap.size) := hb.size
  clear hb B_25 a0_25 bW_25 bx0_25 bG_25 bH_25 W_25 G_25 v0_25 v1_25 H_25
  go_wp2
  go_ret
  exact ⟨rfl, B_26.out⟩

theorem walk (A0 : Option Addr) (c0 : Nat) (X0 : List Int) {y0 : World} (h0 : Ints y0 y0.heap.size A0 X0) (l0 : X0.length ≤ 9223372036854775807) (_ : ∀ n ∈ X0, (Lit.int .i64 n).wf = true) (A1 : Option Addr) (c1 : Nat) (P1 : List (Int × Int)) {y1 : World} (h1 : Copies y1 y1.heap.size A1 P1) (l1 : P1.length ≤ 9223372036854775807) (_ : ∀ d ∈ P1, (Lit.int .i64 d.1).wf = true) (x2 : Int) (_ : (Lit.int .i64 x2).wf = true) (w : World) (e0 : y0 = w) (e1 : y1 = w) :
    Calls Try.prog 4 #[.agg #[.slice A0 X0.length c0], .slice A1 P1.length c1, .int .i64 x2] w fun e w' => e = .returned (.bool true) ∧ Below w.heap.size w w' := by
  subst e0
  subst e1
  by_cases hb0 : 1048576 < (X0.length : Int)
  · exact walk_big0 A0 c0 X0 A1 c1 P1 x2 _ h0 l0  hb0
  have hs0 : (X0.length : Int) ≤ 1048576 := by omega
  by_cases hb1 : 1048576 < (X0.length : Int) + (P1.length : Int)
  · exact walk_big1 A0 c0 X0 A1 c1 P1 x2 _ h0 h1 l1 hs0 hb1
  have hs1 : (X0.length : Int) + (P1.length : Int) ≤ 1048576 := by omega
  have hm0 : X0.length ≤ 1048576 := by omega
  have hm1 : P1.length ≤ 1048576 := by omega
  have hx := reprK_length X0 P1 x2
  refine walk_small A0 c0 X0 A1 c1 P1 x2 (reprK X0 P1 x2) (reprC [X0] P1 x2) _ h0 h1 hs1 hx (fun W A0 B0 A1 B1 hW hP0 hB0 hP1 hB1 => ?_) (fun W A0 B0 A1 B1 hW hP0 hB0 hP1 hB1 => ?_)
  · exact specReprK_any A0 X0.length X0 B0 A1 P1.length P1 B1 x2 W hP0 hP1 hB0 hB1 hm0 hm1
  · exact implReprK_any A0 X0.length X0 B0 A1 P1.length P1 B1 x2 W hP0 hP1 hB0 hB1 hm0 hm1

set_option maxRecDepth 100000 in
theorem lifted (os : Os) (started : os.Started) (H : Type) (enc : TypeId × Value → H) :
    ReturnsInHanded {} Try.checked os 4 .any (Rows.fnExactReproduceCardSpec.pre6 enc Try.prog Try.f4 Rows.fnExactReproduceCardRow.domain false) (Rows.fnExactReproduceCardSpec.post enc Try.prog Try.f4 false true false false) := by
  refine returnsInHanded_of_change (C := Try.checked) own started (by kernel_rfl) Try.func4
    (ChangeSpec.witness6 (enc := enc) (C := Try.checked) false ⟨#[], #[.agg #[.slice none 0 0], .slice none 0 0, .int .i64 0], []⟩ 8 (by kernel_rfl) (by kernel_rfl) (by kernel_rfl) (by kernel_rfl)) ?_
  intro W base args ds gs before hval0 hW _ _
  have hval : ∀ (j : Nat) t v, Try.f4.params[j]? = some t → args[j]? = some v → Value.okWide Try.prog W .any base t v := hval0
  have hW' := hW
  obtain ⟨p, q, hA0, hV, rfl, _, _⟩ := hW
  have hA : DataW.TrodAll enc Try.prog W 0 (fun _ => true) true Try.f4.params.toList args.toList ds p := hA0
  rw [Try.params4] at hA hval
  obtain ⟨v0, vs0, d0, ds0, p0, q0, hargs, rfl, rfl, h0, r0⟩ := trodAll_cons hA
  obtain ⟨v1, vs1, d1, ds1, p1, q1, rfl, rfl, rfl, h1, r1⟩ := trodAll_cons r0
  obtain ⟨v2, vs2, d2, ds2, p2, q2, rfl, rfl, rfl, h2, r2⟩ := trodAll_cons r1
  obtain ⟨rfl, rfl, rfl⟩ := trodAll_nil r2
  obtain rfl : args = #[v0, v1, v2] := by cases args; simp_all
  obtain ⟨rfl, rfl⟩ := trodVars_none hV
  obtain ⟨A0, c0, xs0, rfl, i0, l0, w0⟩ := open_card (hval 0 31 v0 rfl rfl) h0
  obtain ⟨A1, c1, P1, rfl, i1, l1, z1⟩ := open_copies (hval 1 22 v1 rfl rfl) h1
  obtain ⟨a2, rfl, rfl, rfl, w2⟩ := open_int Try.underlying2 (hval 2 2 v2 rfl rfl) h2
  refine (walk A0 c0 xs0 i0 l0 w0 A1 c1 P1 i1 l1 z1 a2 w2 W rfl rfl).mono fun e W' ⟨he, hb⟩ => ?_
  subst he
  refine ⟨_, rfl, law_post hW' rfl rfl ?_ rfl rfl rfl hb⟩
  intro t ht
  rw [Try.params4] at ht
  have ht' : t = 31 ∨ t = 22 ∨ t = 2 := by simpa using ht
  rcases ht' with rfl | rfl | rfl <;> exact ⟨by kernel_rfl, of_decide_eq_true (by kernel_rfl)⟩

theorem over : Rows.fnExactReproduceCardRow.holds Try.pinned (OpenSpec.ofChange Rows.fnExactReproduceCardSpec) :=
  OpenClaim.holds_of_wide 4 Try.f4 rfl rfl rfl rfl rfl rfl rfl ⟨rfl, rfl, rfl, rfl, rfl⟩ rfl rfl rfl rfl rfl (by kernel_rfl) Try.func4 (by kernel_rfl)
    (of_decide_eq_true (by kernel_rfl)) (by unfold Func.isWrapper; first | (rw [if_pos (by decide +kernel)]; kernel_rfl) | (rw [if_neg (by decide +kernel)]; exact ⟨rfl, rfl⟩))
    (fun os started H enc _ => lifted os started H enc)

theorem proved : Rows.FnExactReproduceCardSaid :=
  over
end Go.Proofs.Ytamookdlbmbncaa.fnExactReproduceCard
