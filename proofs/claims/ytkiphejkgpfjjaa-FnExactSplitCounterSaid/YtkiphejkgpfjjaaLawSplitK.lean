/- For every counter and number of wheels, the law FnExactSplitCounter returns true: impl.SplitCounter answers as spec.SplitCounter, in memory of its own, and leaves its argument as it was. Conditions: none. -/
import Derived.Test.YtkiphejkgpfjjaaCounter
import Derived.Test.YtkiphejkgpfjjaaCntSplit
import Derived.Test.YtkiphejkgpfjjaaLaw
import Derived.Test.YtkiphejkgpfjjaaBoxed
import Derived.Test.YtkiphejkgpfjjaaCardAt
import Derived.Deep.RegionHeld3
import Derived.Deep.DeepCutAuto
import Derived.Laws.NewDeep
namespace Go.Proofs.Ytkiphejkgpfjjaa.fnExactSplitCounter
open Go.ChangeShapes Go.WideShapes Go.ChangeAt Go.RowKit

theorem walk_big (A0 : Option Addr) (c0 n0 : Nat) (x1 : Int) (w : World) (hn : n0 ≤ 9223372036854775807) (hbig : 1048576 < n0) :
    Calls Try.prog 7 #[.agg #[.slice A0 n0 c0], .int .i64 x1] w fun e w' => e = .returned (.bool true) ∧ Below w.heap.size w w' := by
  have hs := fun W => szCard_any A0 n0 c0 1048576 W (by omega) (by omega) hn
  have e : (if (1048576 : Int) < (n0 : Int) then (-1 : Int) else 1048576 - n0) = -1 := if_pos (by omega)
  rw [e] at hs
  have HS := Lib.hid hs
  clear hs e
  go_enter Try.func7, Try.ntmps7
  go_wp2_with fail
  refine (HS.out _).mono ?_
  rintro e w1 ⟨rfl, hb1⟩
  have B1 := Lib.hid (below_step (below_box w _) hb1)
  clear hb1
  go_wp2
  go_ret
  exact ⟨rfl, B1.out⟩

set_option maxRecDepth 100000 in
set_option maxHeartbeats 8000000 in
theorem walk_small (A0 : Option Addr) (c0 : Nat) (X0 : List Int) (x1 : Int) (X Y : List Int) (v : Int) (w : World) (h0 : Ints w w.heap.size A0 X0) (hm0 : X0.length ≤ 1048576) (hx : X.length ≤ 1048576) (hy : Y.length ≤ 1048576)
    (hv : ∀ (W : World) (A0 : Option Addr) (B0 : Nat), Below w.heap.size w W → Ints W B0 A0 X0 → B0 ≤ W.heap.size → Calls Try.prog 22 #[.agg #[.slice A0 X0.length X0.length], .int .i64 x1] W (GivesKK X Y v W))
    (hi : ∀ (W : World) (A0 : Option Addr) (B0 : Nat), Below w.heap.size w W → Ints W B0 A0 X0 → B0 ≤ W.heap.size → Calls Try.prog 23 #[.agg #[.slice A0 X0.length X0.length], .int .i64 x1] W (GivesKK X Y v W)) :
    Calls Try.prog 7 #[.agg #[.slice A0 X0.length c0], .int .i64 x1] w fun e w' => e = .returned (.bool true) ∧ Below w.heap.size w w' := by
  have z0 := fun (W : World) (_ : Below w.heap.size w W) => szCard_any A0 X0.length c0 1048576 W (by omega) (by omega) (by omega)
  have e0 : (if (1048576 : Int) < (X0.length : Int) then (-1 : Int) else 1048576 - X0.length) = 1048576 - X0.length := if_neg (by omega)
  simp only [e0] at z0
  clear e0
  have t0 := fun W (hW : Below w.heap.size w W) => toCardAt_any A0 c0 X0 w.heap.size W (h0.below hW) hW.size hm0
  have q0 := fun A A' W (hA : Ints W W.heap.size A X0) (hA' : Ints W W.heap.size A' X0) => eqCardAt_any A A' X0.length X0.length X0 W hA hA' hm0
  have r0 := fun A lo hi W (k : Int) (h0 : 0 ≤ k) (h1 : k ≤ 4194304) (hA : IAt W lo hi A X0) => markCardAt_any A X0.length X0 lo hi k W hA h0 h1 hm0
  have xe := fun A A' c c' W h h' => eqCardAt_any A A' c c' X W h h' hx
  have ye := fun A A' c c' W h h' => eqCardAt_any A A' c c' Y W h h' hy
  have xm := fun A c lo hi W (h : IAt W lo hi A X) => markCardAt_any A c X lo hi 1 W h (by omega) (by omega) hx
  have ym := fun A c lo hi W (h : IAt W lo hi A Y) => markCardAt_any A c Y lo hi (1 + X.length) W h (by omega) (by omega) hy
  have xh := fun A c lo hi W (h : IAt W lo hi A (marks 1 X.length)) => heldCardAt_any A c X lo hi 1 W h (by omega) (by omega) hx
  have yh := fun A c lo hi W (h : IAt W lo hi A (marks (1 + X.length) Y.length)) => heldCardAt_any A c Y lo hi (1 + X.length) W h (by omega) (by omega) hy
  have gx : ¬ 1 + (X.length : Int) < 0 := by omega
  have gy : ¬ 1 + (X.length : Int) + (Y.length : Int) < 0 := by omega
  have cv : ∀ (W : World) (g0 lo0 hi0 : Nat), Below w.heap.size w W → IAt W lo0 hi0 (some ⟨g0, 0, none⟩) X0 → Calls Try.prog 22 #[.agg #[.slice (some ⟨g0, 0, none⟩) X0.length X0.length], .int .i64 x1] W (GivesKK X Y v W) := fun W g0 lo0 hi0 hW hO0 => hv W (some ⟨g0, 0, none⟩) W.heap.size hW hO0.ints (Nat.le_refl _)
  have ci : ∀ (W : World) (g0 lo0 hi0 : Nat), Below w.heap.size w W → IAt W lo0 hi0 (some ⟨g0, 0, none⟩) X0 → Calls Try.prog 23 #[.agg #[.slice (some ⟨g0, 0, none⟩) X0.length X0.length], .int .i64 x1] W (GivesKK X Y v W) := fun W g0 lo0 hi0 hW hO0 => hi W (some ⟨g0, 0, none⟩) W.heap.size hW hO0.ints (Nat.le_refl _)
  unfold GivesKK at cv ci
  obtain ⟨nX, hnX⟩ : ∃ n, X.length = n := ⟨_, rfl⟩
  obtain ⟨nY, hnY⟩ : ∃ n, Y.length = n := ⟨_, rfl⟩
  simp only [hnX, hnY] at xe ye xm ym xh yh gx gy cv ci
  obtain ⟨n0, hn0⟩ : ∃ n, X0.length = n := ⟨_, rfl⟩
  simp only [hn0] at z0 t0 q0 r0 cv ci ⊢
  have kb0 : 0 ≤ (1 : Int) ∧ (1 : Int) ≤ 4194304 := by omega
  have g0 : ¬ 1048576 - (n0 : Int) < 0 := by omega
  have gk : ¬ 1 + (n0 : Int) < 0 := by omega
  have Z0 := Lib.hid z0
  have T0 := Lib.hid t0
  have Q0 := Lib.hid q0
  have R0 := Lib.hid r0
  have XE := Lib.hid xe
  have YE := Lib.hid ye
  have XM := Lib.hid xm
  have YM := Lib.hid ym
  have XH := Lib.hid xh
  have YH := Lib.hid yh
  have CV := Lib.hid cv
  have CI := Lib.hid ci
  clear cv ci hv hi xe ye xm ym xh yh hnX hnY z0 t0 q0 r0 hn0 h0 hm0 hx hy
  go_enter Try.func7, Try.ntmps7
  go_wp2_with fail
  refine (Z0.out _ (below_box w _)).mono ?_
  rintro e w1 ⟨rfl, hb⟩
  have B_1 := Lib.hid (below_step (below_box w _) hb)
  have a0_1 := cell_kept (p := ⟨w.heap.size, 0, none⟩) (v := .slice A0 n0 c0) (by simp [go_sem]) hb
  have S_1 : Hid (w.heap.size + 1 ≤ w1.heap.size) := by show _ ≤ _; have := hb.size; simpa using this
  clear hb
  go_wp2_with fail
  refine (T0.out _ B_1.out).mono ?_
  rintro e w2 ⟨gw0, rfl, hb, ho⟩
  have B_2 := Lib.hid (below_step B_1.out hb)
  have a0_2 := cell_kept a0_1 hb
  have S_2 : Hid (w1.heap.size ≤ w2.heap.size) := hb.size
  have w0_2 := Lib.hid ho
  clear hb ho B_1 a0_1
  go_wp2_with fail
  refine (CV.out _ _ _ _ B_2.out w0_2.out).mono ?_
  rintro e w3 ⟨AW1, cW1, AW2, cW2, lW1, hW1, lW2, hW2, rfl, hb, hm, ho1, ho2⟩
  have B_3 := Lib.hid (below_step B_2.out hb)
  have a0_3 := cell_kept a0_2 hb
  have w0_3 := Lib.hid (w0_2.out.later hb)
  have S_3 : Hid (w2.heap.size ≤ w3.heap.size) := hb.size
  have W1_3 := Lib.hid ho1
  have W2_3 := Lib.hid ho2
  have M_W := Lib.hid hm
  clear hb ho1 ho2 B_2 a0_2 w0_2 hm
  have hb : Below w3.heap.size w3 ((w3.alloc (.cells #[.slice AW1 nX cW1] 27)).alloc (.cells #[.slice AW2 nY cW2] 27)) := (below_box w3 _).alloc (by simp) _
  have hc1 : ((w3.alloc (.cells #[.slice AW1 nX cW1] 27)).alloc (.cells #[.slice AW2 nY cW2] 27)).cell? ⟨w3.heap.size, 0, none⟩ = some (.slice AW1 nX cW1) := by simp [go_sem]
  have hc2 : ((w3.alloc (.cells #[.slice AW1 nX cW1] 27)).alloc (.cells #[.slice AW2 nY cW2] 27)).cell? ⟨w3.heap.size + 1, 0, none⟩ = some (.slice AW2 nY cW2) := by simp [go_sem]
  have hz : ((w3.alloc (.cells #[.slice AW1 nX cW1] 27)).alloc (.cells #[.slice AW2 nY cW2] 27)).heap.size = w3.heap.size + 2 := by simp
  obtain ⟨w4, hW4⟩ : ∃ W, (w3.alloc (.cells #[.slice AW1 nX cW1] 27)).alloc (.cells #[.slice AW2 nY cW2] 27) = W := ⟨_, rfl⟩
  rw [hW4] at hb hc1 hc2 hz
  have B_4 := Lib.hid (below_step B_3.out hb)
  have a0_4 := cell_kept a0_3 hb
  have w0_4 := Lib.hid (w0_3.out.later hb)
  have W1_4 := Lib.hid (W1_3.out.later hb)
  have W2_4 := Lib.hid (W2_3.out.later hb)
  have S_4 : Hid (w3.heap.size ≤ w4.heap.size) := hb.size
  have bW1_4 := hc1
  have bW2_4 := hc2
  have Z_bW1 : Hid (w3.heap.size < w4.heap.size) := by show _ < _; omega
  have Z_bW2 : Hid (w3.heap.size + 1 < w4.heap.size) := by show _ < _; omega
  clear hz hb hc1 hc2 B_3 a0_3 w0_3 W1_3 W2_3
  clear w0_4
  go_wp2_with fail
  refine (T0.out _ B_4.out).mono ?_
  rintro e w5 ⟨gx0, rfl, hb, ho⟩
  have B_5 := Lib.hid (below_step B_4.out hb)
  have a0_5 := cell_kept a0_4 hb
  have bW1_5 := cell_kept bW1_4 hb
  have bW2_5 := cell_kept bW2_4 hb
  have W1_5 := Lib.hid (W1_4.out.later hb)
  have W2_5 := Lib.hid (W2_4.out.later hb)
  have S_5 : Hid (w4.heap.size ≤ w5.heap.size) := hb.size
  have x0_5 := Lib.hid ho
  clear hb ho B_4 a0_4 bW1_4 bW2_4 W1_4 W2_4
  have hb := below_box w5 (.cells #[.slice (some ⟨gx0, 0, none⟩) n0 n0] 27)
  have hc := new_cell w5 (.slice (some ⟨gx0, 0, none⟩) n0 n0) 27
  obtain ⟨w6, hW6⟩ : ∃ W, w5.alloc (.cells #[.slice (some ⟨gx0, 0, none⟩) n0 n0] 27) = W := ⟨_, rfl⟩
  rw [hW6] at hb hc
  have B_6 := Lib.hid (below_step B_5.out hb)
  have a0_6 := cell_kept a0_5 hb
  have bW1_6 := cell_kept bW1_5 hb
  have bW2_6 := cell_kept bW2_5 hb
  have W1_6 := Lib.hid (W1_5.out.later hb)
  have W2_6 := Lib.hid (W2_5.out.later hb)
  have x0_6 := Lib.hid (x0_5.out.later hb)
  have S_6 : Hid (w5.heap.size ≤ w6.heap.size) := hb.size
  have bx0_6 := hc
  clear hb hc B_5 a0_5 bW1_5 bW2_5 W1_5 W2_5 x0_5
  have Z_bx0 : Hid (w5.heap.size < w6.heap.size) := by show _ < _; rw [← hW6, World.size_alloc]; omega
  go_wp2_with fail
  refine (CI.out _ _ _ _ B_6.out x0_6.out).mono ?_
  rintro e w7 ⟨AG1, cG1, AG2, cG2, lG1, hG1, lG2, hG2, rfl, hb, hm, ho1, ho2⟩
  have B_7 := Lib.hid (below_step B_6.out hb)
  have a0_7 := cell_kept a0_6 hb
  have bW1_7 := cell_kept bW1_6 hb
  have bW2_7 := cell_kept bW2_6 hb
  have bx0_7 := cell_kept bx0_6 hb
  have W1_7 := Lib.hid (W1_6.out.later hb)
  have W2_7 := Lib.hid (W2_6.out.later hb)
  have x0_7 := Lib.hid (x0_6.out.later hb)
  have S_7 : Hid (w6.heap.size ≤ w7.heap.size) := hb.size
  have G1_7 := Lib.hid ho1
  have G2_7 := Lib.hid ho2
  have M_G := Lib.hid hm
  clear hb ho1 ho2 B_6 a0_6 bW1_6 bW2_6 bx0_6 W1_6 W2_6 x0_6 hm
  have hb : Below w7.heap.size w7 ((w7.alloc (.cells #[.slice AG1 nX cG1] 27)).alloc (.cells #[.slice AG2 nY cG2] 27)) := (below_box w7 _).alloc (by simp) _
  have hc1 : ((w7.alloc (.cells #[.slice AG1 nX cG1] 27)).alloc (.cells #[.slice AG2 nY cG2] 27)).cell? ⟨w7.heap.size, 0, none⟩ = some (.slice AG1 nX cG1) := by simp [go_sem]
  have hc2 : ((w7.alloc (.cells #[.slice AG1 nX cG1] 27)).alloc (.cells #[.slice AG2 nY cG2] 27)).cell? ⟨w7.heap.size + 1, 0, none⟩ = some (.slice AG2 nY cG2) := by simp [go_sem]
  have hz : ((w7.alloc (.cells #[.slice AG1 nX cG1] 27)).alloc (.cells #[.slice AG2 nY cG2] 27)).heap.size = w7.heap.size + 2 := by simp
  obtain ⟨w8, hW8⟩ : ∃ W, (w7.alloc (.cells #[.slice AG1 nX cG1] 27)).alloc (.cells #[.slice AG2 nY cG2] 27) = W := ⟨_, rfl⟩
  rw [hW8] at hb hc1 hc2 hz
  have B_8 := Lib.hid (below_step B_7.out hb)
  have a0_8 := cell_kept a0_7 hb
  have bW1_8 := cell_kept bW1_7 hb
  have bW2_8 := cell_kept bW2_7 hb
  have bx0_8 := cell_kept bx0_7 hb
  have W1_8 := Lib.hid (W1_7.out.later hb)
  have W2_8 := Lib.hid (W2_7.out.later hb)
  have x0_8 := Lib.hid (x0_7.out.later hb)
  have G1_8 := Lib.hid (G1_7.out.later hb)
  have G2_8 := Lib.hid (G2_7.out.later hb)
  have S_8 : Hid (w7.heap.size ≤ w8.heap.size) := hb.size
  have bG1_8 := hc1
  have bG2_8 := hc2
  have Z_bG1 : Hid (w7.heap.size < w8.heap.size) := by show _ < _; omega
  have Z_bG2 : Hid (w7.heap.size + 1 < w8.heap.size) := by show _ < _; omega
  clear hz hb hc1 hc2 B_7 a0_7 bW1_7 bW2_7 bx0_7 W1_7 W2_7 x0_7 G1_7 G2_7
  go_wp2_with fail
  refine (XE.out _ _ _ _ _ G1_8.out.ints W1_8.out.ints).mono ?_
  rintro e w9 ⟨rfl, hb⟩
  have B_9 := Lib.hid (below_step B_8.out hb)
  have a0_9 := cell_kept a0_8 hb
  have bW1_9 := cell_kept bW1_8 hb
  have bW2_9 := cell_kept bW2_8 hb
  have bx0_9 := cell_kept bx0_8 hb
  have bG1_9 := cell_kept bG1_8 hb
  have bG2_9 := cell_kept bG2_8 hb
  have W1_9 := Lib.hid (W1_8.out.later hb)
  have W2_9 := Lib.hid (W2_8.out.later hb)
  have x0_9 := Lib.hid (x0_8.out.later hb)
  have G1_9 := Lib.hid (G1_8.out.later hb)
  have G2_9 := Lib.hid (G2_8.out.later hb)
  have S_9 : Hid (w8.heap.size ≤ w9.heap.size) := hb.size
  clear hb B_8 a0_8 bW1_8 bW2_8 bx0_8 bG1_8 bG2_8 W1_8 W2_8 x0_8 G1_8 G2_8
  go_wp2_with fail
  refine (YE.out _ _ _ _ _ G2_9.out.ints W2_9.out.ints).mono ?_
  rintro e w10 ⟨rfl, hb⟩
  have B_10 := Lib.hid (below_step B_9.out hb)
  have a0_10 := cell_kept a0_9 hb
  have bW1_10 := cell_kept bW1_9 hb
  have bW2_10 := cell_kept bW2_9 hb
  have bx0_10 := cell_kept bx0_9 hb
  have bG1_10 := cell_kept bG1_9 hb
  have bG2_10 := cell_kept bG2_9 hb
  have W1_10 := Lib.hid (W1_9.out.later hb)
  have W2_10 := Lib.hid (W2_9.out.later hb)
  have x0_10 := Lib.hid (x0_9.out.later hb)
  have G1_10 := Lib.hid (G1_9.out.later hb)
  have G2_10 := Lib.hid (G2_9.out.later hb)
  have S_10 : Hid (w9.heap.size ≤ w10.heap.size) := hb.size
  clear hb B_9 a0_9 bW1_9 bW2_9 bx0_9 bG1_9 bG2_9 W1_9 W2_9 x0_9 G1_9 G2_9
  go_wp2
  go_region_held3 (fun W => W.cell? ⟨w5.heap.size, 0, none⟩ = some (.slice (some ⟨gx0, 0, none⟩) n0 n0) ∧ W.cell? ⟨w.heap.size, 0, none⟩ = some (.slice A0 n0 c0))
    (first | exact ⟨bx0_10, a0_10⟩ | exact ⟨bx0_11, a0_11⟩ | exact ⟨bx0_12, a0_12⟩)
    (first
      | (go_at_call 11
         refine (T0.out _ B_10.out.drew).mono ?_
         rintro e w11 ⟨gz0, rfl, hb, ho⟩
         have B_11 := Lib.hid (below_step B_10.out.drew hb)
         have a0_11 := cell_kept (w := w10.drew) a0_10 hb
         have bW1_11 := cell_kept (w := w10.drew) bW1_10 hb
         have bW2_11 := cell_kept (w := w10.drew) bW2_10 hb
         have bx0_11 := cell_kept (w := w10.drew) bx0_10 hb
         have bG1_11 := cell_kept (w := w10.drew) bG1_10 hb
         have bG2_11 := cell_kept (w := w10.drew) bG2_10 hb
         have W1_11 := Lib.hid (W1_10.out.drew.later hb)
         have W2_11 := Lib.hid (W2_10.out.drew.later hb)
         have x0_11 := Lib.hid (x0_10.out.drew.later hb)
         have G1_11 := Lib.hid (G1_10.out.drew.later hb)
         have G2_11 := Lib.hid (G2_10.out.drew.later hb)
         have S_11 : Hid (w10.heap.size ≤ w11.heap.size) := hb.size
         have z0_11 := Lib.hid ho
         clear hb ho)
      | (go_at_call 13
         refine (Q0.out _ _ _ x0_11.out.ints z0_11.out.ints).mono ?_
         rintro e w12 ⟨rfl, hb⟩
         have B_12 := Lib.hid (below_step B_11.out hb)
         have a0_12 := cell_kept a0_11 hb
         have bW1_12 := cell_kept bW1_11 hb
         have bW2_12 := cell_kept bW2_11 hb
         have bx0_12 := cell_kept bx0_11 hb
         have bG1_12 := cell_kept bG1_11 hb
         have bG2_12 := cell_kept bG2_11 hb
         have W1_12 := Lib.hid (W1_11.out.later hb)
         have W2_12 := Lib.hid (W2_11.out.later hb)
         have x0_12 := Lib.hid (x0_11.out.later hb)
         have G1_12 := Lib.hid (G1_11.out.later hb)
         have G2_12 := Lib.hid (G2_11.out.later hb)
         have z0_12 := Lib.hid (z0_11.out.later hb)
         have S_12 : Hid (w11.heap.size ≤ w12.heap.size) := hb.size
         clear hb))
  clear B_10 a0_10 bW1_10 bW2_10 bx0_10 bG1_10 bG2_10 W1_10 W2_10 x0_10 G1_10 G2_10 B_11 a0_11 bW1_11 bW2_11 bx0_11 bG1_11 bG2_11 W1_11 W2_11 x0_11 G1_11 G2_11 z0_11
  clear z0_12
  go_wp2_with fail
  refine (R0.out _ _ _ _ _ kb0.1 kb0.2 x0_12.out).mono ?_
  rintro e w13 ⟨rfl, hw, hrow⟩
  have B_13 := Lib.hid (below_within B_12.out hw (by have z1 := S_1.out; have z2 := S_2.out; have z3 := S_3.out; have z4 := S_4.out; have z5 := S_5.out; have z6 := S_6.out; have z7 := S_7.out; have z8 := S_8.out; have z9 := S_9.out; have z10 := S_10.out; have z11 := S_11.out; have z12 := S_12.out; have mW := M_W.out; have mG := M_G.out; omega))
  have a0_13 := hw.cell a0_12 (by show w.heap.size < _ ∨ _ ≤ w.heap.size; have z1 := S_1.out; have z2 := S_2.out; have z3 := S_3.out; have z4 := S_4.out; have z5 := S_5.out; have z6 := S_6.out; have z7 := S_7.out; have z8 := S_8.out; have z9 := S_9.out; have z10 := S_10.out; have z11 := S_11.out; have z12 := S_12.out; have mW := M_W.out; have mG := M_G.out; omega)
  have bW1_13 := hw.cell bW1_12 (by show w3.heap.size < _ ∨ _ ≤ w3.heap.size; have zz := Z_bW1.out; have z1 := S_1.out; have z2 := S_2.out; have z3 := S_3.out; have z4 := S_4.out; have z5 := S_5.out; have z6 := S_6.out; have z7 := S_7.out; have z8 := S_8.out; have z9 := S_9.out; have z10 := S_10.out; have z11 := S_11.out; have z12 := S_12.out; have mW := M_W.out; have mG := M_G.out; omega)
  have bW2_13 := hw.cell bW2_12 (by show w3.heap.size + 1 < _ ∨ _ ≤ w3.heap.size + 1; have zz := Z_bW2.out; have z1 := S_1.out; have z2 := S_2.out; have z3 := S_3.out; have z4 := S_4.out; have z5 := S_5.out; have z6 := S_6.out; have z7 := S_7.out; have z8 := S_8.out; have z9 := S_9.out; have z10 := S_10.out; have z11 := S_11.out; have z12 := S_12.out; have mW := M_W.out; have mG := M_G.out; omega)
  have bx0_13 := hw.cell bx0_12 (by show w5.heap.size < _ ∨ _ ≤ w5.heap.size; have zz := Z_bx0.out; have z1 := S_1.out; have z2 := S_2.out; have z3 := S_3.out; have z4 := S_4.out; have z5 := S_5.out; have z6 := S_6.out; have z7 := S_7.out; have z8 := S_8.out; have z9 := S_9.out; have z10 := S_10.out; have z11 := S_11.out; have z12 := S_12.out; have mW := M_W.out; have mG := M_G.out; omega)
  have bG1_13 := hw.cell bG1_12 (by show w7.heap.size < _ ∨ _ ≤ w7.heap.size; have zz := Z_bG1.out; have z1 := S_1.out; have z2 := S_2.out; have z3 := S_3.out; have z4 := S_4.out; have z5 := S_5.out; have z6 := S_6.out; have z7 := S_7.out; have z8 := S_8.out; have z9 := S_9.out; have z10 := S_10.out; have z11 := S_11.out; have z12 := S_12.out; have mW := M_W.out; have mG := M_G.out; omega)
  have bG2_13 := hw.cell bG2_12 (by show w7.heap.size + 1 < _ ∨ _ ≤ w7.heap.size + 1; have zz := Z_bG2.out; have z1 := S_1.out; have z2 := S_2.out; have z3 := S_3.out; have z4 := S_4.out; have z5 := S_5.out; have z6 := S_6.out; have z7 := S_7.out; have z8 := S_8.out; have z9 := S_9.out; have z10 := S_10.out; have z11 := S_11.out; have z12 := S_12.out; have mW := M_W.out; have mG := M_G.out; omega)
  have W1_13 := Lib.hid (W1_12.out.within hw (by have z1 := S_1.out; have z2 := S_2.out; have z3 := S_3.out; have z4 := S_4.out; have z5 := S_5.out; have z6 := S_6.out; have z7 := S_7.out; have z8 := S_8.out; have z9 := S_9.out; have z10 := S_10.out; have z11 := S_11.out; have z12 := S_12.out; have mW := M_W.out; have mG := M_G.out; omega))
  have W2_13 := Lib.hid (W2_12.out.within hw (by have z1 := S_1.out; have z2 := S_2.out; have z3 := S_3.out; have z4 := S_4.out; have z5 := S_5.out; have z6 := S_6.out; have z7 := S_7.out; have z8 := S_8.out; have z9 := S_9.out; have z10 := S_10.out; have z11 := S_11.out; have z12 := S_12.out; have mW := M_W.out; have mG := M_G.out; omega))
  have x0_13 := Lib.hid hrow
  have G1_13 := Lib.hid (G1_12.out.within hw (by have z1 := S_1.out; have z2 := S_2.out; have z3 := S_3.out; have z4 := S_4.out; have z5 := S_5.out; have z6 := S_6.out; have z7 := S_7.out; have z8 := S_8.out; have z9 := S_9.out; have z10 := S_10.out; have z11 := S_11.out; have z12 := S_12.out; have mW := M_W.out; have mG := M_G.out; omega))
  have G2_13 := Lib.hid (G2_12.out.within hw (by have z1 := S_1.out; have z2 := S_2.out; have z3 := S_3.out; have z4 := S_4.out; have z5 := S_5.out; have z6 := S_6.out; have z7 := S_7.out; have z8 := S_8.out; have z9 := S_9.out; have z10 := S_10.out; have z11 := S_11.out; have z12 := S_12.out; have mW := M_W.out; have mG := M_G.out; omega))
  have S_13 : Hid (w12.heap.size ≤ w13.heap.size) := hw.size
  clear hw hrow B_12 a0_12 bW1_12 bW2_12 bx0_12 bG1_12 bG2_12 W1_12 W2_12 x0_12 G1_12 G2_12
  go_wp2_with fail
  refine (XE.out _ _ _ _ _ G1_13.out.ints W1_13.out.ints).mono ?_
  rintro e w14 ⟨rfl, hb⟩
  have B_14 := Lib.hid (below_step B_13.out hb)
  have a0_14 := cell_kept a0_13 hb
  have bW1_14 := cell_kept bW1_13 hb
  have bW2_14 := cell_kept bW2_13 hb
  have bx0_14 := cell_kept bx0_13 hb
  have bG1_14 := cell_kept bG1_13 hb
  have bG2_14 := cell_kept bG2_13 hb
  have W1_14 := Lib.hid (W1_13.out.later hb)
  have W2_14 := Lib.hid (W2_13.out.later hb)
  have x0_14 := Lib.hid (x0_13.out.later hb)
  have G1_14 := Lib.hid (G1_13.out.later hb)
  have G2_14 := Lib.hid (G2_13.out.later hb)
  have S_14 : Hid (w13.heap.size ≤ w14.heap.size) := hb.size
  clear hb B_13 a0_13 bW1_13 bW2_13 bx0_13 bG1_13 bG2_13 W1_13 W2_13 x0_13 G1_13 G2_13
  go_wp2_with fail
  refine (YE.out _ _ _ _ _ G2_14.out.ints W2_14.out.ints).mono ?_
  rintro e w15 ⟨rfl, hb⟩
  have B_15 := Lib.hid (below_step B_14.out hb)
  have a0_15 := cell_kept a0_14 hb
  have bW1_15 := cell_kept bW1_14 hb
  have bW2_15 := cell_kept bW2_14 hb
  have bx0_15 := cell_kept bx0_14 hb
  have bG1_15 := cell_kept bG1_14 hb
  have bG2_15 := cell_kept bG2_14 hb
  have W1_15 := Lib.hid (W1_14.out.later hb)
  have W2_15 := Lib.hid (W2_14.out.later hb)
  have x0_15 := Lib.hid (x0_14.out.later hb)
  have G1_15 := Lib.hid (G1_14.out.later hb)
  have G2_15 := Lib.hid (G2_14.out.later hb)
  have S_15 : Hid (w14.heap.size ≤ w15.heap.size) := hb.size
  clear hb B_14 a0_14 bW1_14 bW2_14 bx0_14 bG1_14 bG2_14 W1_14 W2_14 x0_14 G1_14 G2_14
  clear x0_15
  go_wp2_with fail
  refine (XM.out _ _ _ _ _ G1_15.out).mono ?_
  rintro e w16 ⟨rfl, hw, hrow⟩
  have B_16 := Lib.hid (below_within B_15.out hw (by have z1 := S_1.out; have z2 := S_2.out; have z3 := S_3.out; have z4 := S_4.out; have z5 := S_5.out; have z6 := S_6.out; have z7 := S_7.out; have z8 := S_8.out; have z9 := S_9.out; have z10 := S_10.out; have z11 := S_11.out; have z12 := S_12.out; have z13 := S_13.out; have z14 := S_14.out; have z15 := S_15.out; have mW := M_W.out; have mG := M_G.out; omega))
  have a0_16 := hw.cell a0_15 (by show w.heap.size < _ ∨ _ ≤ w.heap.size; have z1 := S_1.out; have z2 := S_2.out; have z3 := S_3.out; have z4 := S_4.out; have z5 := S_5.out; have z6 := S_6.out; have z7 := S_7.out; have z8 := S_8.out; have z9 := S_9.out; have z10 := S_10.out; have z11 := S_11.out; have z12 := S_12.out; have z13 := S_13.out; have z14 := S_14.out; have z15 := S_15.out; have mW := M_W.out; have mG := M_G.out; omega)
  have bW1_16 := hw.cell bW1_15 (by show w3.heap.size < _ ∨ _ ≤ w3.heap.size; have zz := Z_bW1.out; have z1 := S_1.out; have z2 := S_2.out; have z3 := S_3.out; have z4 := S_4.out; have z5 := S_5.out; have z6 := S_6.out; have z7 := S_7.out; have z8 := S_8.out; have z9 := S_9.out; have z10 := S_10.out; have z11 := S_11.out; have z12 := S_12.out; have z13 := S_13.out; have z14 := S_14.out; have z15 := S_15.out; have mW := M_W.out; have mG := M_G.out; omega)
  have bW2_16 := hw.cell bW2_15 (by show w3.heap.size + 1 < _ ∨ _ ≤ w3.heap.size + 1; have zz := Z_bW2.out; have z1 := S_1.out; have z2 := S_2.out; have z3 := S_3.out; have z4 := S_4.out; have z5 := S_5.out; have z6 := S_6.out; have z7 := S_7.out; have z8 := S_8.out; have z9 := S_9.out; have z10 := S_10.out; have z11 := S_11.out; have z12 := S_12.out; have z13 := S_13.out; have z14 := S_14.out; have z15 := S_15.out; have mW := M_W.out; have mG := M_G.out; omega)
  have bx0_16 := hw.cell bx0_15 (by show w5.heap.size < _ ∨ _ ≤ w5.heap.size; have zz := Z_bx0.out; have z1 := S_1.out; have z2 := S_2.out; have z3 := S_3.out; have z4 := S_4.out; have z5 := S_5.out; have z6 := S_6.out; have z7 := S_7.out; have z8 := S_8.out; have z9 := S_9.out; have z10 := S_10.out; have z11 := S_11.out; have z12 := S_12.out; have z13 := S_13.out; have z14 := S_14.out; have z15 := S_15.out; have mW := M_W.out; have mG := M_G.out; omega)
  have bG1_16 := hw.cell bG1_15 (by show w7.heap.size < _ ∨ _ ≤ w7.heap.size; have zz := Z_bG1.out; have z1 := S_1.out; have z2 := S_2.out; have z3 := S_3.out; have z4 := S_4.out; have z5 := S_5.out; have z6 := S_6.out; have z7 := S_7.out; have z8 := S_8.out; have z9 := S_9.out; have z10 := S_10.out; have z11 := S_11.out; have z12 := S_12.out; have z13 := S_13.out; have z14 := S_14.out; have z15 := S_15.out; have mW := M_W.out; have mG := M_G.out; omega)
  have bG2_16 := hw.cell bG2_15 (by show w7.heap.size + 1 < _ ∨ _ ≤ w7.heap.size + 1; have zz := Z_bG2.out; have z1 := S_1.out; have z2 := S_2.out; have z3 := S_3.out; have z4 := S_4.out; have z5 := S_5.out; have z6 := S_6.out; have z7 := S_7.out; have z8 := S_8.out; have z9 := S_9.out; have z10 := S_10.out; have z11 := S_11.out; have z12 := S_12.out; have z13 := S_13.out; have z14 := S_14.out; have z15 := S_15.out; have mW := M_W.out; have mG := M_G.out; omega)
  have W1_16 := Lib.hid (W1_15.out.within hw (by have z1 := S_1.out; have z2 := S_2.out; have z3 := S_3.out; have z4 := S_4.out; have z5 := S_5.out; have z6 := S_6.out; have z7 := S_7.out; have z8 := S_8.out; have z9 := S_9.out; have z10 := S_10.out; have z11 := S_11.out; have z12 := S_12.out; have z13 := S_13.out; have z14 := S_14.out; have z15 := S_15.out; have mW := M_W.out; have mG := M_G.out; omega))
  have W2_16 := Lib.hid (W2_15.out.within hw (by have z1 := S_1.out; have z2 := S_2.out; have z3 := S_3.out; have z4 := S_4.out; have z5 := S_5.out; have z6 := S_6.out; have z7 := S_7.out; have z8 := S_8.out; have z9 := S_9.out; have z10 := S_10.out; have z11 := S_11.out; have z12 := S_12.out; have z13 := S_13.out; have z14 := S_14.out; have z15 := S_15.out; have mW := M_W.out; have mG := M_G.out; omega))
  have G1_16 := Lib.hid hrow
  have G2_16 := Lib.hid (G2_15.out.within hw (by have z1 := S_1.out; have z2 := S_2.out; have z3 := S_3.out; have z4 := S_4.out; have z5 := S_5.out; have z6 := S_6.out; have z7 := S_7.out; have z8 := S_8.out; have z9 := S_9.out; have z10 := S_10.out; have z11 := S_11.out; have z12 := S_12.out; have z13 := S_13.out; have z14 := S_14.out; have z15 := S_15.out; have mW := M_W.out; have mG := M_G.out; omega))
  have S_16 : Hid (w15.heap.size ≤ w16.heap.size) := hw.size
  clear hw hrow B_15 a0_15 bW1_15 bW2_15 bx0_15 bG1_15 bG2_15 W1_15 W2_15 G1_15 G2_15
  go_wp2_with fail
  refine (YM.out _ _ _ _ _ G2_16.out).mono ?_
  rintro e w17 ⟨rfl, hw, hrow⟩
  have B_17 := Lib.hid (below_within B_16.out hw (by have z1 := S_1.out; have z2 := S_2.out; have z3 := S_3.out; have z4 := S_4.out; have z5 := S_5.out; have z6 := S_6.out; have z7 := S_7.out; have z8 := S_8.out; have z9 := S_9.out; have z10 := S_10.out; have z11 := S_11.out; have z12 := S_12.out; have z13 := S_13.out; have z14 := S_14.out; have z15 := S_15.out; have z16 := S_16.out; have mW := M_W.out; have mG := M_G.out; omega))
  have a0_17 := hw.cell a0_16 (by show w.heap.size < _ ∨ _ ≤ w.heap.size; have z1 := S_1.out; have z2 := S_2.out; have z3 := S_3.out; have z4 := S_4.out; have z5 := S_5.out; have z6 := S_6.out; have z7 := S_7.out; have z8 := S_8.out; have z9 := S_9.out; have z10 := S_10.out; have z11 := S_11.out; have z12 := S_12.out; have z13 := S_13.out; have z14 := S_14.out; have z15 := S_15.out; have z16 := S_16.out; have mW := M_W.out; have mG := M_G.out; omega)
  have bW1_17 := hw.cell bW1_16 (by show w3.heap.size < _ ∨ _ ≤ w3.heap.size; have zz := Z_bW1.out; have z1 := S_1.out; have z2 := S_2.out; have z3 := S_3.out; have z4 := S_4.out; have z5 := S_5.out; have z6 := S_6.out; have z7 := S_7.out; have z8 := S_8.out; have z9 := S_9.out; have z10 := S_10.out; have z11 := S_11.out; have z12 := S_12.out; have z13 := S_13.out; have z14 := S_14.out; have z15 := S_15.out; have z16 := S_16.out; have mW := M_W.out; have mG := M_G.out; omega)
  have bW2_17 := hw.cell bW2_16 (by show w3.heap.size + 1 < _ ∨ _ ≤ w3.heap.size + 1; have zz := Z_bW2.out; have z1 := S_1.out; have z2 := S_2.out; have z3 := S_3.out; have z4 := S_4.out; have z5 := S_5.out; have z6 := S_6.out; have z7 := S_7.out; have z8 := S_8.out; have z9 := S_9.out; have z10 := S_10.out; have z11 := S_11.out; have z12 := S_12.out; have z13 := S_13.out; have z14 := S_14.out; have z15 := S_15.out; have z16 := S_16.out; have mW := M_W.out; have mG := M_G.out; omega)
  have bx0_17 := hw.cell bx0_16 (by show w5.heap.size < _ ∨ _ ≤ w5.heap.size; have zz := Z_bx0.out; have z1 := S_1.out; have z2 := S_2.out; have z3 := S_3.out; have z4 := S_4.out; have z5 := S_5.out; have z6 := S_6.out; have z7 := S_7.out; have z8 := S_8.out; have z9 := S_9.out; have z10 := S_10.out; have z11 := S_11.out; have z12 := S_12.out; have z13 := S_13.out; have z14 := S_14.out; have z15 := S_15.out; have z16 := S_16.out; have mW := M_W.out; have mG := M_G.out; omega)
  have bG1_17 := hw.cell bG1_16 (by show w7.heap.size < _ ∨ _ ≤ w7.heap.size; have zz := Z_bG1.out; have z1 := S_1.out; have z2 := S_2.out; have z3 := S_3.out; have z4 := S_4.out; have z5 := S_5.out; have z6 := S_6.out; have z7 := S_7.out; have z8 := S_8.out; have z9 := S_9.out; have z10 := S_10.out; have z11 := S_11.out; have z12 := S_12.out; have z13 := S_13.out; have z14 := S_14.out; have z15 := S_15.out; have z16 := S_16.out; have mW := M_W.out; have mG := M_G.out; omega)
  have bG2_17 := hw.cell bG2_16 (by show w7.heap.size + 1 < _ ∨ _ ≤ w7.heap.size + 1; have zz := Z_bG2.out; have z1 := S_1.out; have z2 := S_2.out; have z3 := S_3.out; have z4 := S_4.out; have z5 := S_5.out; have z6 := S_6.out; have z7 := S_7.out; have z8 := S_8.out; have z9 := S_9.out; have z10 := S_10.out; have z11 := S_11.out; have z12 := S_12.out; have z13 := S_13.out; have z14 := S_14.out; have z15 := S_15.out; have z16 := S_16.out; have mW := M_W.out; have mG := M_G.out; omega)
  have W1_17 := Lib.hid (W1_16.out.within hw (by have z1 := S_1.out; have z2 := S_2.out; have z3 := S_3.out; have z4 := S_4.out; have z5 := S_5.out; have z6 := S_6.out; have z7 := S_7.out; have z8 := S_8.out; have z9 := S_9.out; have z10 := S_10.out; have z11 := S_11.out; have z12 := S_12.out; have z13 := S_13.out; have z14 := S_14.out; have z15 := S_15.out; have z16 := S_16.out; have mW := M_W.out; have mG := M_G.out; omega))
  have W2_17 := Lib.hid (W2_16.out.within hw (by have z1 := S_1.out; have z2 := S_2.out; have z3 := S_3.out; have z4 := S_4.out; have z5 := S_5.out; have z6 := S_6.out; have z7 := S_7.out; have z8 := S_8.out; have z9 := S_9.out; have z10 := S_10.out; have z11 := S_11.out; have z12 := S_12.out; have z13 := S_13.out; have z14 := S_14.out; have z15 := S_15.out; have z16 := S_16.out; have mW := M_W.out; have mG := M_G.out; omega))
  have G1_17 := Lib.hid (G1_16.out.within hw (by have z1 := S_1.out; have z2 := S_2.out; have z3 := S_3.out; have z4 := S_4.out; have z5 := S_5.out; have z6 := S_6.out; have z7 := S_7.out; have z8 := S_8.out; have z9 := S_9.out; have z10 := S_10.out; have z11 := S_11.out; have z12 := S_12.out; have z13 := S_13.out; have z14 := S_14.out; have z15 := S_15.out; have z16 := S_16.out; have mW := M_W.out; have mG := M_G.out; omega))
  have G2_17 := Lib.hid hrow
  have S_17 : Hid (w16.heap.size ≤ w17.heap.size) := hw.size
  clear hw hrow B_16 a0_16 bW1_16 bW2_16 bx0_16 bG1_16 bG2_16 W1_16 W2_16 G1_16 G2_16
  go_wp2_with fail
  refine (XH.out _ _ _ _ _ G1_17.out).mono ?_
  rintro e w18 ⟨rfl, hb⟩
  have B_18 := Lib.hid (below_step B_17.out hb)
  have a0_18 := cell_kept a0_17 hb
  have bW1_18 := cell_kept bW1_17 hb
  have bW2_18 := cell_kept bW2_17 hb
  have bx0_18 := cell_kept bx0_17 hb
  have bG1_18 := cell_kept bG1_17 hb
  have bG2_18 := cell_kept bG2_17 hb
  have W1_18 := Lib.hid (W1_17.out.later hb)
  have W2_18 := Lib.hid (W2_17.out.later hb)
  have G1_18 := Lib.hid (G1_17.out.later hb)
  have G2_18 := Lib.hid (G2_17.out.later hb)
  have S_18 : Hid (w17.heap.size ≤ w18.heap.size) := hb.size
  clear hb B_17 a0_17 bW1_17 bW2_17 bx0_17 bG1_17 bG2_17 W1_17 W2_17 G1_17 G2_17
  go_wp2_with fail
  refine (YH.out _ _ _ _ _ G2_18.out).mono ?_
  rintro e w19 ⟨rfl, hb⟩
  have B_19 := Lib.hid (below_step B_18.out hb)
  have a0_19 := cell_kept a0_18 hb
  have bW1_19 := cell_kept bW1_18 hb
  have bW2_19 := cell_kept bW2_18 hb
  have bx0_19 := cell_kept bx0_18 hb
  have bG1_19 := cell_kept bG1_18 hb
  have bG2_19 := cell_kept bG2_18 hb
  have W1_19 := Lib.hid (W1_18.out.later hb)
  have W2_19 := Lib.hid (W2_18.out.later hb)
  have G1_19 := Lib.hid (G1_18.out.later hb)
  have G2_19 := Lib.hid (G2_18.out.later hb)
  have S_19 : Hid (w18.heap.size ≤ w19.heap.size) := hb.size
  clear hb B_18 a0_18 bW1_18 bW2_18 bx0_18 bG1_18 bG2_18 W1_18 W2_18 G1_18 G2_18
  go_wp2_with fail
  refine (T0.out _ B_19.out).mono ?_
  rintro e w20 ⟨gv0, rfl, hb, ho⟩
  have B_20 := Lib.hid (below_step B_19.out hb)
  have a0_20 := cell_kept a0_19 hb
  have bW1_20 := cell_kept bW1_19 hb
  have bW2_20 := cell_kept bW2_19 hb
  have bx0_20 := cell_kept bx0_19 hb
  have bG1_20 := cell_kept bG1_19 hb
  have bG2_20 := cell_kept bG2_19 hb
  have W1_20 := Lib.hid (W1_19.out.later hb)
  have W2_20 := Lib.hid (W2_19.out.later hb)
  have G1_20 := Lib.hid (G1_19.out.later hb)
  have G2_20 := Lib.hid (G2_19.out.later hb)
  have S_20 : Hid (w19.heap.size ≤ w20.heap.size) := hb.size
  have v0_20 := Lib.hid ho
  clear hb ho B_19 a0_19 bW1_19 bW2_19 bx0_19 bG1_19 bG2_19 W1_19 W2_19 G1_19 G2_19
  go_wp2_with fail
  refine (CI.out _ _ _ _ B_20.out v0_20.out).mono ?_
  rintro e w21 ⟨AH1, cH1, AH2, cH2, lH1, hH1, lH2, hH2, rfl, hb, hm, ho1, ho2⟩
  have B_21 := Lib.hid (below_step B_20.out hb)
  have a0_21 := cell_kept a0_20 hb
  have bW1_21 := cell_kept bW1_20 hb
  have bW2_21 := cell_kept bW2_20 hb
  have bx0_21 := cell_kept bx0_20 hb
  have bG1_21 := cell_kept bG1_20 hb
  have bG2_21 := cell_kept bG2_20 hb
  have W1_21 := Lib.hid (W1_20.out.later hb)
  have W2_21 := Lib.hid (W2_20.out.later hb)
  have G1_21 := Lib.hid (G1_20.out.later hb)
  have G2_21 := Lib.hid (G2_20.out.later hb)
  have v0_21 := Lib.hid (v0_20.out.later hb)
  have S_21 : Hid (w20.heap.size ≤ w21.heap.size) := hb.size
  have H1_21 := Lib.hid ho1
  have H2_21 := Lib.hid ho2
  have M_H := Lib.hid hm
  clear hb ho1 ho2 B_20 a0_20 bW1_20 bW2_20 bx0_20 bG1_20 bG2_20 W1_20 W2_20 G1_20 G2_20 v0_20 hm
  have hb : Below w21.heap.size w21 ((w21.alloc (.cells #[.slice AH1 nX cH1] 27)).alloc (.cells #[.slice AH2 nY cH2] 27)) := (below_box w21 _).alloc (by simp) _
  have hc1 : ((w21.alloc (.cells #[.slice AH1 nX cH1] 27)).alloc (.cells #[.slice AH2 nY cH2] 27)).cell? ⟨w21.heap.size, 0, none⟩ = some (.slice AH1 nX cH1) := by simp [go_sem]
  have hc2 : ((w21.alloc (.cells #[.slice AH1 nX cH1] 27)).alloc (.cells #[.slice AH2 nY cH2] 27)).cell? ⟨w21.heap.size + 1, 0, none⟩ = some (.slice AH2 nY cH2) := by simp [go_sem]
  have hz : ((w21.alloc (.cells #[.slice AH1 nX cH1] 27)).alloc (.cells #[.slice AH2 nY cH2] 27)).heap.size = w21.heap.size + 2 := by simp
  obtain ⟨w22, hW22⟩ : ∃ W, (w21.alloc (.cells #[.slice AH1 nX cH1] 27)).alloc (.cells #[.slice AH2 nY cH2] 27) = W := ⟨_, rfl⟩
  rw [hW22] at hb hc1 hc2 hz
  have B_22 := Lib.hid (below_step B_21.out hb)
  have a0_22 := cell_kept a0_21 hb
  have bW1_22 := cell_kept bW1_21 hb
  have bW2_22 := cell_kept bW2_21 hb
  have bx0_22 := cell_kept bx0_21 hb
  have bG1_22 := cell_kept bG1_21 hb
  have bG2_22 := cell_kept bG2_21 hb
  have W1_22 := Lib.hid (W1_21.out.later hb)
  have W2_22 := Lib.hid (W2_21.out.later hb)
  have G1_22 := Lib.hid (G1_21.out.later hb)
  have G2_22 := Lib.hid (G2_21.out.later hb)
  have v0_22 := Lib.hid (v0_21.out.later hb)
  have H1_22 := Lib.hid (H1_21.out.later hb)
  have H2_22 := Lib.hid (H2_21.out.later hb)
  have S_22 : Hid (w21.heap.size ≤ w22.heap.size) := hb.size
  have bH1_22 := hc1
  have bH2_22 := hc2
  have Z_bH1 : Hid (w21.heap.size < w22.heap.size) := by show _ < _; omega
  have Z_bH2 : Hid (w21.heap.size + 1 < w22.heap.size) := by show _ < _; omega
  clear hz hb hc1 hc2 B_21 a0_21 bW1_21 bW2_21 bx0_21 bG1_21 bG2_21 W1_21 W2_21 G1_21 G2_21 v0_21 H1_21 H2_21
  go_wp2_with fail
  refine (XE.out _ _ _ _ _ H1_22.out.ints W1_22.out.ints).mono ?_
  rintro e w23 ⟨rfl, hb⟩
  have B_23 := Lib.hid (below_step B_22.out hb)
  have a0_23 := cell_kept a0_22 hb
  have bW1_23 := cell_kept bW1_22 hb
  have bW2_23 := cell_kept bW2_22 hb
  have bx0_23 := cell_kept bx0_22 hb
  have bG1_23 := cell_kept bG1_22 hb
  have bG2_23 := cell_kept bG2_22 hb
  have bH1_23 := cell_kept bH1_22 hb
  have bH2_23 := cell_kept bH2_22 hb
  have W1_23 := Lib.hid (W1_22.out.later hb)
  have W2_23 := Lib.hid (W2_22.out.later hb)
  have G1_23 := Lib.hid (G1_22.out.later hb)
  have G2_23 := Lib.hid (G2_22.out.later hb)
  have v0_23 := Lib.hid (v0_22.out.later hb)
  have H1_23 := Lib.hid (H1_22.out.later hb)
  have H2_23 := Lib.hid (H2_22.out.later hb)
  have S_23 : Hid (w22.heap.size ≤ w23.heap.size) := hb.size
  clear hb B_22 a0_22 bW1_22 bW2_22 bx0_22 bG1_22 bG2_22 bH1_22 bH2_22 W1_22 W2_22 G1_22 G2_22 v0_22 H1_22 H2_22
  go_wp2_with fail
  refine (YE.out _ _ _ _ _ H2_23.out.ints W2_23.out.ints).mono ?_
  rintro e w24 ⟨rfl, hb⟩
  have B_24 := Lib.hid (below_step B_23.out hb)
  have a0_24 := cell_kept a0_23 hb
  have bW1_24 := cell_kept bW1_23 hb
  have bW2_24 := cell_kept bW2_23 hb
  have bx0_24 := cell_kept bx0_23 hb
  have bG1_24 := cell_kept bG1_23 hb
  have bG2_24 := cell_kept bG2_23 hb
  have bH1_24 := cell_kept bH1_23 hb
  have bH2_24 := cell_kept bH2_23 hb
  have W1_24 := Lib.hid (W1_23.out.later hb)
  have W2_24 := Lib.hid (W2_23.out.later hb)
  have G1_24 := Lib.hid (G1_23.out.later hb)
  have G2_24 := Lib.hid (G2_23.out.later hb)
  have v0_24 := Lib.hid (v0_23.out.later hb)
  have H1_24 := Lib.hid (H1_23.out.later hb)
  have H2_24 := Lib.hid (H2_23.out.later hb)
  have S_24 : Hid (w23.heap.size ≤ w24.heap.size) := hb.size
  clear hb B_23 a0_23 bW1_23 bW2_23 bx0_23 bG1_23 bG2_23 bH1_23 bH2_23 W1_23 W2_23 G1_23 G2_23 v0_23 H1_23 H2_23
  go_wp2_with fail
  refine (XH.out _ _ _ _ _ G1_24.out).mono ?_
  rintro e w25 ⟨rfl, hb⟩
  have B_25 := Lib.hid (below_step B_24.out hb)
  have a0_25 := cell_kept a0_24 hb
  have bW1_25 := cell_kept bW1_24 hb
  have bW2_25 := cell_kept bW2_24 hb
  have bx0_25 := cell_kept bx0_24 hb
  have bG1_25 := cell_kept bG1_24 hb
  have bG2_25 := cell_kept bG2_24 hb
  have bH1_25 := cell_kept bH1_24 hb
  have bH2_25 := cell_kept bH2_24 hb
  have W1_25 := Lib.hid (W1_24.out.later hb)
  have W2_25 := Lib.hid (W2_24.out.later hb)
  have G1_25 := Lib.hid (G1_24.out.later hb)
  have G2_25 := Lib.hid (G2_24.out.later hb)
  have v0_25 := Lib.hid (v0_24.out.later hb)
  have H1_25 := Lib.hid (H1_24.out.later hb)
  have H2_25 := Lib.hid (H2_24.out.later hb)
  have S_25 : Hid (w24.heap.size ≤ w25.heap.size) := hb.size
  clear hb B_24 a0_24 bW1_24 bW2_24 bx0_24 bG1_24 bG2_24 bH1_24 bH2_24 W1_24 W2_24 G1_24 G2_24 v0_24 H1_24 H2_24
  go_wp2_with fail
  refine (YH.out _ _ _ _ _ G2_25.out).mono ?_
  rintro e w26 ⟨rfl, hb⟩
  have B_26 := Lib.hid (below_step B_25.out hb)
  have a0_26 := cell_kept a0_25 hb
  have bW1_26 := cell_kept bW1_25 hb
  have bW2_26 := cell_kept bW2_25 hb
  have bx0_26 := cell_kept bx0_25 hb
  have bG1_26 := cell_kept bG1_25 hb
  have bG2_26 := cell_kept bG2_25 hb
  have bH1_26 := cell_kept bH1_25 hb
  have bH2_26 := cell_kept bH2_25 hb
  have W1_26 := Lib.hid (W1_25.out.later hb)
  have W2_26 := Lib.hid (W2_25.out.later hb)
  have G1_26 := Lib.hid (G1_25.out.later hb)
  have G2_26 := Lib.hid (G2_25.out.later hb)
  have v0_26 := Lib.hid (v0_25.out.later hb)
  have H1_26 := Lib.hid (H1_25.out.later hb)
  have H2_26 := Lib.hid (H2_25.out.later hb)
  have S_26 : Hid (w25.heap.size ≤ w26.heap.size) := hb.size
  clear hb B_25 a0_25 bW1_25 bW2_25 bx0_25 bG1_25 bG2_25 bH1_25 bH2_25 W1_25 W2_25 G1_25 G2_25 v0_25 H1_25 H2_25
  go_wp2
  go_ret
  exact ⟨rfl, B_26.out⟩

theorem walk (A0 : Option Addr) (c0 : Nat) (X0 : List Int) {y0 : World} (h0 : Ints y0 y0.heap.size A0 X0) (l0 : X0.length ≤ 9223372036854775807) (_ : ∀ n ∈ X0, (Lit.int .i64 n).wf = true) (x1 : Int) (_ : (Lit.int .i64 x1).wf = true) (w : World) (e0 : y0 = w) :
    Calls Try.prog 7 #[.agg #[.slice A0 X0.length c0], .int .i64 x1] w fun e w' => e = .returned (.bool true) ∧ Below w.heap.size w w' := by
  subst e0
  by_cases hb0 : 1048576 < X0.length
  · exact walk_big A0 c0 X0.length x1 _ l0 hb0
  have hm0 : X0.length ≤ 1048576 := by omega
  have hx := splitA_length X0 x1
  have hy := splitB_length X0 x1
  have hx : (splitA X0 x1).length ≤ 1048576 := by omega
  have hy : (splitB X0 x1).length ≤ 1048576 := by omega
  refine walk_small A0 c0 X0 x1 (splitA X0 x1) (splitB X0 x1) (splitC X0 x1) _ h0 hm0 hx hy (fun W A0 B0 hW hP0 hB0 => ?_) (fun W A0 B0 hW hP0 hB0 => ?_)
  · exact specSplit_any A0 X0.length X0 B0 x1 W hP0 hB0 hm0 (Nat.le_refl _) (by omega)
  · exact implSplit_any A0 X0.length X0 B0 x1 W hP0 hB0 hm0 (Nat.le_refl _) (by omega)

set_option maxRecDepth 100000 in
theorem lifted (os : Os) (started : os.Started) (H : Type) (enc : TypeId × Value → H) :
    ReturnsInHanded {} Try.checked os 7 .any (Rows.fnExactSplitCounterSpec.pre6 enc Try.prog Try.f7 Rows.fnExactSplitCounterRow.domain false) (Rows.fnExactSplitCounterSpec.post enc Try.prog Try.f7 false true false false) := by
  refine returnsInHanded_of_change (C := Try.checked) own started (by kernel_rfl) Try.func7
    (ChangeSpec.witness6 (enc := enc) (C := Try.checked) false ⟨#[], #[.agg #[.slice none 0 0], .int .i64 0], []⟩ 8 (by kernel_rfl) (by kernel_rfl) (by kernel_rfl) (by kernel_rfl)) ?_
  intro W base args ds gs before hval0 hW _ _
  have hval : ∀ (j : Nat) t v, Try.f7.params[j]? = some t → args[j]? = some v → Value.okWide Try.prog W .any base t v := hval0
  have hW' := hW
  obtain ⟨p, q, hA0, hV, rfl, _, _⟩ := hW
  have hA : DataW.TrodAll enc Try.prog W 0 (fun _ => true) true Try.f7.params.toList args.toList ds p := hA0
  rw [Try.params7] at hA hval
  obtain ⟨v0, vs0, d0, ds0, p0, q0, hargs, rfl, rfl, h0, r0⟩ := trodAll_cons hA
  obtain ⟨v1, vs1, d1, ds1, p1, q1, rfl, rfl, rfl, h1, r1⟩ := trodAll_cons r0
  obtain ⟨rfl, rfl, rfl⟩ := trodAll_nil r1
  obtain rfl : args = #[v0, v1] := by cases args; simp_all
  obtain ⟨rfl, rfl⟩ := trodVars_none hV
  obtain ⟨A0, c0, xs0, rfl, i0, l0, w0⟩ := open_card (hval 0 24 v0 rfl rfl) h0
  obtain ⟨a1, rfl, rfl, rfl, w1⟩ := open_int Try.underlying2 (hval 1 2 v1 rfl rfl) h1
  refine (walk A0 c0 xs0 i0 l0 w0 a1 w1 W rfl).mono fun e W' ⟨he, hb⟩ => ?_
  subst he
  refine ⟨_, rfl, law_post hW' rfl rfl ?_ rfl rfl rfl hb⟩
  intro t ht
  rw [Try.params7] at ht
  have ht' : t = 24 ∨ t = 2 := by simpa using ht
  rcases ht' with rfl | rfl <;> exact ⟨by kernel_rfl, of_decide_eq_true (by kernel_rfl)⟩

theorem over : Rows.fnExactSplitCounterRow.holds Try.pinned (OpenSpec.ofChange Rows.fnExactSplitCounterSpec) :=
  OpenClaim.holds_of_wide 7 Try.f7 rfl rfl rfl rfl rfl rfl rfl ⟨rfl, rfl, rfl, rfl, rfl⟩ rfl rfl rfl rfl rfl (by kernel_rfl) Try.func7 (by kernel_rfl)
    (of_decide_eq_true (by kernel_rfl)) (by unfold Func.isWrapper; first | (rw [if_pos (by decide +kernel)]; kernel_rfl) | (rw [if_neg (by decide +kernel)]; exact ⟨rfl, rfl⟩))
    (fun os started H enc _ => lifted os started H enc)

theorem proved : Rows.FnExactSplitCounterSaid :=
  over
end Go.Proofs.Ytkiphejkgpfjjaa.fnExactSplitCounter
