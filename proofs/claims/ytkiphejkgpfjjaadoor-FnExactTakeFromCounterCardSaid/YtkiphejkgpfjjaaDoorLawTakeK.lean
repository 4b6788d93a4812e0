/- For every counter and number, the law FnExactTakeFromCounter returns true: impl.TakeFromCounter answers as spec.TakeFromCounter, in memory of its own, and leaves its arguments as it was. Condition: the library's table of powers of ten and the two errors of impl.dial hold what the program's text lays in them (the card ties that). -/
import Derived.Test.YtkiphejkgpfjjaaDoorCounter
import Derived.Test.YtkiphejkgpfjjaaDoorCntTakeI
import Derived.Test.YtkiphejkgpfjjaaDoorCntLaid
import Derived.Test.YtkiphejkgpfjjaaDoorLaw
import Derived.Test.YtkiphejkgpfjjaaDoorBoxed
import Derived.Test.YtkiphejkgpfjjaaDoorCardAt
import Derived.Deep.RegionHeld3
import Derived.Deep.DeepCutAuto
import Derived.Laws.NewDeep
import Derived.Test.YtkiphejkgpfjjaaDoorCards
import Derived.Test.YtkiphejkgpfjjaaDoorTie
import Derived.LaidMore
import Derived.OpenVars
import Derived.Stop.Joined
import Derived.Stop.LaidErr
namespace Go.Proofs.YtkiphejkgpfjjaaDoor.fnExactTakeFromCounter
open Go.ChangeShapes Go.WideShapes Go.ChangeAt Go.RowKit

theorem walk_big0 (A0 : Option Addr) (c0 : Nat) (X0 : List Int) (x1 : Int) (w : World) (h0 : Ints w w.heap.size A0 X0) (l0 : X0.length ≤ 9223372036854775807)  (hbig : 1048576 < (X0.length : Int)) :
    Calls Tryd.prog 5 #[.agg #[.slice A0 X0.length c0], .int .i64 x1] w fun e w' => e = .returned (.bool true) ∧ Below w.heap.size w w' := by
  have z0 := fun (W : World) (_ : Below w.heap.size w W) => szCard_any A0 X0.length c0 (1048576) W (by omega) (by omega) (by omega)
  have e0 : (if (1048576) < (X0.length : Int) then (-1 : Int) else 1048576 - X0.length) = -1 := if_pos (by omega)
  simp only [e0] at z0
  clear e0
  obtain ⟨n0, hn0⟩ : ∃ n, X0.length = n := ⟨_, rfl⟩
  rw [hn0] at hbig
  simp only [hn0] at z0 ⊢
  have Z0 := Lib.hid z0
  clear z0 hn0 h0 l0
  go_enter Tryd.func5, Tryd.ntmps5
  go_wp2_with fail
  refine (Z0.out _ (below_box w _)).mono ?_
  rintro e w1 ⟨rfl, hb⟩
  have B_1 := Lib.hid (below_step (below_box w _) hb)
  have a0_1 := cell_kept (p := ⟨w.heap.size, 0, none⟩) (v := .slice A0 n0 c0) (by simp [go_sem]) hb
  have S_1 : Hid (w.heap.size + 1 ≤ w1.heap.size) := by show _ ≤ _; have := hb.size; simpa using this
  clear hb
  go_wp2
  go_ret
  exact ⟨rfl, B_1.out⟩

set_option maxRecDepth 100000 in
set_option maxHeartbeats 8000000 in
theorem walk_small (A0 : Option Addr) (c0 : Nat) (X0 : List Int) (x1 : Int) (X : List Int) (u : Bool) (v : Int) (w : World) (h0 : Ints w w.heap.size A0 X0) (hs : (X0.length : Int) ≤ 1048576) (hx : X.length ≤ 1048576)
    (hv : ∀ (W : World) (A0 : Option Addr) (B0 : Nat), Below w.heap.size w W → Ints W B0 A0 X0 → B0 ≤ W.heap.size → Calls Tryd.prog 18 #[.agg #[.slice A0 X0.length X0.length], .int .i64 x1] W (GivesKB X u v W))
    (hi : ∀ (W : World) (A0 : Option Addr) (B0 : Nat), Below w.heap.size w W → Ints W B0 A0 X0 → B0 ≤ W.heap.size → Calls Tryd.prog 19 #[.agg #[.slice A0 X0.length X0.length], .int .i64 x1] W (GivesKB X u v W)) :
    Calls Tryd.prog 5 #[.agg #[.slice A0 X0.length c0], .int .i64 x1] w fun e w' => e = .returned (.bool true) ∧ Below w.heap.size w w' := by
  have z0 := fun (W : World) (_ : Below w.heap.size w W) => szCard_any A0 X0.length c0 (1048576) W (by omega) (by omega) (by omega)
  have e0 : (if (1048576) < (X0.length : Int) then (-1 : Int) else 1048576 - X0.length) = 1048576 - X0.length := if_neg (by omega)
  simp only [e0] at z0
  clear e0
  have hm0 : X0.length ≤ 1048576 := by omega
  have t0 := fun W (hW : Below w.heap.size w W) => toCardAt_any A0 c0 X0 w.heap.size W (h0.below hW) hW.size hm0
  have q0 := fun A A' W (hA : Ints W W.heap.size A X0) (hA' : Ints W W.heap.size A' X0) => eqCardAt_any A A' X0.length X0.length X0 W hA hA' hm0
  have r0 := fun A lo hi W (k : Int) (h0 : 0 ≤ k) (h1 : k ≤ 4194304) (hA : IAt W lo hi A X0) => markCardAt_any A X0.length X0 lo hi k W hA h0 h1 hm0
  have xe := fun A A' c c' W h h' => eqCardAt_any A A' c c' X W h h' hx
  have xm := fun A c lo hi W (h : IAt W lo hi A X) => markCardAt_any A c X lo hi 1 W h (by omega) (by omega) hx
  have xh := fun A c lo hi W (h : IAt W lo hi A (marks 1 X.length)) => heldCardAt_any A c X lo hi 1 W h (by omega) (by omega) hx
  have gx : ¬ 1 + (X.length : Int) < 0 := by omega
  obtain ⟨nX, hnX⟩ : ∃ n, X.length = n := ⟨_, rfl⟩
  have cv : ∀ (W : World) (g0 lo0 hi0 : Nat), Below w.heap.size w W → IAt W lo0 hi0 (some ⟨g0, 0, none⟩) X0 → Calls Tryd.prog 18 #[.agg #[.slice (some ⟨g0, 0, none⟩) X0.length X0.length], .int .i64 x1] W (GivesKB X u v W) := fun W g0 lo0 hi0 hW hO0 => by
    have := hv W (some ⟨g0, 0, none⟩) W.heap.size hW hO0.ints (Nat.le_refl _)
    exact this
  have ci : ∀ (W : World) (g0 lo0 hi0 : Nat), Below w.heap.size w W → IAt W lo0 hi0 (some ⟨g0, 0, none⟩) X0 → Calls Tryd.prog 19 #[.agg #[.slice (some ⟨g0, 0, none⟩) X0.length X0.length], .int .i64 x1] W (GivesKB X u v W) := fun W g0 lo0 hi0 hW hO0 => by
    have := hi W (some ⟨g0, 0, none⟩) W.heap.size hW hO0.ints (Nat.le_refl _)
    exact this
  unfold GivesKB at cv ci
  simp only [hnX] at xe xm xh gx cv ci
  obtain ⟨n0, hn0⟩ : ∃ n, X0.length = n := ⟨_, rfl⟩
  simp only [hn0] at z0 t0 q0 r0 cv ci hs ⊢
  have Z0 := Lib.hid z0
  have T0 := Lib.hid t0
  have Q0 := Lib.hid q0
  have R0 := Lib.hid r0
  have XE := Lib.hid xe
  have XM := Lib.hid xm
  have XH := Lib.hid xh
  have CV := Lib.hid cv
  have CI := Lib.hid ci
  have g0 : ¬ 1048576 - (n0 : Int) < 0 := by omega
  have kb0 : 0 ≤ (1 : Int) ∧ (1 : Int) ≤ 4194304 := by omega
  have gk : ¬ 1 + (n0 : Int) < 0 := by omega
  clear cv ci hv hi xe xm xh hnX z0 t0 q0 r0 hn0 h0 hm0
  go_enter Tryd.func5, Tryd.ntmps5
  go_wp2_with fail
  refine (Z0.out _ (below_box w _)).mono ?_
  rintro e w1 ⟨rfl, hb⟩
  have B_1 := Lib.hid (below_step (below_box w _) hb)
  have a0_1 := cell_kept (p := ⟨w.heap.size, 0, none⟩) (v := .slice A0 n0 c0) (by simp [go_sem]) hb
  have S_1 : Hid (w.heap.size + 1 ≤ w1.heap.size) := by show _ ≤ _; have := hb.size; simpa using this
  clear hb
  go_wp2_with fail
  refine (T0.out _ B_1.out).mono ?_
  rintro e w2 ⟨gw0, rfl, hb, ho⟩
  have B_2 := Lib.hid (below_step B_1.out hb)
  have a0_2 := cell_kept a0_1 hb
  have S_2 : Hid (w1.heap.size ≤ w2.heap.size) := hb.size
  have w0_2 := Lib.hid ho
  clear hb ho B_1 a0_1
  go_wp2_with fail
  refine (CV.out _ _ _ _ B_2.out w0_2.out).mono ?_
  rintro e w3 ⟨AW, cW, rfl, hb, ho⟩
  have B_3 := Lib.hid (below_step B_2.out hb)
  have a0_3 := cell_kept a0_2 hb
  have w0_3 := Lib.hid (w0_2.out.later hb)
  have S_3 : Hid (w2.heap.size ≤ w3.heap.size) := hb.size
  have W_3 := Lib.hid ho
  clear hb ho B_2 a0_2 w0_2
  have hb := below_box w3 (.cells #[.slice AW nX cW] 24)
  have hc := new_cell w3 (.slice AW nX cW) 24
  obtain ⟨w4, hW4⟩ : ∃ W, w3.alloc (.cells #[.slice AW nX cW] 24) = W := ⟨_, rfl⟩
  rw [hW4] at hb hc
  have B_4 := Lib.hid (below_step B_3.out hb)
  have a0_4 := cell_kept a0_3 hb
  have w0_4 := Lib.hid (w0_3.out.later hb)
  have W_4 := Lib.hid (W_3.out.later hb)
  have S_4 : Hid (w3.heap.size ≤ w4.heap.size) := hb.size
  have bW_4 := hc
  clear hb hc B_3 a0_3 w0_3 W_3
  have Z_bW : Hid (w3.heap.size < w4.heap.size) := by show _ < _; rw [← hW4, World.size_alloc]; omega
  clear w0_4
  go_wp2_with fail
  refine (T0.out _ B_4.out).mono ?_
  rintro e w5 ⟨gx0, rfl, hb, ho⟩
  have B_5 := Lib.hid (below_step B_4.out hb)
  have a0_5 := cell_kept a0_4 hb
  have bW_5 := cell_kept bW_4 hb
  have W_5 := Lib.hid (W_4.out.later hb)
  have S_5 : Hid (w4.heap.size ≤ w5.heap.size) := hb.size
  have x0_5 := Lib.hid ho
  clear hb ho B_4 a0_4 bW_4 W_4
  have hb := below_box w5 (.cells #[.slice (some ⟨gx0, 0, none⟩) n0 n0] 24)
  have hc := new_cell w5 (.slice (some ⟨gx0, 0, none⟩) n0 n0) 24
  obtain ⟨w6, hW6⟩ : ∃ W, w5.alloc (.cells #[.slice (some ⟨gx0, 0, none⟩) n0 n0] 24) = W := ⟨_, rfl⟩
  rw [hW6] at hb hc
  have B_6 := Lib.hid (below_step B_5.out hb)
  have a0_6 := cell_kept a0_5 hb
  have bW_6 := cell_kept bW_5 hb
  have W_6 := Lib.hid (W_5.out.later hb)
  have x0_6 := Lib.hid (x0_5.out.later hb)
  have S_6 : Hid (w5.heap.size ≤ w6.heap.size) := hb.size
  have bx0_6 := hc
  clear hb hc B_5 a0_5 bW_5 W_5 x0_5
  have Z_bx0 : Hid (w5.heap.size < w6.heap.size) := by show _ < _; rw [← hW6, World.size_alloc]; omega
  go_wp2_with fail
  refine (CI.out _ _ _ _ B_6.out x0_6.out).mono ?_
  rintro e w7 ⟨AG, cG, rfl, hb, ho⟩
  have B_7 := Lib.hid (below_step B_6.out hb)
  have a0_7 := cell_kept a0_6 hb
  have bW_7 := cell_kept bW_6 hb
  have bx0_7 := cell_kept bx0_6 hb
  have W_7 := Lib.hid (W_6.out.later hb)
  have x0_7 := Lib.hid (x0_6.out.later hb)
  have S_7 : Hid (w6.heap.size ≤ w7.heap.size) := hb.size
  have G_7 := Lib.hid ho
  clear hb ho B_6 a0_6 bW_6 bx0_6 W_6 x0_6
  have hb := below_box w7 (.cells #[.slice AG nX cG] 24)
  have hc := new_cell w7 (.slice AG nX cG) 24
  obtain ⟨w8, hW8⟩ : ∃ W, w7.alloc (.cells #[.slice AG nX cG] 24) = W := ⟨_, rfl⟩
  rw [hW8] at hb hc
  have B_8 := Lib.hid (below_step B_7.out hb)
  have a0_8 := cell_kept a0_7 hb
  have bW_8 := cell_kept bW_7 hb
  have bx0_8 := cell_kept bx0_7 hb
  have W_8 := Lib.hid (W_7.out.later hb)
  have x0_8 := Lib.hid (x0_7.out.later hb)
  have G_8 := Lib.hid (G_7.out.later hb)
  have S_8 : Hid (w7.heap.size ≤ w8.heap.size) := hb.size
  have bG_8 := hc
  clear hb hc B_7 a0_7 bW_7 bx0_7 W_7 x0_7 G_7
  have Z_bG : Hid (w7.heap.size < w8.heap.size) := by show _ < _; rw [← hW8, World.size_alloc]; omega
  go_wp2_with fail
  refine (XE.out _ _ _ _ _ G_8.out.ints W_8.out.ints).mono ?_
  rintro e w9 ⟨rfl, hb⟩
  have B_9 := Lib.hid (below_step B_8.out hb)
  have a0_9 := cell_kept a0_8 hb
  have bW_9 := cell_kept bW_8 hb
  have bx0_9 := cell_kept bx0_8 hb
  have bG_9 := cell_kept bG_8 hb
  have W_9 := Lib.hid (W_8.out.later hb)
  have x0_9 := Lib.hid (x0_8.out.later hb)
  have G_9 := Lib.hid (G_8.out.later hb)
  have S_9 : Hid (w8.heap.size ≤ w9.heap.size) := hb.size
  clear hb B_8 a0_8 bW_8 bx0_8 bG_8 W_8 x0_8 G_8
  go_wp2
  go_region_held3 (fun W => W.cell? ⟨w5.heap.size, 0, none⟩ = some (.slice (some ⟨gx0, 0, none⟩) n0 n0) ∧ W.cell? ⟨w.heap.size, 0, none⟩ = some (.slice A0 n0 c0))
    (first | exact ⟨bx0_9, a0_9⟩ | exact ⟨bx0_10, a0_10⟩ | exact ⟨bx0_11, a0_11⟩)
    (first
      | (go_at_call 16
         refine (T0.out _ B_9.out.drew).mono ?_
         rintro e w10 ⟨gz0, rfl, hb, ho⟩
         have B_10 := Lib.hid (below_step B_9.out.drew hb)
         have a0_10 := cell_kept (w := w9.drew) a0_9 hb
         have bW_10 := cell_kept (w := w9.drew) bW_9 hb
         have bx0_10 := cell_kept (w := w9.drew) bx0_9 hb
         have bG_10 := cell_kept (w := w9.drew) bG_9 hb
         have W_10 := Lib.hid (W_9.out.drew.later hb)
         have x0_10 := Lib.hid (x0_9.out.drew.later hb)
         have G_10 := Lib.hid (G_9.out.drew.later hb)
         have S_10 : Hid (w9.heap.size ≤ w10.heap.size) := hb.size
         have z0_10 := Lib.hid ho
         clear hb ho)
      | (go_at_call 11
         refine (Q0.out _ _ _ x0_10.out.ints z0_10.out.ints).mono ?_
         rintro e w11 ⟨rfl, hb⟩
         have B_11 := Lib.hid (below_step B_10.out hb)
         have a0_11 := cell_kept a0_10 hb
         have bW_11 := cell_kept bW_10 hb
         have bx0_11 := cell_kept bx0_10 hb
         have bG_11 := cell_kept bG_10 hb
         have W_11 := Lib.hid (W_10.out.later hb)
         have x0_11 := Lib.hid (x0_10.out.later hb)
         have G_11 := Lib.hid (G_10.out.later hb)
         have z0_11 := Lib.hid (z0_10.out.later hb)
         have S_11 : Hid (w10.heap.size ≤ w11.heap.size) := hb.size
         clear hb))
  clear B_9 a0_9 bW_9 bx0_9 bG_9 W_9 x0_9 G_9 B_10 a0_10 bW_10 bx0_10 bG_10 W_10 x0_10 G_10 z0_10
  clear z0_11
  go_wp2_with fail
  refine (R0.out _ _ _ _ _ kb0.1 kb0.2 x0_11.out).mono ?_
  rintro e w12 ⟨rfl, hw, hrow⟩
  have B_12 := Lib.hid (below_within B_11.out hw (by have z1 := S_1.out; have z2 := S_2.out; have z3 := S_3.out; have z4 := S_4.out; have z5 := S_5.out; have z6 := S_6.out; have z7 := S_7.out; have z8 := S_8.out; have z9 := S_9.out; have z10 := S_10.out; have z11 := S_11.out; omega))
  have a0_12 := hw.cell a0_11 (by show w.heap.size < _ ∨ _ ≤ w.heap.size; have z1 := S_1.out; have z2 := S_2.out; have z3 := S_3.out; have z4 := S_4.out; have z5 := S_5.out; have z6 := S_6.out; have z7 := S_7.out; have z8 := S_8.out; have z9 := S_9.out; have z10 := S_10.out; have z11 := S_11.out; omega)
  have bW_12 := hw.cell bW_11 (by show w3.heap.size < _ ∨ _ ≤ w3.heap.size; have zz := Z_bW.out; have z1 := S_1.out; have z2 := S_2.out; have z3 := S_3.out; have z4 := S_4.out; have z5 := S_5.out; have z6 := S_6.out; have z7 := S_7.out; have z8 := S_8.out; have z9 := S_9.out; have z10 := S_10.out; have z11 := S_11.out; omega)
  have bx0_12 := hw.cell bx0_11 (by show w5.heap.size < _ ∨ _ ≤ w5.heap.size; have zz := Z_bx0.out; have z1 := S_1.out; have z2 := S_2.out; have z3 := S_3.out; have z4 := S_4.out; have z5 := S_5.out; have z6 := S_6.out; have z7 := S_7.out; have z8 := S_8.out; have z9 := S_9.out; have z10 := S_10.out; have z11 := S_11.out; omega)
  have bG_12 := hw.cell bG_11 (by show w7.heap.size < _ ∨ _ ≤ w7.heap.size; have zz := Z_bG.out; have z1 := S_1.out; have z2 := S_2.out; have z3 := S_3.out; have z4 := S_4.out; have z5 := S_5.out; have z6 := S_6.out; have z7 := S_7.out; have z8 := S_8.out; have z9 := S_9.out; have z10 := S_10.out; have z11 := S_11.out; omega)
  have W_12 := Lib.hid (W_11.out.within hw (Or.inl (by have z1 := S_1.out; have z2 := S_2.out; have z3 := S_3.out; have z4 := S_4.out; have z5 := S_5.out; have z6 := S_6.out; have z7 := S_7.out; have z8 := S_8.out; have z9 := S_9.out; have z10 := S_10.out; have z11 := S_11.out; omega)))
  have x0_12 := Lib.hid hrow
  have G_12 := Lib.hid (G_11.out.within hw (Or.inr (by have z1 := S_1.out; have z2 := S_2.out; have z3 := S_3.out; have z4 := S_4.out; have z5 := S_5.out; have z6 := S_6.out; have z7 := S_7.out; have z8 := S_8.out; have z9 := S_9.out; have z10 := S_10.out; have z11 := S_11.out; omega)))
  have S_12 : Hid (w11.heap.size ≤ w12.heap.size) := hw.size
  clear hw hrow B_11 a0_11 bW_11 bx0_11 bG_11 W_11 x0_11 G_11
  go_wp2_with fail
  refine (XE.out _ _ _ _ _ G_12.out.ints W_12.out.ints).mono ?_
  rintro e w13 ⟨rfl, hb⟩
  have B_13 := Lib.hid (below_step B_12.out hb)
  have a0_13 := cell_kept a0_12 hb
  have bW_13 := cell_kept bW_12 hb
  have bx0_13 := cell_kept bx0_12 hb
  have bG_13 := cell_kept bG_12 hb
  have W_13 := Lib.hid (W_12.out.later hb)
  have x0_13 := Lib.hid (x0_12.out.later hb)
  have G_13 := Lib.hid (G_12.out.later hb)
  have S_13 : Hid (w12.heap.size ≤ w13.heap.size) := hb.size
  clear hb B_12 a0_12 bW_12 bx0_12 bG_12 W_12 x0_12 G_12
  clear x0_13
  go_wp2_with fail
  refine (XM.out _ _ _ _ _ G_13.out).mono ?_
  rintro e w14 ⟨rfl, hw, hrow⟩
  have B_14 := Lib.hid (below_within B_13.out hw (by have z1 := S_1.out; have z2 := S_2.out; have z3 := S_3.out; have z4 := S_4.out; have z5 := S_5.out; have z6 := S_6.out; have z7 := S_7.out; have z8 := S_8.out; have z9 := S_9.out; have z10 := S_10.out; have z11 := S_11.out; have z12 := S_12.out; have z13 := S_13.out; omega))
  have a0_14 := hw.cell a0_13 (by show w.heap.size < _ ∨ _ ≤ w.heap.size; have z1 := S_1.out; have z2 := S_2.out; have z3 := S_3.out; have z4 := S_4.out; have z5 := S_5.out; have z6 := S_6.out; have z7 := S_7.out; have z8 := S_8.out; have z9 := S_9.out; have z10 := S_10.out; have z11 := S_11.out; have z12 := S_12.out; have z13 := S_13.out; omega)
  have bW_14 := hw.cell bW_13 (by show w3.heap.size < _ ∨ _ ≤ w3.heap.size; have zz := Z_bW.out; have z1 := S_1.out; have z2 := S_2.out; have z3 := S_3.out; have z4 := S_4.out; have z5 := S_5.out; have z6 := S_6.out; have z7 := S_7.out; have z8 := S_8.out; have z9 := S_9.out; have z10 := S_10.out; have z11 := S_11.out; have z12 := S_12.out; have z13 := S_13.out; omega)
  have bx0_14 := hw.cell bx0_13 (by show w5.heap.size < _ ∨ _ ≤ w5.heap.size; have zz := Z_bx0.out; have z1 := S_1.out; have z2 := S_2.out; have z3 := S_3.out; have z4 := S_4.out; have z5 := S_5.out; have z6 := S_6.out; have z7 := S_7.out; have z8 := S_8.out; have z9 := S_9.out; have z10 := S_10.out; have z11 := S_11.out; have z12 := S_12.out; have z13 := S_13.out; omega)
  have bG_14 := hw.cell bG_13 (by show w7.heap.size < _ ∨ _ ≤ w7.heap.size; have zz := Z_bG.out; have z1 := S_1.out; have z2 := S_2.out; have z3 := S_3.out; have z4 := S_4.out; have z5 := S_5.out; have z6 := S_6.out; have z7 := S_7.out; have z8 := S_8.out; have z9 := S_9.out; have z10 := S_10.out; have z11 := S_11.out; have z12 := S_12.out; have z13 := S_13.out; omega)
  have W_14 := Lib.hid (W_13.out.within hw (Or.inl (by have z1 := S_1.out; have z2 := S_2.out; have z3 := S_3.out; have z4 := S_4.out; have z5 := S_5.out; have z6 := S_6.out; have z7 := S_7.out; have z8 := S_8.out; have z9 := S_9.out; have z10 := S_10.out; have z11 := S_11.out; have z12 := S_12.out; have z13 := S_13.out; omega)))
  have G_14 := Lib.hid hrow
  have S_14 : Hid (w13.heap.size ≤ w14.heap.size) := hw.size
  clear hw hrow B_13 a0_13 bW_13 bx0_13 bG_13 W_13 G_13
  go_wp2_with fail
  refine (XH.out _ _ _ _ _ G_14.out).mono ?_
  rintro e w15 ⟨rfl, hb⟩
  have B_15 := Lib.hid (below_step B_14.out hb)
  have a0_15 := cell_kept a0_14 hb
  have bW_15 := cell_kept bW_14 hb
  have bx0_15 := cell_kept bx0_14 hb
  have bG_15 := cell_kept bG_14 hb
  have W_15 := Lib.hid (W_14.out.later hb)
  have G_15 := Lib.hid (G_14.out.later hb)
  have S_15 : Hid (w14.heap.size ≤ w15.heap.size) := hb.size
  clear hb B_14 a0_14 bW_14 bx0_14 bG_14 W_14 G_14
  go_wp2_with fail
  refine (T0.out _ B_15.out).mono ?_
  rintro e w16 ⟨gv0, rfl, hb, ho⟩
  have B_16 := Lib.hid (below_step B_15.out hb)
  have a0_16 := cell_kept a0_15 hb
  have bW_16 := cell_kept bW_15 hb
  have bx0_16 := cell_kept bx0_15 hb
  have bG_16 := cell_kept bG_15 hb
  have W_16 := Lib.hid (W_15.out.later hb)
  have G_16 := Lib.hid (G_15.out.later hb)
  have S_16 : Hid (w15.heap.size ≤ w16.heap.size) := hb.size
  have v0_16 := Lib.hid ho
  clear hb ho B_15 a0_15 bW_15 bx0_15 bG_15 W_15 G_15
  go_wp2_with fail
  refine (CI.out _ _ _ _ B_16.out v0_16.out).mono ?_
  rintro e w17 ⟨AH, cH, rfl, hb, ho⟩
  have B_17 := Lib.hid (below_step B_16.out hb)
  have a0_17 := cell_kept a0_16 hb
  have bW_17 := cell_kept bW_16 hb
  have bx0_17 := cell_kept bx0_16 hb
  have bG_17 := cell_kept bG_16 hb
  have W_17 := Lib.hid (W_16.out.later hb)
  have G_17 := Lib.hid (G_16.out.later hb)
  have v0_17 := Lib.hid (v0_16.out.later hb)
  have S_17 : Hid (w16.heap.size ≤ w17.heap.size) := hb.size
  have H_17 := Lib.hid ho
  clear hb ho B_16 a0_16 bW_16 bx0_16 bG_16 W_16 G_16 v0_16
  have hb := below_box w17 (.cells #[.slice AH nX cH] 24)
  have hc := new_cell w17 (.slice AH nX cH) 24
  obtain ⟨w18, hW18⟩ : ∃ W, w17.alloc (.cells #[.slice AH nX cH] 24) = W := ⟨_, rfl⟩
  rw [hW18] at hb hc
  have B_18 := Lib.hid (below_step B_17.out hb)
  have a0_18 := cell_kept a0_17 hb
  have bW_18 := cell_kept bW_17 hb
  have bx0_18 := cell_kept bx0_17 hb
  have bG_18 := cell_kept bG_17 hb
  have W_18 := Lib.hid (W_17.out.later hb)
  have G_18 := Lib.hid (G_17.out.later hb)
  have v0_18 := Lib.hid (v0_17.out.later hb)
  have H_18 := Lib.hid (H_17.out.later hb)
  have S_18 : Hid (w17.heap.size ≤ w18.heap.size) := hb.size
  have bH_18 := hc
  clear hb hc B_17 a0_17 bW_17 bx0_17 bG_17 W_17 G_17 v0_17 H_17
  have Z_bH : Hid (w17.heap.size < w18.heap.size) := by show _ < _; rw [← hW18, World.size_alloc]; omega
  go_wp2_with fail
  refine (XE.out _ _ _ _ _ H_18.out.ints W_18.out.ints).mono ?_
  rintro e w19 ⟨rfl, hb⟩
  have B_19 := Lib.hid (below_step B_18.out hb)
  have a0_19 := cell_kept a0_18 hb
  have bW_19 := cell_kept bW_18 hb
  have bx0_19 := cell_kept bx0_18 hb
  have bG_19 := cell_kept bG_18 hb
  have bH_19 := cell_kept bH_18 hb
  have W_19 := Lib.hid (W_18.out.later hb)
  have G_19 := Lib.hid (G_18.out.later hb)
  have v0_19 := Lib.hid (v0_18.out.later hb)
  have H_19 := Lib.hid (H_18.out.later hb)
  have S_19 : Hid (w18.heap.size ≤ w19.heap.size) := hb.size
  clear hb B_18 a0_18 bW_18 bx0_18 bG_18 bH_18 W_18 G_18 v0_18 H_18
  go_wp2_with fail
  refine (XH.out _ _ _ _ _ G_19.out).mono ?_
  rintro e w20 ⟨rfl, hb⟩
  have B_20 := Lib.hid (below_step B_19.out hb)
  have a0_20 := cell_kept a0_19 hb
  have bW_20 := cell_kept bW_19 hb
  have bx0_20 := cell_kept bx0_19 hb
  have bG_20 := cell_kept bG_19 hb
  have bH_20 := cell_kept bH_19 hb
  have W_20 := Lib.hid (W_19.out.later hb)
  have G_20 := Lib.hid (G_19.out.later hb)
  have v0_20 := Lib.hid (v0_19.out.later hb)
  have H_20 := Lib.hid (H_19.out.later hb)
  have S_20 : Hid (w19.heap.size ≤ w20.heap.size) := hb.size
  clear hb B_19 a0_19 bW_19 bx0_19 bG_19 bH_19 W_19 G_19 v0_19 H_19
  go_wp2
  go_ret
  exact ⟨rfl, B_20.out⟩

theorem tail2_of {W : World} (h : laidMetH Tryd.prog Rows.fnExactTakeFromCounterRow.laid W) : laidMet Tryd.prog (("internal/strconv.uint64pow10", Lib.tabData .u64 Lib.pow10Tab) :: ("loop.example/g01012/impl.errWheels", Rows.laid_loop_example_g01012_impl_errWheels) :: ("loop.example/g01012/impl.errSign", Rows.laid_loop_example_g01012_impl_errSign) :: []) W :=
  laidMet.tail (laidMet.tail (show laidMet Tryd.prog (("math/bits.deBruijn32tab", Rows.laid_math_bits_deBruijn32tab) :: ("math/bits.deBruijn64tab", Rows.laid_math_bits_deBruijn64tab) :: ("internal/strconv.uint64pow10", Lib.tabData .u64 Lib.pow10Tab) :: ("loop.example/g01012/impl.errWheels", Rows.laid_loop_example_g01012_impl_errWheels) :: ("loop.example/g01012/impl.errSign", Rows.laid_loop_example_g01012_impl_errSign) :: []) W from h))
theorem gPow : Tryd.prog.globalNamed "internal/strconv.uint64pow10" = some 3 := by kernel_rfl
theorem gPowType : (Tryd.prog.globals[3]?).map (·.type) = some 139 := by kernel_rfl
theorem pow_of {W : World} (h : laidMetH Tryd.prog Rows.fnExactTakeFromCounterRow.laid W) : Pow10 W :=
  Lib.tabIs_of_head (k := .u64) (zs := Lib.pow10Tab) gPow gPowType Tryd.underlying139 Tryd.underlying104 (by kernel_rfl) (by kernel_rfl) (tail2_of h)

theorem walk (A0 : Option Addr) (c0 : Nat) (X0 : List Int) {y0 : World} (h0 : Ints y0 y0.heap.size A0 X0) (l0 : X0.length ≤ 9223372036854775807) (_ : ∀ n ∈ X0, (Lit.int .i64 n).wf = true) (x1 : Int) (_ : (Lit.int .i64 x1).wf = true) (w : World) (e0 : y0 = w) (hL : laidMetH Tryd.prog Rows.fnExactTakeFromCounterRow.laid w) :
    Calls Tryd.prog 5 #[.agg #[.slice A0 X0.length c0], .int .i64 x1] w fun e w' => e = .returned (.bool true) ∧ Below w.heap.size w w' := by
  subst e0
  have hwx : (Lit.int .i64 x1).wf = true := by assumption
  have hbx : -9223372036854775808 ≤ x1 ∧ x1 ≤ 9223372036854775807 := by simpa [Lit.wf, IntKind.min, IntKind.max, IntKind.signed, IntKind.bits] using hwx
  obtain ⟨aW, aS, hDE⟩ := dial_errs (laidMet.tail (tail2_of hL))
  have hPW := pow_of hL
  by_cases hb0 : 1048576 < (X0.length : Int)
  · exact walk_big0 A0 c0 X0 x1 _ h0 l0  hb0
  have hs0 : (X0.length : Int) ≤ 1048576 := by omega
  have hm0 : X0.length ≤ 1048576 := by omega
  have hx := takeKA_length X0 x1 hm0
  refine walk_small A0 c0 X0 x1 (takeKA X0 x1) (takeKU X0 x1) (numC X0 x1) _ h0 hs0 hx (fun W A0 B0 hW hP0 hB0 => ?_) (fun W A0 B0 hW hP0 hB0 => ?_)
  · exact specTakeK_any A0 X0.length X0 B0 x1 W hP0 hB0 hm0
  · exact implTakeK_any A0 X0.length X0 B0 x1 W hP0 hB0 hm0 aW aS (hDE.below hW) (hPW.below hW) hbx.1 hbx.2

/-- The door's own heap meets the condition: three closed facts. -/
theorem door_met (os : Os) (args : Array Value) : laidMetH Tryd.prog Rows.fnExactTakeFromCounterRow.laid ((World.doorLaid Tryd.prog 4000 os).forCall (fun _ _ => 0) ⟨#[], args, []⟩).memory :=
  laidMetH_of_parts3 (fuel := 8) (laidMet_of_run' 8 (by kernel_rfl) (by kernel_rfl)) (by kernel_rfl) (by kernel_rfl)

set_option maxRecDepth 100000 in
theorem lifted (os : Os) (started : os.Started) (H : Type) (enc : TypeId × Value → H) :
    ReturnsInHanded {} Tryd.checked os 5 .any (fun w args => (Rows.fnExactTakeFromCounterSpec.pre enc Tryd.prog Tryd.f5 [] false w args ∧ laidMetH Tryd.prog Rows.fnExactTakeFromCounterRow.laid w) ∧ sizedMet enc Tryd.prog Tryd.f5 (OpenSpec.ofChange Rows.fnExactTakeFromCounterSpec) false w args)
      (Rows.fnExactTakeFromCounterSpec.post enc Tryd.prog Tryd.f5 false true false false) := by
  refine returnsInHanded_of_change_and (C := Tryd.checked) (X := fun w _ => laidMetH Tryd.prog Rows.fnExactTakeFromCounterRow.laid w) (fun _ _ _ hh h => h.of_heap hh) own started (by kernel_rfl) Tryd.func5
    (ChangeSpec.witness_shaped (enc := enc) (C := Tryd.checked) (os := os) (X := fun w _ => laidMetH Tryd.prog Rows.fnExactTakeFromCounterRow.laid w) false (World.doorLaid Tryd.prog 4000 os) #[.agg #[.slice none 0 0], .int .i64 0] 8 rfl (World.shaped_of_RefB (by kernel_rfl) (by kernel_rfl)) (by kernel_rfl) (by kernel_rfl) (by kernel_rfl) (door_met os _)) ?_
  intro W base args ds gs before hval0 hW _ _ hL _
  have hval : ∀ (j : Nat) t v, Tryd.f5.params[j]? = some t → args[j]? = some v → Value.okWide Tryd.prog W .any base t v := hval0
  have hW' := hW
  obtain ⟨p, q, hA0, hV, rfl, _, _⟩ := hW
  have hA : DataW.TrodAll enc Tryd.prog W 0 (fun _ => true) true Tryd.f5.params.toList args.toList ds p := hA0
  rw [Tryd.params5] at hA hval
  obtain ⟨v0, vs0, d0, ds0, p0, q0, hargs, rfl, rfl, h0, r0⟩ := trodAll_cons hA
  obtain ⟨v1, vs1, d1, ds1, p1, q1, rfl, rfl, rfl, h1, r1⟩ := trodAll_cons r0
  obtain ⟨rfl, rfl, rfl⟩ := trodAll_nil r1
  obtain rfl : args = #[v0, v1] := by cases args; simp_all
  obtain ⟨g1, g2, rfl⟩ : ∃ g1 g2, gs = [g1, g2] := by
    clear hL hW' hA hval
    match gs, hV with
    | [], h => exact h.elim
    | [_], ⟨_, _, _, _, _, _, _, _, _, _, h, _⟩ => exact h.elim
    | [g1, g2], _ => exact ⟨g1, g2, rfl⟩
    | _ :: _ :: _ :: _, ⟨_, _, _, _, _, _, _, _, _, _, ⟨_, _, _, _, _, _, _, _, _, _, h, _⟩, _⟩ => exact h.elim
  obtain ⟨A0, c0, xs0, rfl, i0, l0, w0⟩ := open_card (hval 0 30 v0 rfl rfl) h0
  obtain ⟨a1, rfl, rfl, rfl, w1⟩ := open_int Tryd.underlying2 (hval 1 2 v1 rfl rfl) h1
  refine (walk A0 c0 xs0 i0 l0 w0 a1 w1 W rfl hL).mono fun e W' ⟨he, hb⟩ => ?_
  subst he
  have hread : ∀ t ∈ Tryd.f5.params.toList, Tryd.prog.readableRec t = true ∧ t < Tryd.prog.types.size := by
    intro t ht
    rw [Tryd.params5] at ht
    have ht' : t = 30 ∨ t = 2 := by simpa using ht
    rcases ht' with rfl | rfl <;> exact ⟨by kernel_rfl, of_decide_eq_true (by kernel_rfl)⟩
  have hlt := fun x hx => hW'.lt x (List.mem_append_left q hx)
  refine ⟨_, rfl, _, [g1, g2], _, [], _, q, hW', ?_, args_stay hread hA0 (fun x hx => hb.same (hlt x hx)) (fun x hx => by simpa using hlt x hx), ?_, ?_, fun h => by cases h⟩
  · exact trodAll_mk1 (shut_bool Tryd.underlying4 true)
  · exact Below.trodVars laidOut hb (by kernel_rfl) hV
  · exact World.keptBut_mono (fun x hx => ⟨hx, by rcases List.mem_append.1 hx with h' | h' <;> first | exact Or.inr (Or.inl h') | exact Or.inr (Or.inr h') | exact Or.inr (Or.inr (by simpa using h'))⟩) (hb.frame (· ∈ _))

theorem said : Rows.FnExactTakeFromCounterSaid :=
  OpenClaim.holds_of_wide 5 Tryd.f5 rfl rfl rfl rfl rfl rfl rfl ⟨rfl, rfl, rfl, rfl, rfl⟩ rfl rfl rfl rfl rfl (by kernel_rfl) Tryd.func5 (by kernel_rfl)
    (of_decide_eq_true (by kernel_rfl)) (by unfold Func.isWrapper; first | (rw [if_pos (by decide +kernel)]; kernel_rfl) | (rw [if_neg (by decide +kernel)]; exact ⟨rfl, rfl⟩))
    (fun os started H enc _ => lifted os started H enc)

/-- No parameter wants a stand-in; the program's own looks are as the card says. -/
theorem plain (f : FuncId) (fn : Func) (hf : Tryd.pinned.checked.prog.funcNamed "loop.example/g01012/laws.FnExactTakeFromCounter" = some f) (hfn : Tryd.pinned.checked.prog.funcs[f]? = some fn) :
    Rows.fnExactTakeFromCounterCard.stood.looks = Tryd.pinned.checked.prog.looks [] ∧ ∀ (j : Nat) t, fn.params[j]? = some t → Tryd.pinned.checked.prog.wantsStandIn t = false := by
  obtain rfl : f = 5 := Option.some.inj ((show Tryd.prog.funcNamed "loop.example/g01012/laws.FnExactTakeFromCounter" = some 5 by kernel_rfl).symm.trans hf) |>.symm
  obtain rfl : fn = Tryd.f5 := (Option.some.inj (Tryd.func5.symm.trans hfn)).symm
  refine ⟨by kernel_rfl, fun j t ht => ?_⟩
  rw [Tryd.params5] at ht
  have hm : t ∈ [30, 2] := by simpa using Array.mem_of_getElem? ht
  have hall : ([30, 2].all fun u => !Tryd.prog.wantsStandIn u) = true := by kernel_rfl
  exact (show Tryd.prog.wantsStandIn t = false by simpa using List.all_eq_true.1 hall t hm)

theorem proved : Rows.FnExactTakeFromCounterCardSaid :=
  Claim7.holds_tied_plain_at .later [] _ _ _ _ said (fun _ h => by cases h) (by kernel_rfl) (fun _ h => by cases h) fnExactTakeFromCounter_row_tie rfl ⟨rfl, rfl⟩ (by kernel_rfl) rfl plain (by kernel_rfl)
end Go.Proofs.YtkiphejkgpfjjaaDoor.fnExactTakeFromCounter
