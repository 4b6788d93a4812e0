/- For all lists of copies, the law FnExactJoinCopies returns true: impl.JoinCopies answers as spec.JoinCopies, in memory of its own, and leaves its arguments as it was. Conditions: none. -/
import Derived.Test.YtamookdlbmbncaaJoinI
import Derived.Test.YtamookdlbmbncaaLaw
import Derived.Test.YtamookdlbmbncaaBoxed
import Derived.Deep.RegionHeld3
import Derived.Deep.DeepCutAuto
import Derived.Test.YtamookdlbmbncaaCopyMem
namespace Go.Proofs.Ytamookdlbmbncaa.fnExactJoinCopies
open Go.ChangeShapes Go.WideShapes Go.ChangeAt Go.RowKit

theorem walk_big0 (A0 : Option Addr) (c0 : Nat) (P0 : List (Int × Int)) (A1 : Option Addr) (c1 : Nat) (P1 : List (Int × Int)) (w : World) (h0 : Copies w w.heap.size A0 P0) (l0 : P0.length ≤ 9223372036854775807)  (hbig : 1048576 < (P0.length : Int)) :
    Calls Try.prog 11 #[.slice A0 P0.length c0, .slice A1 P1.length c1] w fun e w' => e = .returned (.bool true) ∧ Below w.heap.size w w' := by
  have z0 := fun (W : World) (_ : Below w.heap.size w W) => szCopies_any A0 P0.length c0 (1048576) W (by omega) (by omega) (by omega)
  have e0 : (if (1048576) < (P0.length : Int) then (-1 : Int) else 1048576 - P0.length) = -1 := if_pos (by omega)
  simp only [e0] at z0
  clear e0
  obtain ⟨n0, hn0⟩ : ∃ n, P0.length = n := ⟨_, rfl⟩
  rw [hn0] at hbig
  simp only [hn0] at z0 ⊢
  have Z0 := Lib.hid z0
  clear z0 hn0 h0 l0
  go_enter Try.func11, Try.ntmps11
  go_wp2_with fail
  refine (Z0.out _ (Below.refl _ _)).mono ?_
  rintro e w1 ⟨rfl, rfl⟩
  have B_0 : Hid (Below w.heap.size w w) := (Below.refl _ _)
  go_wp2
  go_ret
  exact ⟨rfl, B_0.out⟩

theorem walk_big1 (A0 : Option Addr) (c0 : Nat) (P0 : List (Int × Int)) (A1 : Option Addr) (c1 : Nat) (P1 : List (Int × Int)) (w : World) (h0 : Copies w w.heap.size A0 P0) (h1 : Copies w w.heap.size A1 P1) (l1 : P1.length ≤ 9223372036854775807) (hs : (P0.length : Int) ≤ 1048576) (hbig : 1048576 < (P0.length : Int) + (P1.length : Int)) :
    Calls Try.prog 11 #[.slice A0 P0.length c0, .slice A1 P1.length c1] w fun e w' => e = .returned (.bool true) ∧ Below w.heap.size w w' := by
  have z0 := fun (W : World) (_ : Below w.heap.size w W) => szCopies_any A0 P0.length c0 (1048576) W (by omega) (by omega) (by omega)
  have e0 : (if (1048576) < (P0.length : Int) then (-1 : Int) else 1048576 - P0.length) = 1048576 - P0.length := if_neg (by omega)
  simp only [e0] at z0
  clear e0
  have z1 := fun (W : World) (_ : Below w.heap.size w W) => szCopies_any A1 P1.length c1 (1048576 - (P0.length : Int)) W (by omega) (by omega) (by omega)
  have e1 : (if (1048576 - (P0.length : Int)) < (P1.length : Int) then (-1 : Int) else 1048576 - (P0.length : Int) - P1.length) = -1 := if_pos (by omega)
  simp only [e1] at z1
  clear e1
  obtain ⟨n0, hn0⟩ : ∃ n, P0.length = n := ⟨_, rfl⟩
  rw [hn0] at hbig hs
  simp only [hn0] at z0 z1 ⊢
  obtain ⟨n1, hn1⟩ : ∃ n, P1.length = n := ⟨_, rfl⟩
  rw [hn1] at hbig
  simp only [hn1] at z1 ⊢
  have Z0 := Lib.hid z0
  have Z1 := Lib.hid z1
  have g0 : ¬ 1048576 - (n0 : Int) < 0 := by omega
  clear z0 z1 hn0 hn1 h0 h1 l1
  go_enter Try.func11, Try.ntmps11
  go_wp2_with fail
  refine (Z0.out _ (Below.refl _ _)).mono ?_
  rintro e w1 ⟨rfl, rfl⟩
  go_wp2_with fail
  refine (Z1.out _ (Below.refl _ _)).mono ?_
  rintro e w1 ⟨rfl, rfl⟩
  have B_0 : Hid (Below w.heap.size w w) := (Below.refl _ _)
  go_wp2
  go_ret
  exact ⟨rfl, B_0.out⟩

set_option maxRecDepth 100000 in
set_option maxHeartbeats 8000000 in
theorem walk_small (A0 : Option Addr) (c0 : Nat) (P0 : List (Int × Int)) (A1 : Option Addr) (c1 : Nat) (P1 : List (Int × Int)) (X : List (Int × Int)) (v : Int) (w : World) (h0 : Copies w w.heap.size A0 P0) (h1 : Copies w w.heap.size A1 P1) (hs : (P0.length : Int) + (P1.length : Int) ≤ 1048576) (hx : X.length ≤ 1048576)
    (hv : ∀ (W : World) (A0 : Option Addr) (B0 : Nat) (A1 : Option Addr) (B1 : Nat), Below w.heap.size w W → Copies W B0 A0 P0 → B0 ≤ W.heap.size → Copies W B1 A1 P1 → B1 ≤ W.heap.size → Calls Try.prog 46 #[.slice A0 P0.length P0.length, .slice A1 P1.length P1.length] W (GivesQC X v W))
    (hi : ∀ (W : World) (A0 : Option Addr) (B0 : Nat) (A1 : Option Addr) (B1 : Nat), Below w.heap.size w W → Copies W B0 A0 P0 → B0 ≤ W.heap.size → Copies W B1 A1 P1 → B1 ≤ W.heap.size → Calls Try.prog 47 #[.slice A0 P0.length P0.length, .slice A1 P1.length P1.length] W (GivesQC X v W)) :
    Calls Try.prog 11 #[.slice A0 P0.length c0, .slice A1 P1.length c1] w fun e w' => e = .returned (.bool true) ∧ Below w.heap.size w w' := by
  have z0 := fun (W : World) (_ : Below w.heap.size w W) => szCopies_any A0 P0.length c0 (1048576) W (by omega) (by omega) (by omega)
  have e0 : (if (1048576) < (P0.length : Int) then (-1 : Int) else 1048576 - P0.length) = 1048576 - P0.length := if_neg (by omega)
  simp only [e0] at z0
  clear e0
  have hm0 : P0.length ≤ 1048576 := by omega
  have t0 := fun W (hW : Below w.heap.size w W) => toCopiesAt_any A0 c0 P0 w.heap.size W (h0.below hW) hW.size hm0
  have q0 := fun A A' W (hA : Copies W W.heap.size A P0) (hA' : Copies W W.heap.size A' P0) => eqCopies_same A A' P0.length P0.length P0 W.heap.size W.heap.size W hA hA' (Nat.le_refl _) (Nat.le_refl _) hm0
  have r0 := fun A lo hi W (k : Int) (h0 : 0 ≤ k) (h1 : k ≤ 4194304) (hA : QAt W lo hi A P0) => markCopies_any A P0.length P0 lo hi k W hA h0 h1 hm0
  have z1 := fun (W : World) (_ : Below w.heap.size w W) => szCopies_any A1 P1.length c1 (1048576 - (P0.length : Int)) W (by omega) (by omega) (by omega)
  have e1 : (if (1048576 - (P0.length : Int)) < (P1.length : Int) then (-1 : Int) else 1048576 - (P0.length : Int) - P1.length) = 1048576 - (P0.length : Int) - P1.length := if_neg (by omega)
  simp only [e1] at z1
  clear e1
  have hm1 : P1.length ≤ 1048576 := by omega
  have t1 := fun W (hW : Below w.heap.size w W) => toCopiesAt_any A1 c1 P1 w.heap.size W (h1.below hW) hW.size hm1
  have q1 := fun A A' W (hA : Copies W W.heap.size A P1) (hA' : Copies W W.heap.size A' P1) => eqCopies_same A A' P1.length P1.length P1 W.heap.size W.heap.size W hA hA' (Nat.le_refl _) (Nat.le_refl _) hm1
  have r1 := fun A lo hi W (k : Int) (h0 : 0 ≤ k) (h1 : k ≤ 4194304) (hA : QAt W lo hi A P1) => markCopies_any A P1.length P1 lo hi k W hA h0 h1 hm1
  have xe := fun A A' c c' B B' W h h' hB hB' => eqCopies_same A A' c c' X B B' W h h' hB hB' hx
  have xm := fun A c lo hi W (h : QAt W lo hi A X) => markCopies_any A c X lo hi 1 W h (by omega) (by omega) hx
  have xh := fun A c lo hi W (h : QAt W lo hi A (qmk X 1 X.length)) => heldCopies_any A c X lo hi 1 W h (by omega) (by omega) hx
  have gx : ¬ 1 + 2 * (X.length : Int) < 0 := by omega
  have cv : ∀ (W : World) (g0 lo0 hi0 : Nat) (g1 lo1 hi1 : Nat), Below w.heap.size w W → QAt W lo0 hi0 (some ⟨g0, 0, none⟩) P0 → QAt W lo1 hi1 (some ⟨g1, 0, none⟩) P1 → Calls Try.prog 46 #[.slice (some ⟨g0, 0, none⟩) P0.length P0.length, .slice (some ⟨g1, 0, none⟩) P1.length P1.length] W (GivesQC X v W) := fun W g0 lo0 hi0 g1 lo1 hi1 hW hO0 hO1 => by
    have := hv W (some ⟨g0, 0, none⟩) W.heap.size (some ⟨g1, 0, none⟩) W.heap.size hW hO0.copies (Nat.le_refl _) hO1.copies (Nat.le_refl _)
    exact this
  have ci : ∀ (W : World) (g0 lo0 hi0 : Nat) (g1 lo1 hi1 : Nat), Below w.heap.size w W → QAt W lo0 hi0 (some ⟨g0, 0, none⟩) P0 → QAt W lo1 hi1 (some ⟨g1, 0, none⟩) P1 → Calls Try.prog 47 #[.slice (some ⟨g0, 0, none⟩) P0.length P0.length, .slice (some ⟨g1, 0, none⟩) P1.length P1.length] W (GivesQC X v W) := fun W g0 lo0 hi0 g1 lo1 hi1 hW hO0 hO1 => by
    have := hi W (some ⟨g0, 0, none⟩) W.heap.size (some ⟨g1, 0, none⟩) W.heap.size hW hO0.copies (Nat.le_refl _) hO1.copies (Nat.le_refl _)
    exact this
  obtain ⟨n0, hn0⟩ : ∃ n, P0.length = n := ⟨_, rfl⟩
  simp only [hn0] at z0 z1 t0 q0 r0 cv ci hs ⊢
  obtain ⟨n1, hn1⟩ : ∃ n, P1.length = n := ⟨_, rfl⟩
  simp only [hn1] at z1 t1 q1 r1 cv ci hs ⊢
  have Z0 := Lib.hid z0
  have T0 := Lib.hid t0
  have Q0 := Lib.hid q0
  have R0 := Lib.hid r0
  have Z1 := Lib.hid z1
  have T1 := Lib.hid t1
  have Q1 := Lib.hid q1
  have R1 := Lib.hid r1
  have XE := Lib.hid xe
  have XM := Lib.hid xm
  have XH := Lib.hid xh
  have CV := Lib.hid cv
  have CI := Lib.hid ci
  have g0 : ¬ 1048576 - (n0 : Int) < 0 := by omega
  have g1 : ¬ 1048576 - (n0 : Int) - (n1 : Int) < 0 := by omega
  have kb0 : 0 ≤ (1 : Int) ∧ (1 : Int) ≤ 4194304 := by omega
  have kb1 : 0 ≤ 1 + 2 * (n0 : Int) ∧ 1 + 2 * (n0 : Int) ≤ 4194304 := by omega
  have gk : ¬ 1 + 2 * (n0 : Int) + 2 * (n1 : Int) < 0 := by omega
  clear cv ci hv hi xe xm xh z0 t0 q0 r0 hn0 h0 hm0 z1 t1 q1 r1 hn1 h1 hm1
  go_enter Try.func11, Try.ntmps11
  go_wp2_with fail
  refine (Z0.out _ (Below.refl _ _)).mono ?_
  rintro e w0 ⟨rfl, rfl⟩
  go_wp2_with fail
  refine (Z1.out _ (Below.refl _ _)).mono ?_
  rintro e w0 ⟨rfl, rfl⟩
  go_wp2_with fail
  refine (T0.out _ (Below.refl _ _)).mono ?_
  rintro e w1 ⟨gw0, rfl, hb, ho⟩
  have B_1 := Lib.hid hb
  have S_1 : Hid (w.heap.size + 0 ≤ w1.heap.size) := by show _ ≤ _; have := hb.size; simpa using this
  have w0_1 := Lib.hid ho
  clear hb ho
  go_wp2_with fail
  refine (T1.out _ B_1.out).mono ?_
  rintro e w2 ⟨gw1, rfl, hb, ho⟩
  have B_2 := Lib.hid (below_step B_1.out hb)
  have w0_2 := Lib.hid (w0_1.out.later hb)
  have S_2 : Hid (w1.heap.size ≤ w2.heap.size) := hb.size
  have w1_2 := Lib.hid ho
  clear hb ho B_1 w0_1
  go_wp2_with fail
  refine (CV.out _ _ _ _ _ _ _ B_2.out w0_2.out w1_2.out).mono ?_
  rintro e w3 ⟨AW, cW, rfl, hb, ho⟩
  have B_3 := Lib.hid (below_step B_2.out hb)
  have w0_3 := Lib.hid (w0_2.out.later hb)
  have w1_3 := Lib.hid (w1_2.out.later hb)
  have S_3 : Hid (w2.heap.size ≤ w3.heap.size) := hb.size
  have W_3 := Lib.hid ho
  clear hb ho B_2 w0_2 w1_2
  clear w0_3
  clear w1_3
  go_wp2_with fail
  refine (T0.out _ B_3.out).mono ?_
  rintro e w4 ⟨gx0, rfl, hb, ho⟩
  have B_4 := Lib.hid (below_step B_3.out hb)
  have W_4 := Lib.hid (W_3.out.later hb)
  have S_4 : Hid (w3.heap.size ≤ w4.heap.size) := hb.size
  have x0_4 := Lib.hid ho
  clear hb ho B_3 W_3
  go_wp2_with fail
  refine (T1.out _ B_4.out).mono ?_
  rintro e w5 ⟨gx1, rfl, hb, ho⟩
  have B_5 := Lib.hid (below_step B_4.out hb)
  have W_5 := Lib.hid (W_4.out.later hb)
  have x0_5 := Lib.hid (x0_4.out.later hb)
  have S_5 : Hid (w4.heap.size ≤ w5.heap.size) := hb.size
  have x1_5 := Lib.hid ho
  clear hb ho B_4 W_4 x0_4
  go_wp2_with fail
  refine (CI.out _ _ _ _ _ _ _ B_5.out x0_5.out x1_5.out).mono ?_
  rintro e w6 ⟨AG, cG, rfl, hb, ho⟩
  have B_6 := Lib.hid (below_step B_5.out hb)
  have W_6 := Lib.hid (W_5.out.later hb)
  have x0_6 := Lib.hid (x0_5.out.later hb)
  have x1_6 := Lib.hid (x1_5.out.later hb)
  have S_6 : Hid (w5.heap.size ≤ w6.heap.size) := hb.size
  have G_6 := Lib.hid ho
  clear hb ho B_5 W_5 x0_5 x1_5
  go_wp2_with fail
  refine (XE.out _ _ _ _ _ _ _ G_6.out.copies W_6.out.copies (Nat.le_refl _) (Nat.le_refl _)).mono ?_
  rintro e w7 ⟨rfl, hb⟩
  have B_7 := Lib.hid (below_step B_6.out hb)
  have W_7 := Lib.hid (W_6.out.later hb)
  have x0_7 := Lib.hid (x0_6.out.later hb)
  have x1_7 := Lib.hid (x1_6.out.later hb)
  have G_7 := Lib.hid (G_6.out.later hb)
  have S_7 : Hid (w6.heap.size ≤ w7.heap.size) := hb.size
  clear hb B_6 W_6 x0_6 x1_6 G_6
  go_wp2_with fail
  refine (T0.out _ B_7.out).mono ?_
  rintro e w8 ⟨gz0, rfl, hb, ho⟩
  have B_8 := Lib.hid (below_step B_7.out hb)
  have W_8 := Lib.hid (W_7.out.later hb)
  have x0_8 := Lib.hid (x0_7.out.later hb)
  have x1_8 := Lib.hid (x1_7.out.later hb)
  have G_8 := Lib.hid (G_7.out.later hb)
  have S_8 : Hid (w7.heap.size ≤ w8.heap.size) := hb.size
  have z0_8 := Lib.hid ho
  clear hb ho B_7 W_7 x0_7 x1_7 G_7
  go_wp2_with fail
  refine (Q0.out _ _ _ x0_8.out.copies z0_8.out.copies).mono ?_
  rintro e w9 ⟨rfl, hb⟩
  have B_9 := Lib.hid (below_step B_8.out hb)
  have W_9 := Lib.hid (W_8.out.later hb)
  have x0_9 := Lib.hid (x0_8.out.later hb)
  have x1_9 := Lib.hid (x1_8.out.later hb)
  have G_9 := Lib.hid (G_8.out.later hb)
  have z0_9 := Lib.hid (z0_8.out.later hb)
  have S_9 : Hid (w8.heap.size ≤ w9.heap.size) := hb.size
  clear hb B_8 W_8 x0_8 x1_8 G_8 z0_8
  clear z0_9
  go_wp2_with fail
  refine (T1.out _ B_9.out).mono ?_
  rintro e w10 ⟨gz1, rfl, hb, ho⟩
  have B_10 := Lib.hid (below_step B_9.out hb)
  have W_10 := Lib.hid (W_9.out.later hb)
  have x0_10 := Lib.hid (x0_9.out.later hb)
  have x1_10 := Lib.hid (x1_9.out.later hb)
  have G_10 := Lib.hid (G_9.out.later hb)
  have S_10 : Hid (w9.heap.size ≤ w10.heap.size) := hb.size
  have z1_10 := Lib.hid ho
  clear hb ho B_9 W_9 x0_9 x1_9 G_9
  go_wp2_with fail
  refine (Q1.out _ _ _ x1_10.out.copies z1_10.out.copies).mono ?_
  rintro e w11 ⟨rfl, hb⟩
  have B_11 := Lib.hid (below_step B_10.out hb)
  have W_11 := Lib.hid (W_10.out.later hb)
  have x0_11 := Lib.hid (x0_10.out.later hb)
  have x1_11 := Lib.hid (x1_10.out.later hb)
  have G_11 := Lib.hid (G_10.out.later hb)
  have z1_11 := Lib.hid (z1_10.out.later hb)
  have S_11 : Hid (w10.heap.size ≤ w11.heap.size) := hb.size
  clear hb B_10 W_10 x0_10 x1_10 G_10 z1_10
  clear z1_11
  go_wp2_with fail
  refine (R0.out _ _ _ _ _ kb0.1 kb0.2 x0_11.out).mono ?_
  rintro e w12 ⟨rfl, hw, hrow⟩
  have B_12 := Lib.hid (below_within B_11.out hw (by have z1 := S_1.out; have z2 := S_2.out; have z3 := S_3.out; have z4 := S_4.out; have z5 := S_5.out; have z6 := S_6.out; have z7 := S_7.out; have z8 := S_8.out; have z9 := S_9.out; have z10 := S_10.out; have z11 := S_11.out; omega))
  have W_12 := Lib.hid (W_11.out.within hw (Or.inl (by have z1 := S_1.out; have z2 := S_2.out; have z3 := S_3.out; have z4 := S_4.out; have z5 := S_5.out; have z6 := S_6.out; have z7 := S_7.out; have z8 := S_8.out; have z9 := S_9.out; have z10 := S_10.out; have z11 := S_11.out; omega)))
  have x0_12 := Lib.hid hrow
  have x1_12 := Lib.hid (x1_11.out.within hw (Or.inr (by have z1 := S_1.out; have z2 := S_2.out; have z3 := S_3.out; have z4 := S_4.out; have z5 := S_5.out; have z6 := S_6.out; have z7 := S_7.out; have z8 := S_8.out; have z9 := S_9.out; have z10 := S_10.out; have z11 := S_11.out; omega)))
  have G_12 := Lib.hid (G_11.out.within hw (Or.inr (by have z1 := S_1.out; have z2 := S_2.out; have z3 := S_3.out; have z4 := S_4.out; have z5 := S_5.out; have z6 := S_6.out; have z7 := S_7.out; have z8 := S_8.out; have z9 := S_9.out; have z10 := S_10.out; have z11 := S_11.out; omega)))
  have S_12 : Hid (w11.heap.size ≤ w12.heap.size) := hw.size
  clear hw hrow B_11 W_11 x0_11 x1_11 G_11
  go_wp2_with fail
  refine (R1.out _ _ _ _ _ kb1.1 kb1.2 x1_12.out).mono ?_
  rintro e w13 ⟨rfl, hw, hrow⟩
  have B_13 := Lib.hid (below_within B_12.out hw (by have z1 := S_1.out; have z2 := S_2.out; have z3 := S_3.out; have z4 := S_4.out; have z5 := S_5.out; have z6 := S_6.out; have z7 := S_7.out; have z8 := S_8.out; have z9 := S_9.out; have z10 := S_10.out; have z11 := S_11.out; have z12 := S_12.out; omega))
  have W_13 := Lib.hid (W_12.out.within hw (Or.inl (by have z1 := S_1.out; have z2 := S_2.out; have z3 := S_3.out; have z4 := S_4.out; have z5 := S_5.out; have z6 := S_6.out; have z7 := S_7.out; have z8 := S_8.out; have z9 := S_9.out; have z10 := S_10.out; have z11 := S_11.out; have z12 := S_12.out; omega)))
  have x0_13 := Lib.hid (x0_12.out.within hw (Or.inl (by have z1 := S_1.out; have z2 := S_2.out; have z3 := S_3.out; have z4 := S_4.out; have z5 := S_5.out; have z6 := S_6.out; have z7 := S_7.out; have z8 := S_8.out; have z9 := S_9.out; have z10 := S_10.out; have z11 := S_11.out; have z12 := S_12.out; omega)))
  have x1_13 := Lib.hid hrow
  have G_13 := Lib.hid (G_12.out.within hw (Or.inr (by have z1 := S_1.out; have z2 := S_2.out; have z3 := S_3.out; have z4 := S_4.out; have z5 := S_5.out; have z6 := S_6.out; have z7 := S_7.out; have z8 := S_8.out; have z9 := S_9.out; have z10 := S_10.out; have z11 := S_11.out; have z12 := S_12.out; omega)))
  have S_13 : Hid (w12.heap.size ≤ w13.heap.size) := hw.size
  clear hw hrow B_12 W_12 x0_12 x1_12 G_12
  go_wp2_with fail
  refine (XE.out _ _ _ _ _ _ _ G_13.out.copies W_13.out.copies (Nat.le_refl _) (Nat.le_refl _)).mono ?_
  rintro e w14 ⟨rfl, hb⟩
  have B_14 := Lib.hid (below_step B_13.out hb)
  have W_14 := Lib.hid (W_13.out.later hb)
  have x0_14 := Lib.hid (x0_13.out.later hb)
  have x1_14 := Lib.hid (x1_13.out.later hb)
  have G_14 := Lib.hid (G_13.out.later hb)
  have S_14 : Hid (w13.heap.size ≤ w14.heap.size) := hb.size
  clear hb B_13 W_13 x0_13 x1_13 G_13
  clear x0_14
  clear x1_14
  go_wp2_with fail
  refine (XM.out _ _ _ _ _ G_14.out).mono ?_
  rintro e w15 ⟨rfl, hw, hrow⟩
  have B_15 := Lib.hid (below_within B_14.out hw (by have z1 := S_1.out; have z2 := S_2.out; have z3 := S_3.out; have z4 := S_4.out; have z5 := S_5.out; have z6 := S_6.out; have z7 := S_7.out; have z8 := S_8.out; have z9 := S_9.out; have z10 := S_10.out; have z11 := S_11.out; have z12 := S_12.out; have z13 := S_13.out; have z14 := S_14.out; omega))
  have W_15 := Lib.hid (W_14.out.within hw (Or.inl (by have z1 := S_1.out; have z2 := S_2.out; have z3 := S_3.out; have z4 := S_4.out; have z5 := S_5.out; have z6 := S_6.out; have z7 := S_7.out; have z8 := S_8.out; have z9 := S_9.out; have z10 := S_10.out; have z11 := S_11.out; have z12 := S_12.out; have z13 := S_13.out; have z14 := S_14.out; omega)))
  have G_15 := Lib.hid hrow
  have S_15 : Hid (w14.heap.size ≤ w15.heap.size) := hw.size
  clear hw hrow B_14 W_14 G_14
  go_wp2_with fail
  refine (XH.out _ _ _ _ _ G_15.out).mono ?_
  rintro e w16 ⟨rfl, rfl⟩
  go_wp2_with fail
  refine (T0.out _ B_15.out).mono ?_
  rintro e w16 ⟨gv0, rfl, hb, ho⟩
  have B_16 := Lib.hid (below_step B_15.out hb)
  have W_16 := Lib.hid (W_15.out.later hb)
  have G_16 := Lib.hid (G_15.out.later hb)
  have S_16 : Hid (w15.heap.size ≤ w16.heap.size) := hb.size
  have v0_16 := Lib.hid ho
  clear hb ho B_15 W_15 G_15
  go_wp2_with fail
  refine (T1.out _ B_16.out).mono ?_
  rintro e w17 ⟨gv1, rfl, hb, ho⟩
  have B_17 := Lib.hid (below_step B_16.out hb)
  have W_17 := Lib.hid (W_16.out.later hb)
  have G_17 := Lib.hid (G_16.out.later hb)
  have v0_17 := Lib.hid (v0_16.out.later hb)
  have S_17 : Hid (w16.heap.size ≤ w17.heap.size) := hb.size
  have v1_17 := Lib.hid ho
  clear hb ho B_16 W_16 G_16 v0_16
  go_wp2_with fail
  refine (CI.out _ _ _ _ _ _ _ B_17.out v0_17.out v1_17.out).mono ?_
  rintro e w18 ⟨AH, cH, rfl, hb, ho⟩
  have B_18 := Lib.hid (below_step B_17.out hb)
  have W_18 := Lib.hid (W_17.out.later hb)
  have G_18 := Lib.hid (G_17.out.later hb)
  have v0_18 := Lib.hid (v0_17.out.later hb)
  have v1_18 := Lib.hid (v1_17.out.later hb)
  have S_18 : Hid (w17.heap.size ≤ w18.heap.size) := hb.size
  have H_18 := Lib.hid ho
  clear hb ho B_17 W_17 G_17 v0_17 v1_17
  go_wp2_with fail
  refine (XE.out _ _ _ _ _ _ _ H_18.out.copies W_18.out.copies (Nat.le_refl _) (Nat.le_refl _)).mono ?_
  rintro e w19 ⟨rfl, hb⟩
  have B_19 := Lib.hid (below_step B_18.out hb)
  have W_19 := Lib.hid (W_18.out.later hb)
  have G_19 := Lib.hid (G_18.out.later hb)
  have v0_19 := Lib.hid (v0_18.out.later hb)
  have v1_19 := Lib.hid (v1_18.out.later hb)
  have H_19 := Lib.hid (H_18.out.later hb)
  have S_19 : Hid (w18.heap.size ≤ w19.heap.size) := hb.size
  clear hb B_18 W_18 G_18 v0_18 v1_18 H_18
  go_wp2_with fail
  refine (XH.out _ _ _ _ _ G_19.out).mono ?_
  rintro e w20 ⟨rfl, rfl⟩
  go_wp2
  go_ret
  exact ⟨rfl, B_19.out⟩

theorem walk (A0 : Option Addr) (c0 : Nat) (P0 : List (Int × Int)) {y0 : World} (h0 : Copies y0 y0.heap.size A0 P0) (l0 : P0.length ≤ 9223372036854775807) (_ : ∀ d ∈ P0, (Lit.int .i64 d.1).wf = true) (A1 : Option Addr) (c1 : Nat) (P1 : List (Int × Int)) {y1 : World} (h1 : Copies y1 y1.heap.size A1 P1) (l1 : P1.length ≤ 9223372036854775807) (_ : ∀ d ∈ P1, (Lit.int .i64 d.1).wf = true) (w : World) (e0 : y0 = w) (e1 : y1 = w) :
    Calls Try.prog 11 #[.slice A0 P0.length c0, .slice A1 P1.length c1] w fun e w' => e = .returned (.bool true) ∧ Below w.heap.size w w' := by
  subst e0
  subst e1
  by_cases hb0 : 1048576 < (P0.length : Int)
  · exact walk_big0 A0 c0 P0 A1 c1 P1 _ h0 l0  hb0
  have hs0 : (P0.length : Int) ≤ 1048576 := by omega
  by_cases hb1 : 1048576 < (P0.length : Int) + (P1.length : Int)
  · exact walk_big1 A0 c0 P0 A1 c1 P1 _ h0 h1 l1 hs0 hb1
  have hs1 : (P0.length : Int) + (P1.length : Int) ≤ 1048576 := by omega
  have hm0 : P0.length ≤ 1048576 := by omega
  have hm1 : P1.length ≤ 1048576 := by omega
  have hx := joinA_length P0 P1
  refine walk_small A0 c0 P0 A1 c1 P1 (joinA P0 P1) (joinC P0 P1) _ h0 h1 hs1 hx (fun W A0 B0 A1 B1 hW hP0 hB0 hP1 hB1 => ?_) (fun W A0 B0 A1 B1 hW hP0 hB0 hP1 hB1 => ?_)
  · exact specJoin_any A0 P0.length P0 B0 A1 P1.length P1 B1 W hP0 hP1 hB0 hB1 hm0 hm1
  · exact implJoin_any A0 P0.length P0 B0 A1 P1.length P1 B1 W hP0 hP1 hB0 hB1 hm0 hm1

set_option maxRecDepth 100000 in
theorem lifted (os : Os) (started : os.Started) (H : Type) (enc : TypeId × Value → H) :
    ReturnsInHanded {} Try.checked os 11 .any (Rows.fnExactJoinCopiesSpec.pre6 enc Try.prog Try.f11 Rows.fnExactJoinCopiesRow.domain false) (Rows.fnExactJoinCopiesSpec.post enc Try.prog Try.f11 false true false false) := by
  refine returnsInHanded_of_change (C := Try.checked) own started (by kernel_rfl) Try.func11
    (ChangeSpec.witness6 (enc := enc) (C := Try.checked) false ⟨#[], #[.slice none 0 0, .slice none 0 0], []⟩ 8 (by kernel_rfl) (by kernel_rfl) (by kernel_rfl) (by kernel_rfl)) ?_
  intro W base args ds gs before hval0 hW _ _
  have hval : ∀ (j : Nat) t v, Try.f11.params[j]? = some t → args[j]? = some v → Value.okWide Try.prog W .any base t v := hval0
  have hW' := hW
  obtain ⟨p, q, hA0, hV, rfl, _, _⟩ := hW
  have hA : DataW.TrodAll enc Try.prog W 0 (fun _ => true) true Try.f11.params.toList args.toList ds p := hA0
  rw [Try.params11] at hA hval
  obtain ⟨v0, vs0, d0, ds0, p0, q0, hargs, rfl, rfl, h0, r0⟩ := trodAll_cons hA
  obtain ⟨v1, vs1, d1, ds1, p1, q1, rfl, rfl, rfl, h1, r1⟩ := trodAll_cons r0
  obtain ⟨rfl, rfl, rfl⟩ := trodAll_nil r1
  obtain rfl : args = #[v0, v1] := by cases args; simp_all
  obtain ⟨rfl, rfl⟩ := trodVars_none hV
  obtain ⟨A0, c0, P0, rfl, i0, l0, z0⟩ := open_copies (hval 0 22 v0 rfl rfl) h0
  obtain ⟨A1, c1, P1, rfl, i1, l1, z1⟩ := open_copies (hval 1 22 v1 rfl rfl) h1
  refine (walk A0 c0 P0 i0 l0 z0 A1 c1 P1 i1 l1 z1 W rfl rfl).mono fun e W' ⟨he, hb⟩ => ?_
  subst he
  refine ⟨_, rfl, law_post hW' rfl rfl ?_ rfl rfl rfl hb⟩
  intro t ht
  rw [Try.params11] at ht
  obtain rfl : t = 22 := by simpa using ht
  exact ⟨by kernel_rfl, of_decide_eq_true (by kernel_rfl)⟩

theorem over : Rows.fnExactJoinCopiesRow.holds Try.pinned (OpenSpec.ofChange Rows.fnExactJoinCopiesSpec) :=
  OpenClaim.holds_of_wide 11 Try.f11 rfl rfl rfl rfl rfl rfl rfl ⟨rfl, rfl, rfl, rfl, rfl⟩ rfl rfl rfl rfl rfl (by kernel_rfl) Try.func11 (by kernel_rfl)
    (of_decide_eq_true (by kernel_rfl)) (by unfold Func.isWrapper; first | (rw [if_pos (by decide +kernel)]; kernel_rfl) | (rw [if_neg (by decide +kernel)]; exact ⟨rfl, rfl⟩))
    (fun os started H enc _ => lifted os started H enc)

theorem proved : Rows.FnExactJoinCopiesSaid :=
  over
end Go.Proofs.Ytamookdlbmbncaa.fnExactJoinCopies
