/- For all cards and list of copies, the law FnExactCompareCards returns true: impl.CompareCards answers as spec.CompareCards, in memory of its own, and leaves its arguments as it was. Conditions: none. -/
import Derived.Test.YtamookdlbmbncaaCmpK
import Derived.Test.YtamookdlbmbncaaLaw
import Derived.Test.YtamookdlbmbncaaBoxed
import Derived.Test.YtamookdlbmbncaaCardAt
import Derived.Deep.RegionHeld3
import Derived.Deep.DeepCutAuto
import Derived.Laws.NewDeep
import Derived.Test.YtamookdlbmbncaaCopyMem
namespace Go.Proofs.Ytamookdlbmbncaa.fnExactCompareCards
open Go.ChangeShapes Go.WideShapes Go.ChangeAt Go.RowKit

theorem walk_big0 (A0 : Option Addr) (c0 : Nat) (X0 : List Int) (A1 : Option Addr) (c1 : Nat) (X1 : List Int) (A2 : Option Addr) (c2 : Nat) (P2 : List (Int × Int)) (w : World) (h0 : Ints w w.heap.size A0 X0) (l0 : X0.length ≤ 9223372036854775807)  (hbig : 1048576 < (X0.length : Int)) :
    Calls Try.prog 8 #[.agg #[.slice A0 X0.length c0], .agg #[.slice A1 X1.length c1], .slice A2 P2.length c2] w fun e w' => e = .returned (.bool true) ∧ Below w.heap.size w w' := by
  have z0 := fun (W : World) (_ : Below w.heap.size w W) => szCard_any A0 X0.length c0 (1048576) W (by omega) (by omega) (by omega)
  have e0 : (if (1048576) < (X0.length : Int) then (-1 : Int) else 1048576 - X0.length) = -1 := if_pos (by omega)
  simp only [e0] at z0
  clear e0
  obtain ⟨n1, hn1⟩ : ∃ n, X1.length = n := ⟨_, rfl⟩
  rw [hn1]
  obtain ⟨n0, hn0⟩ : ∃ n, X0.length = n := ⟨_, rfl⟩
  rw [hn0] at hbig
  simp only [hn0] at z0 ⊢
  have Z0 := Lib.hid z0
  clear z0 hn0 hn1 h0 l0
  go_enter Try.func8, Try.ntmps8
  go_wp2_with fail
  refine (Z0.out _ ((below_box w _).alloc (by simp <;> omega) _)).mono ?_
  rintro e w1 ⟨rfl, hb⟩
  have B_1 := Lib.hid (below_step ((below_box w _).alloc (by simp <;> omega) _) hb)
  have a0_1 := cell_kept (p := ⟨w.heap.size, 0, none⟩) (v := .slice A0 n0 c0) (by simp [go_sem]) hb
  have a1_1 := cell_kept (p := ⟨w.heap.size + 1, 0, none⟩) (v := .slice A1 n1 c1) (by simp [go_sem]) hb
  have S_1 : Hid (w.heap.size + 2 ≤ w1.heap.size) := by show _ ≤ _; have := hb.size; simpa using this
  clear hb
  go_wp2
  go_ret
  exact ⟨rfl, B_1.out⟩

theorem walk_big1 (A0 : Option Addr) (c0 : Nat) (X0 : List Int) (A1 : Option Addr) (c1 : Nat) (X1 : List Int) (A2 : Option Addr) (c2 : Nat) (P2 : List (Int × Int)) (w : World) (h0 : Ints w w.heap.size A0 X0) (h1 : Ints w w.heap.size A1 X1) (l1 : X1.length ≤ 9223372036854775807) (hs : (X0.length : Int) ≤ 1048576) (hbig : 1048576 < (X0.length : Int) + (X1.length : Int)) :
    Calls Try.prog 8 #[.agg #[.slice A0 X0.length c0], .agg #[.slice A1 X1.length c1], .slice A2 P2.length c2] w fun e w' => e = .returned (.bool true) ∧ Below w.heap.size w w' := by
  have z0 := fun (W : World) (_ : Below w.heap.size w W) => szCard_any A0 X0.length c0 (1048576) W (by omega) (by omega) (by omega)
  have e0 : (if (1048576) < (X0.length : Int) then (-1 : Int) else 1048576 - X0.length) = 1048576 - X0.length := if_neg (by omega)
  simp only [e0] at z0
  clear e0
  have z1 := fun (W : World) (_ : Below w.heap.size w W) => szCard_any A1 X1.length c1 (1048576 - (X0.length : Int)) W (by omega) (by omega) (by omega)
  have e1 : (if (1048576 - (X0.length : Int)) < (X1.length : Int) then (-1 : Int) else 1048576 - (X0.length : Int) - X1.length) = -1 := if_pos (by omega)
  simp only [e1] at z1
  clear e1
  obtain ⟨n0, hn0⟩ : ∃ n, X0.length = n := ⟨_, rfl⟩
  rw [hn0] at hbig hs
  simp only [hn0] at z0 z1 ⊢
  obtain ⟨n1, hn1⟩ : ∃ n, X1.length = n := ⟨_, rfl⟩
  rw [hn1] at hbig
  simp only [hn1] at z1 ⊢
  have Z0 := Lib.hid z0
  have Z1 := Lib.hid z1
  have g0 : ¬ 1048576 - (n0 : Int) < 0 := by omega
  clear z0 z1 hn0 hn1 h0 h1 l1
  go_enter Try.func8, Try.ntmps8
  go_wp2_with fail
  refine (Z0.out _ ((below_box w _).alloc (by simp <;> omega) _)).mono ?_
  rintro e w1 ⟨rfl, hb⟩
  have B_1 := Lib.hid (below_step ((below_box w _).alloc (by simp <;> omega) _) hb)
  have a0_1 := cell_kept (p := ⟨w.heap.size, 0, none⟩) (v := .slice A0 n0 c0) (by simp [go_sem]) hb
  have a1_1 := cell_kept (p := ⟨w.heap.size + 1, 0, none⟩) (v := .slice A1 n1 c1) (by simp [go_sem]) hb
  have S_1 : Hid (w.heap.size + 2 ≤ w1.heap.size) := by show _ ≤ _; have := hb.size; simpa using this
  clear hb
  go_wp2_with fail
  refine (Z1.out _ B_1.out).mono ?_
  rintro e w2 ⟨rfl, hb⟩
  have B_2 := Lib.hid (below_step B_1.out hb)
  have a0_2 := cell_kept a0_1 hb
  have a1_2 := cell_kept a1_1 hb
  have S_2 : Hid (w1.heap.size ≤ w2.heap.size) := hb.size
  clear hb B_1 a0_1 a1_1
  go_wp2
  go_ret
  exact ⟨rfl, B_2.out⟩

theorem walk_big2 (A0 : Option Addr) (c0 : Nat) (X0 : List Int) (A1 : Option Addr) (c1 : Nat) (X1 : List Int) (A2 : Option Addr) (c2 : Nat) (P2 : List (Int × Int)) (w : World) (h0 : Ints w w.heap.size A0 X0) (h1 : Ints w w.heap.size A1 X1) (h2 : Copies w w.heap.size A2 P2) (l2 : P2.length ≤ 9223372036854775807) (hs : (X0.length : Int) + (X1.length : Int) ≤ 1048576) (hbig : 1048576 < (X0.length : Int) + (X1.length : Int) + (P2.length : Int)) :
    Calls Try.prog 8 #[.agg #[.slice A0 X0.length c0], .agg #[.slice A1 X1.length c1], .slice A2 P2.length c2] w fun e w' => e = .returned (.bool true) ∧ Below w.heap.size w w' := by
  have z0 := fun (W : World) (_ : Below w.heap.size w W) => szCard_any A0 X0.length c0 (1048576) W (by omega) (by omega) (by omega)
  have e0 : (if (1048576) < (X0.length : Int) then (-1 : Int) else 1048576 - X0.length) = 1048576 - X0.length := if_neg (by omega)
  simp only [e0] at z0
  clear e0
  have z1 := fun (W : World) (_ : Below w.heap.size w W) => szCard_any A1 X1.length c1 (1048576 - (X0.length : Int)) W (by omega) (by omega) (by omega)
  have e1 : (if (1048576 - (X0.length : Int)) < (X1.length : Int) then (-1 : Int) else 1048576 - (X0.length : Int) - X1.length) = 1048576 - (X0.length : Int) - X1.length := if_neg (by omega)
  simp only [e1] at z1
  clear e1
  have z2 := fun (W : World) (_ : Below w.heap.size w W) => szCopies_any A2 P2.length c2 (1048576 - (X0.length : Int) - (X1.length : Int)) W (by omega) (by omega) (by omega)
  have e2 : (if (1048576 - (X0.length : Int) - (X1.length : Int)) < (P2.length : Int) then (-1 : Int) else 1048576 - (X0.length : Int) - (X1.length : Int) - P2.length) = -1 := if_pos (by omega)
  simp only [e2] at z2
  clear e2
  obtain ⟨n0, hn0⟩ : ∃ n, X0.length = n := ⟨_, rfl⟩
  rw [hn0] at hbig hs
  simp only [hn0] at z0 z1 z2 ⊢
  obtain ⟨n1, hn1⟩ : ∃ n, X1.length = n := ⟨_, rfl⟩
  rw [hn1] at hbig hs
  simp only [hn1] at z1 z2 ⊢
  obtain ⟨n2, hn2⟩ : ∃ n, P2.length = n := ⟨_, rfl⟩
  rw [hn2] at hbig
  simp only [hn2] at z2 ⊢
  have Z0 := Lib.hid z0
  have Z1 := Lib.hid z1
  have Z2 := Lib.hid z2
  have g0 : ¬ 1048576 - (n0 : Int) < 0 := by omega
  have g1 : ¬ 1048576 - (n0 : Int) - (n1 : Int) < 0 := by omega
  clear z0 z1 z2 hn0 hn1 hn2 h0 h1 h2 l2
  go_enter Try.func8, Try.ntmps8
  go_wp2_with fail
  refine (Z0.out _ ((below_box w _).alloc (by simp <;> omega) _)).mono ?_
  rintro e w1 ⟨rfl, hb⟩
  have B_1 := Lib.hid (below_step ((below_box w _).alloc (by simp <;> omega) _) hb)
  have a0_1 := cell_kept (p := ⟨w.heap.size, 0, none⟩) (v := .slice A0 n0 c0) (by simp [go_sem]) hb
  have a1_1 := cell_kept (p := ⟨w.heap.size + 1, 0, none⟩) (v := .slice A1 n1 c1) (by simp [go_sem]) hb
  have S_1 : Hid (w.heap.size + 2 ≤ w1.heap.size) := by show _ ≤ _; have := hb.size; simpa using this
  clear hb
  go_wp2_with fail
  refine (Z1.out _ B_1.out).mono ?_
  rintro e w2 ⟨rfl, hb⟩
  have B_2 := Lib.hid (below_step B_1.out hb)
  have a0_2 := cell_kept a0_1 hb
  have a1_2 := cell_kept a1_1 hb
  have S_2 : Hid (w1.heap.size ≤ w2.heap.size) := hb.size
  clear hb B_1 a0_1 a1_1
  go_wp2_with fail
  refine (Z2.out _ B_2.out).mono ?_
  rintro e w3 ⟨rfl, rfl⟩
  go_wp2
  go_ret
  exact ⟨rfl, B_2.out⟩

set_option maxRecDepth 100000 in
set_option maxHeartbeats 8000000 in
theorem walk_small (A0 : Option Addr) (c0 : Nat) (X0 : List Int) (A1 : Option Addr) (c1 : Nat) (X1 : List Int) (A2 : Option Addr) (c2 : Nat) (P2 : List (Int × Int)) (X : List Int) (v : Int) (w : World) (h0 : Ints w w.heap.size A0 X0) (h1 : Ints w w.heap.size A1 X1) (h2 : Copies w w.heap.size A2 P2) (hs : (X0.length : Int) + (X1.length : Int) + (P2.length : Int) ≤ 1048576) (hx : X.length ≤ 1048576)
    (hv : ∀ (W : World) (A0 : Option Addr) (B0 : Nat) (A1 : Option Addr) (B1 : Nat) (A2 : Option Addr) (B2 : Nat), Below w.heap.size w W → Ints W B0 A0 X0 → B0 ≤ W.heap.size → Ints W B1 A1 X1 → B1 ≤ W.heap.size → Copies W B2 A2 P2 → B2 ≤ W.heap.size → Calls Try.prog 36 #[.agg #[.slice A0 X0.length X0.length], .agg #[.slice A1 X1.length X1.length], .slice A2 P2.length P2.length] W (GivesIC X v W))
    (hi : ∀ (W : World) (A0 : Option Addr) (B0 : Nat) (A1 : Option Addr) (B1 : Nat) (A2 : Option Addr) (B2 : Nat), Below w.heap.size w W → Ints W B0 A0 X0 → B0 ≤ W.heap.size → Ints W B1 A1 X1 → B1 ≤ W.heap.size → Copies W B2 A2 P2 → B2 ≤ W.heap.size → Calls Try.prog 37 #[.agg #[.slice A0 X0.length X0.length], .agg #[.slice A1 X1.length X1.length], .slice A2 P2.length P2.length] W (GivesIC X v W)) :
    Calls Try.prog 8 #[.agg #[.slice A0 X0.length c0], .agg #[.slice A1 X1.length c1], .slice A2 P2.length c2] w fun e w' => e = .returned (.bool true) ∧ Below w.heap.size w w' := by
  have z0 := fun (W : World) (_ : Below w.heap.size w W) => szCard_any A0 X0.length c0 (1048576) W (by omega) (by omega) (by omega)
  have e0 : (if (1048576) < (X0.length : Int) then (-1 : Int) else 1048576 - X0.length) = 1048576 - X0.length := if_neg (by omega)
  simp only [e0] at z0
  clear e0
  have hm0 : X0.length ≤ 1048576 := by omega
  have t0 := fun W (hW : Below w.heap.size w W) => toCardAt_any A0 c0 X0 w.heap.size W (h0.below hW) hW.size hm0
  have q0 := fun A A' W (hA : Ints W W.heap.size A X0) (hA' : Ints W W.heap.size A' X0) => eqCardAt_any A A' X0.length X0.length X0 W hA hA' hm0
  have r0 := fun A lo hi W (k : Int) (h0 : 0 ≤ k) (h1 : k ≤ 4194304) (hA : IAt W lo hi A X0) => markCardAt_any A X0.length X0 lo hi k W hA h0 h1 hm0
  have z1 := fun (W : World) (_ : Below w.heap.size w W) => szCard_any A1 X1.length c1 (1048576 - (X0.length : Int)) W (by omega) (by omega) (by omega)
  have e1 : (if (1048576 - (X0.length : Int)) < (X1.length : Int) then (-1 : Int) else 1048576 - (X0.length : Int) - X1.length) = 1048576 - (X0.length : Int) - X1.length := if_neg (by omega)
  simp only [e1] at z1
  clear e1
  have hm1 : X1.length ≤ 1048576 := by omega
  have t1 := fun W (hW : Below w.heap.size w W) => toCardAt_any A1 c1 X1 w.heap.size W (h1.below hW) hW.size hm1
  have q1 := fun A A' W (hA : Ints W W.heap.size A X1) (hA' : Ints W W.heap.size A' X1) => eqCardAt_any A A' X1.length X1.length X1 W hA hA' hm1
  have r1 := fun A lo hi W (k : Int) (h0 : 0 ≤ k) (h1 : k ≤ 4194304) (hA : IAt W lo hi A X1) => markCardAt_any A X1.length X1 lo hi k W hA h0 h1 hm1
  have z2 := fun (W : World) (_ : Below w.heap.size w W) => szCopies_any A2 P2.length c2 (1048576 - (X0.length : Int) - (X1.length : Int)) W (by omega) (by omega) (by omega)
  have e2 : (if (1048576 - (X0.length : Int) - (X1.length : Int)) < (P2.length : Int) then (-1 : Int) else 1048576 - (X0.length : Int) - (X1.length : Int) - P2.length) = 1048576 - (X0.length : Int) - (X1.length : Int) - P2.length := if_neg (by omega)
  simp only [e2] at z2
  clear e2
  have hm2 : P2.length ≤ 1048576 := by omega
  have t2 := fun W (hW : Below w.heap.size w W) => toCopiesAt_any A2 c2 P2 w.heap.size W (h2.below hW) hW.size hm2
  have q2 := fun A A' W (hA : Copies W W.heap.size A P2) (hA' : Copies W W.heap.size A' P2) => eqCopies_same A A' P2.length P2.length P2 W.heap.size W.heap.size W hA hA' (Nat.le_refl _) (Nat.le_refl _) hm2
  have r2 := fun A lo hi W (k : Int) (h0 : 0 ≤ k) (h1 : k ≤ 4194304) (hA : QAt W lo hi A P2) => markCopies_any A P2.length P2 lo hi k W hA h0 h1 hm2
  have xe : ∀ (A A' : Option Addr) (c c' : Nat) (W : World), Ints W W.heap.size A X → Ints W W.heap.size A' X → Calls Try.prog 38 #[.slice A X.length c, .slice A' X.length c'] W fun e w' => e = .returned (.bool true) ∧ Below W.heap.size W w' := fun A A' c c' W h h' => by
    refine (eqInts_any A A' c c' X X W.heap.size W.heap.size W h h' hx (by omega)).mono ?_
    rintro e w' ⟨he, n, rfl⟩
    exact ⟨by rw [he]; simp, below_drewN (Below.refl _ _) _⟩
  have xm := fun A c lo hi W (h : IAt W lo hi A X) => markAt_any A c X lo hi 1 W h (by omega) (by omega) hx
  have xh := fun A c lo hi W (h : IAt W lo hi A (marks 1 X.length)) => heldAt_any A c X lo hi 1 W h (by omega) (by omega) hx
  have gx : ¬ 1 + (X.length : Int) < 0 := by omega
  have cv : ∀ (W : World) (g0 lo0 hi0 : Nat) (g1 lo1 hi1 : Nat) (g2 lo2 hi2 : Nat), Below w.heap.size w W → IAt W lo0 hi0 (some ⟨g0, 0, none⟩) X0 → IAt W lo1 hi1 (some ⟨g1, 0, none⟩) X1 → QAt W lo2 hi2 (some ⟨g2, 0, none⟩) P2 → Calls Try.prog 36 #[.agg #[.slice (some ⟨g0, 0, none⟩) X0.length X0.length], .agg #[.slice (some ⟨g1, 0, none⟩) X1.length X1.length], .slice (some ⟨g2, 0, none⟩) P2.length P2.length] W (GivesIC X v W) := fun W g0 lo0 hi0 g1 lo1 hi1 g2 lo2 hi2 hW hO0 hO1 hO2 => by
    have := hv W (some ⟨g0, 0, none⟩) W.heap.size (some ⟨g1, 0, none⟩) W.heap.size (some ⟨g2, 0, none⟩) W.heap.size hW hO0.ints (Nat.le_refl _) hO1.ints (Nat.le_refl _) hO2.copies (Nat.le_refl _)
    exact this
  have ci : ∀ (W : World) (g0 lo0 hi0 : Nat) (g1 lo1 hi1 : Nat) (g2 lo2 hi2 : Nat), Below w.heap.size w W → IAt W lo0 hi0 (some ⟨g0, 0, none⟩) X0 → IAt W lo1 hi1 (some ⟨g1, 0, none⟩) X1 → QAt W lo2 hi2 (some ⟨g2, 0, none⟩) P2 → Calls Try.prog 37 #[.agg #[.slice (some ⟨g0, 0, none⟩) X0.length X0.length], .agg #[.slice (some ⟨g1, 0, none⟩) X1.length X1.length], .slice (some ⟨g2, 0, none⟩) P2.length P2.length] W (GivesIC X v W) := fun W g0 lo0 hi0 g1 lo1 hi1 g2 lo2 hi2 hW hO0 hO1 hO2 => by
    have := hi W (some ⟨g0, 0, none⟩) W.heap.size (some ⟨g1, 0, none⟩) W.heap.size (some ⟨g2, 0, none⟩) W.heap.size hW hO0.ints (Nat.le_refl _) hO1.ints (Nat.le_refl _) hO2.copies (Nat.le_refl _)
    exact this
  obtain ⟨n0, hn0⟩ : ∃ n, X0.length = n := ⟨_, rfl⟩
  simp only [hn0] at z0 z1 z2 t0 q0 r0 cv ci hs ⊢
  obtain ⟨n1, hn1⟩ : ∃ n, X1.length = n := ⟨_, rfl⟩
  simp only [hn1] at z1 z2 t1 q1 r1 cv ci hs ⊢
  obtain ⟨n2, hn2⟩ : ∃ n, P2.length = n := ⟨_, rfl⟩
  simp only [hn2] at z2 t2 q2 r2 cv ci hs ⊢
  have Z0 := Lib.hid z0
  have T0 := Lib.hid t0
  have Q0 := Lib.hid q0
  have R0 := Lib.hid r0
  have Z1 := Lib.hid z1
  have T1 := Lib.hid t1
  have Q1 := Lib.hid q1
  have R1 := Lib.hid r1
  have Z2 := Lib.hid z2
  have T2 := Lib.hid t2
  have Q2 := Lib.hid q2
  have R2 := Lib.hid r2
  have XE := Lib.hid xe
  have XM := Lib.hid xm
  have XH := Lib.hid xh
  have CV := Lib.hid cv
  have CI := Lib.hid ci
  have g0 : ¬ 1048576 - (n0 : Int) < 0 := by omega
  have g1 : ¬ 1048576 - (n0 : Int) - (n1 : Int) < 0 := by omega
  have g2 : ¬ 1048576 - (n0 : Int) - (n1 : Int) - (n2 : Int) < 0 := by omega
  have kb0 : 0 ≤ (1 : Int) ∧ (1 : Int) ≤ 4194304 := by omega
  have kb1 : 0 ≤ 1 + (n0 : Int) ∧ 1 + (n0 : Int) ≤ 4194304 := by omega
  have kb2 : 0 ≤ 1 + (n0 : Int) + (n1 : Int) ∧ 1 + (n0 : Int) + (n1 : Int) ≤ 4194304 := by omega
  have gk : ¬ 1 + (n0 : Int) + (n1 : Int) + 2 * (n2 : Int) < 0 := by omega
  clear cv ci hv hi xe xm xh z0 t0 q0 r0 hn0 h0 hm0 z1 t1 q1 r1 hn1 h1 hm1 z2 t2 q2 r2 hn2 h2 hm2
  go_enter Try.func8, Try.ntmps8
  go_wp2_with fail
  refine (Z0.out _ ((below_box w _).alloc (by simp <;> omega) _)).mono ?_
  rintro e w1 ⟨rfl, hb⟩
  have B_1 := Lib.hid (below_step ((below_box w _).alloc (by simp <;> omega) _) hb)
  have a0_1 := cell_kept (p := ⟨w.heap.size, 0, none⟩) (v := .slice A0 n0 c0) (by simp [go_sem]) hb
  have a1_1 := cell_kept (p := ⟨w.heap.size + 1, 0, none⟩) (v := .slice A1 n1 c1) (by simp [go_sem]) hb
  have S_1 : Hid (w.heap.size + 2 ≤ w1.heap.size) := by show _ ≤ _; have := hb.size; simpa using this
  clear hb
  go_wp2_with fail
  refine (Z1.out _ B_1.out).mono ?_
  rintro e w2 ⟨rfl, hb⟩
  have B_2 := Lib.hid (below_step B_1.out hb)
  have a0_2 := cell_kept a0_1 hb
  have a1_2 := cell_kept a1_1 hb
  have S_2 : Hid (w1.heap.size ≤ w2.heap.size) := hb.size
  clear hb B_1 a0_1 a1_1
  go_wp2_with fail
  refine (Z2.out _ B_2.out).mono ?_
  rintro e w3 ⟨rfl, rfl⟩
  go_upto_region 11 with fail
  go_cut [8, 9] (fun s0 s1 wx => ∃ A c, s0 = .slice A X.length c ∧ s1 = .int .i64 v ∧ Below w2.heap.size w2 wx ∧ IAt wx w2.heap.size wx.heap.size A X)
  case first =>
    have HS : Hid (Below w2.drew.heap.size w2.drew w2.drew) := Below.refl _ _
    have HC : Hid (Below w.heap.size w w2.drew) := B_2.out.drew
    go_region_held3 (fun W => W.cell? ⟨w.heap.size, 0, none⟩ = some (.slice A0 n0 c0) ∧ W.cell? ⟨w.heap.size + 1, 0, none⟩ = some (.slice A1 n1 c1))
      (first | exact ⟨cell_kept (w := w2.drew) a0_2 HS.out, cell_kept (w := w2.drew) a1_2 HS.out⟩ | go_keep)
      (first
        | (go_at_call 19
           with_reducible refine (T0.out _ HC.out).mono ?_
           rintro e wz ⟨gw0, rfl, hb, ho⟩
           have HC := Lib.hid (below_step HC.out hb)
           have HS := Lib.hid (below_step HS.out hb)
           try (have O_w1 := Lib.hid (O_w1.out.later hb))
           try (have O_w2 := Lib.hid (O_w2.out.later hb))
           have O_w0 := Lib.hid ho
           clear hb ho)
        | (go_at_call 19
           with_reducible refine (T1.out _ HC.out).mono ?_
           rintro e wz ⟨gw1, rfl, hb, ho⟩
           have HC := Lib.hid (below_step HC.out hb)
           have HS := Lib.hid (below_step HS.out hb)
           try (have O_w0 := Lib.hid (O_w0.out.later hb))
           try (have O_w2 := Lib.hid (O_w2.out.later hb))
           have O_w1 := Lib.hid ho
           clear hb ho)
        | (go_at_call 14
           refine (T2.out _ HC.out).mono ?_
           rintro e wz ⟨gw2, rfl, hb, ho⟩
           have HC := Lib.hid (below_step HC.out hb)
           have HS := Lib.hid (below_step HS.out hb)
           try (have O_w0 := Lib.hid (O_w0.out.later hb))
           try (have O_w1 := Lib.hid (O_w1.out.later hb))
           have O_w2 := Lib.hid ho
           clear hb ho)
        | (go_at_call 36
           refine (CV.out _ _ _ _ _ _ _ _ _ _ HC.out O_w0.out O_w1.out O_w2.out).mono ?_
           rintro e wz ⟨AW, cW, rfl, hb, ho⟩
           have O_W := Lib.hid (ho.wide HS.out.size (Nat.le_refl _) (Nat.le_refl _))
           have HC := Lib.hid (below_step HC.out hb)
           have HS := Lib.hid (below_step HS.out hb)
           try (have O_w0 := Lib.hid (O_w0.out.later hb))
           try (have O_w1 := Lib.hid (O_w1.out.later hb))
           try (have O_w2 := Lib.hid (O_w2.out.later hb))
           clear hb ho))
    all_goals (go_wp2_with fail; go_meet; exact ⟨_, _, rfl, rfl, below_step (below_drew (Below.refl _ _)) HS.out, O_W.out⟩)
  case rest =>
    obtain ⟨AW, cW, rfl, rfl, hb, ho⟩ := hcut
    rename World => w3
    have B_3 := Lib.hid (below_step B_2.out hb)
    have a0_3 := cell_kept a0_2 hb
    have a1_3 := cell_kept a1_2 hb
    have S_3 : Hid (w2.heap.size ≤ w3.heap.size) := hb.size
    have W_3 := Lib.hid ho
    clear hb ho B_2 a0_2 a1_2
    go_wp2_with fail
    refine (T0.out _ B_3.out).mono ?_
    rintro e w4 ⟨gx0, rfl, hb, ho⟩
    have B_4 := Lib.hid (below_step B_3.out hb)
    have a0_4 := cell_kept a0_3 hb
    have a1_4 := cell_kept a1_3 hb
    have W_4 := Lib.hid (W_3.out.later hb)
    have S_4 : Hid (w3.heap.size ≤ w4.heap.size) := hb.size
    have x0_4 := Lib.hid ho
    clear hb ho B_3 a0_3 a1_3 W_3
    have hb := below_box w4 (.cells #[.slice (some ⟨gx0, 0, none⟩) n0 n0] 33)
    have hc := new_cell w4 (.slice (some ⟨gx0, 0, none⟩) n0 n0) 33
    obtain ⟨w5, hW5⟩ : ∃ W, w4.alloc (.cells #[.slice (some ⟨gx0, 0, none⟩) n0 n0] 33) = W := ⟨_, rfl⟩
    rw [hW5] at hb hc
    have B_5 := Lib.hid (below_step B_4.out hb)
    have a0_5 := cell_kept a0_4 hb
    have a1_5 := cell_kept a1_4 hb
    have W_5 := Lib.hid (W_4.out.later hb)
    have x0_5 := Lib.hid (x0_4.out.later hb)
    have S_5 : Hid (w4.heap.size ≤ w5.heap.size) := hb.size
    have bx0_5 := hc
    clear hb hc B_4 a0_4 a1_4 W_4 x0_4
    have Z_bx0 : Hid (w4.heap.size < w5.heap.size) := by show _ < _; rw [← hW5, World.size_alloc]; omega
    go_wp2_with fail
    refine (T1.out _ B_5.out).mono ?_
    rintro e w6 ⟨gx1, rfl, hb, ho⟩
    have B_6 := Lib.hid (below_step B_5.out hb)
    have a0_6 := cell_kept a0_5 hb
    have a1_6 := cell_kept a1_5 hb
    have bx0_6 := cell_kept bx0_5 hb
    have W_6 := Lib.hid (W_5.out.later hb)
    have x0_6 := Lib.hid (x0_5.out.later hb)
    have S_6 : Hid (w5.heap.size ≤ w6.heap.size) := hb.size
    have x1_6 := Lib.hid ho
    clear hb ho B_5 a0_5 a1_5 bx0_5 W_5 x0_5
    have hb := below_box w6 (.cells #[.slice (some ⟨gx1, 0, none⟩) n1 n1] 33)
    have hc := new_cell w6 (.slice (some ⟨gx1, 0, none⟩) n1 n1) 33
    obtain ⟨w7, hW7⟩ : ∃ W, w6.alloc (.cells #[.slice (some ⟨gx1, 0, none⟩) n1 n1] 33) = W := ⟨_, rfl⟩
    rw [hW7] at hb hc
    have B_7 := Lib.hid (below_step B_6.out hb)
    have a0_7 := cell_kept a0_6 hb
    have a1_7 := cell_kept a1_6 hb
    have bx0_7 := cell_kept bx0_6 hb
    have W_7 := Lib.hid (W_6.out.later hb)
    have x0_7 := Lib.hid (x0_6.out.later hb)
    have x1_7 := Lib.hid (x1_6.out.later hb)
    have S_7 : Hid (w6.heap.size ≤ w7.heap.size) := hb.size
    have bx1_7 := hc
    clear hb hc B_6 a0_6 a1_6 bx0_6 W_6 x0_6 x1_6
    have Z_bx1 : Hid (w6.heap.size < w7.heap.size) := by show _ < _; rw [← hW7, World.size_alloc]; omega
    go_wp2_with fail
    refine (T2.out _ B_7.out).mono ?_
    rintro e w8 ⟨gx2, rfl, hb, ho⟩
    have B_8 := Lib.hid (below_step B_7.out hb)
    have a0_8 := cell_kept a0_7 hb
    have a1_8 := cell_kept a1_7 hb
    have bx0_8 := cell_kept bx0_7 hb
    have bx1_8 := cell_kept bx1_7 hb
    have W_8 := Lib.hid (W_7.out.later hb)
    have x0_8 := Lib.hid (x0_7.out.later hb)
    have x1_8 := Lib.hid (x1_7.out.later hb)
    have S_8 : Hid (w7.heap.size ≤ w8.heap.size) := hb.size
    have x2_8 := Lib.hid ho
    clear hb ho B_7 a0_7 a1_7 bx0_7 bx1_7 W_7 x0_7 x1_7
    go_wp2_with fail
    refine (CI.out _ _ _ _ _ _ _ _ _ _ B_8.out x0_8.out x1_8.out x2_8.out).mono ?_
    rintro e w9 ⟨AG, cG, rfl, hb, ho⟩
    have B_9 := Lib.hid (below_step B_8.out hb)
    have a0_9 := cell_kept a0_8 hb
    have a1_9 := cell_kept a1_8 hb
    have bx0_9 := cell_kept bx0_8 hb
    have bx1_9 := cell_kept bx1_8 hb
    have W_9 := Lib.hid (W_8.out.later hb)
    have x0_9 := Lib.hid (x0_8.out.later hb)
    have x1_9 := Lib.hid (x1_8.out.later hb)
    have x2_9 := Lib.hid (x2_8.out.later hb)
    have S_9 : Hid (w8.heap.size ≤ w9.heap.size) := hb.size
    have G_9 := Lib.hid ho
    clear hb ho B_8 a0_8 a1_8 bx0_8 bx1_8 W_8 x0_8 x1_8 x2_8
    go_wp2_with fail
    refine (XE.out _ _ _ _ _ G_9.out.ints W_9.out.ints).mono ?_
    rintro e w10 ⟨rfl, hb⟩
    have B_10 := Lib.hid (below_step B_9.out hb)
    have a0_10 := cell_kept a0_9 hb
    have a1_10 := cell_kept a1_9 hb
    have bx0_10 := cell_kept bx0_9 hb
    have bx1_10 := cell_kept bx1_9 hb
    have W_10 := Lib.hid (W_9.out.later hb)
    have x0_10 := Lib.hid (x0_9.out.later hb)
    have x1_10 := Lib.hid (x1_9.out.later hb)
    have x2_10 := Lib.hid (x2_9.out.later hb)
    have G_10 := Lib.hid (G_9.out.later hb)
    have S_10 : Hid (w9.heap.size ≤ w10.heap.size) := hb.size
    clear hb B_9 a0_9 a1_9 bx0_9 bx1_9 W_9 x0_9 x1_9 x2_9 G_9
    go_wp2
    go_region_held3 (fun W => W.cell? ⟨w4.heap.size, 0, none⟩ = some (.slice (some ⟨gx0, 0, none⟩) n0 n0) ∧ W.cell? ⟨w.heap.size, 0, none⟩ = some (.slice A0 n0 c0))
      (first | exact ⟨bx0_10, a0_10⟩ | exact ⟨bx0_11, a0_11⟩ | exact ⟨bx0_12, a0_12⟩)
      (first
        | (go_at_call 19
           refine (T0.out _ B_10.out.drew).mono ?_
           rintro e w11 ⟨gz0, rfl, hb, ho⟩
           have B_11 := Lib.hid (below_step B_10.out.drew hb)
           have a0_11 := cell_kept (w := w10.drew) a0_10 hb
           have a1_11 := cell_kept (w := w10.drew) a1_10 hb
           have bx0_11 := cell_kept (w := w10.drew) bx0_10 hb
           have bx1_11 := cell_kept (w := w10.drew) bx1_10 hb
           have W_11 := Lib.hid (W_10.out.drew.later hb)
           have x0_11 := Lib.hid (x0_10.out.drew.later hb)
           have x1_11 := Lib.hid (x1_10.out.drew.later hb)
           have x2_11 := Lib.hid (x2_10.out.drew.later hb)
           have G_11 := Lib.hid (G_10.out.drew.later hb)
           have S_11 : Hid (w10.heap.size ≤ w11.heap.size) := hb.size
           have z0_11 := Lib.hid ho
           clear hb ho)
        | (go_at_call 21
           refine (Q0.out _ _ _ x0_11.out.ints z0_11.out.ints).mono ?_
           rintro e w12 ⟨rfl, hb⟩
           have B_12 := Lib.hid (below_step B_11.out hb)
           have a0_12 := cell_kept a0_11 hb
           have a1_12 := cell_kept a1_11 hb
           have bx0_12 := cell_kept bx0_11 hb
           have bx1_12 := cell_kept bx1_11 hb
           have W_12 := Lib.hid (W_11.out.later hb)
           have x0_12 := Lib.hid (x0_11.out.later hb)
           have x1_12 := Lib.hid (x1_11.out.later hb)
           have x2_12 := Lib.hid (x2_11.out.later hb)
           have G_12 := Lib.hid (G_11.out.later hb)
           have z0_12 := Lib.hid (z0_11.out.later hb)
           have S_12 : Hid (w11.heap.size ≤ w12.heap.size) := hb.size
           clear hb))
    clear B_10 a0_10 a1_10 bx0_10 bx1_10 W_10 x0_10 x1_10 x2_10 G_10 B_11 a0_11 a1_11 bx0_11 bx1_11 W_11 x0_11 x1_11 x2_11 G_11 z0_11
    clear z0_12
    go_wp2
    go_region_held3 (fun W => W.cell? ⟨w6.heap.size, 0, none⟩ = some (.slice (some ⟨gx1, 0, none⟩) n1 n1) ∧ W.cell? ⟨w.heap.size + 1, 0, none⟩ = some (.slice A1 n1 c1))
      (first | exact ⟨bx1_12, a1_12⟩ | exact ⟨bx1_13, a1_13⟩ | exact ⟨bx1_14, a1_14⟩)
      (first
        | (go_at_call 19
           refine (T1.out _ B_12.out.drew).mono ?_
           rintro e w13 ⟨gz1, rfl, hb, ho⟩
           have B_13 := Lib.hid (below_step B_12.out.drew hb)
           have a0_13 := cell_kept (w := w12.drew) a0_12 hb
           have a1_13 := cell_kept (w := w12.drew) a1_12 hb
           have bx0_13 := cell_kept (w := w12.drew) bx0_12 hb
           have bx1_13 := cell_kept (w := w12.drew) bx1_12 hb
           have W_13 := Lib.hid (W_12.out.drew.later hb)
           have x0_13 := Lib.hid (x0_12.out.drew.later hb)
           have x1_13 := Lib.hid (x1_12.out.drew.later hb)
           have x2_13 := Lib.hid (x2_12.out.drew.later hb)
           have G_13 := Lib.hid (G_12.out.drew.later hb)
           have S_13 : Hid (w12.heap.size ≤ w13.heap.size) := hb.size
           have z1_13 := Lib.hid ho
           clear hb ho)
        | (go_at_call 21
           refine (Q1.out _ _ _ x1_13.out.ints z1_13.out.ints).mono ?_
           rintro e w14 ⟨rfl, hb⟩
           have B_14 := Lib.hid (below_step B_13.out hb)
           have a0_14 := cell_kept a0_13 hb
           have a1_14 := cell_kept a1_13 hb
           have bx0_14 := cell_kept bx0_13 hb
           have bx1_14 := cell_kept bx1_13 hb
           have W_14 := Lib.hid (W_13.out.later hb)
           have x0_14 := Lib.hid (x0_13.out.later hb)
           have x1_14 := Lib.hid (x1_13.out.later hb)
           have x2_14 := Lib.hid (x2_13.out.later hb)
           have G_14 := Lib.hid (G_13.out.later hb)
           have z1_14 := Lib.hid (z1_13.out.later hb)
           have S_14 : Hid (w13.heap.size ≤ w14.heap.size) := hb.size
           clear hb))
    clear B_12 a0_12 a1_12 bx0_12 bx1_12 W_12 x0_12 x1_12 x2_12 G_12 B_13 a0_13 a1_13 bx0_13 bx1_13 W_13 x0_13 x1_13 x2_13 G_13 z1_13
    clear z1_14
    go_wp2_with fail
    refine (T2.out _ B_14.out).mono ?_
    rintro e w15 ⟨gz2, rfl, hb, ho⟩
    have B_15 := Lib.hid (below_step B_14.out hb)
    have a0_15 := cell_kept a0_14 hb
    have a1_15 := cell_kept a1_14 hb
    have bx0_15 := cell_kept bx0_14 hb
    have bx1_15 := cell_kept bx1_14 hb
    have W_15 := Lib.hid (W_14.out.later hb)
    have x0_15 := Lib.hid (x0_14.out.later hb)
    have x1_15 := Lib.hid (x1_14.out.later hb)
    have x2_15 := Lib.hid (x2_14.out.later hb)
    have G_15 := Lib.hid (G_14.out.later hb)
    have S_15 : Hid (w14.heap.size ≤ w15.heap.size) := hb.size
    have z2_15 := Lib.hid ho
    clear hb ho B_14 a0_14 a1_14 bx0_14 bx1_14 W_14 x0_14 x1_14 x2_14 G_14
    go_wp2_with fail
    refine (Q2.out _ _ _ x2_15.out.copies z2_15.out.copies).mono ?_
    rintro e w16 ⟨rfl, hb⟩
    have B_16 := Lib.hid (below_step B_15.out hb)
    have a0_16 := cell_kept a0_15 hb
    have a1_16 := cell_kept a1_15 hb
    have bx0_16 := cell_kept bx0_15 hb
    have bx1_16 := cell_kept bx1_15 hb
    have W_16 := Lib.hid (W_15.out.later hb)
    have x0_16 := Lib.hid (x0_15.out.later hb)
    have x1_16 := Lib.hid (x1_15.out.later hb)
    have x2_16 := Lib.hid (x2_15.out.later hb)
    have G_16 := Lib.hid (G_15.out.later hb)
    have z2_16 := Lib.hid (z2_15.out.later hb)
    have S_16 : Hid (w15.heap.size ≤ w16.heap.size) := hb.size
    clear hb B_15 a0_15 a1_15 bx0_15 bx1_15 W_15 x0_15 x1_15 x2_15 G_15 z2_15
    clear z2_16
    go_wp2_with fail
    refine (R0.out _ _ _ _ _ kb0.1 kb0.2 x0_16.out).mono ?_
    rintro e w17 ⟨rfl, hw, hrow⟩
    have B_17 := Lib.hid (below_within B_16.out hw (by have z1 := S_1.out; have z2 := S_2.out; have z3 := S_3.out; have z4 := S_4.out; have z5 := S_5.out; have z6 := S_6.out; have z7 := S_7.out; have z8 := S_8.out; have z9 := S_9.out; have z10 := S_10.out; have z11 := S_11.out; have z12 := S_12.out; have z13 := S_13.out; have z14 := S_14.out; have z15 := S_15.out; have z16 := S_16.out; omega))
    have a0_17 := hw.cell a0_16 (by show w.heap.size < _ ∨ _ ≤ w.heap.size; have z1 := S_1.out; have z2 := S_2.out; have z3 := S_3.out; have z4 := S_4.out; have z5 := S_5.out; have z6 := S_6.out; have z7 := S_7.out; have z8 := S_8.out; have z9 := S_9.out; have z10 := S_10.out; have z11 := S_11.out; have z12 := S_12.out; have z13 := S_13.out; have z14 := S_14.out; have z15 := S_15.out; have z16 := S_16.out; omega)
    have a1_17 := hw.cell a1_16 (by show w.heap.size + 1 < _ ∨ _ ≤ w.heap.size + 1; have z1 := S_1.out; have z2 := S_2.out; have z3 := S_3.out; have z4 := S_4.out; have z5 := S_5.out; have z6 := S_6.out; have z7 := S_7.out; have z8 := S_8.out; have z9 := S_9.out; have z10 := S_10.out; have z11 := S_11.out; have z12 := S_12.out; have z13 := S_13.out; have z14 := S_14.out; have z15 := S_15.out; have z16 := S_16.out; omega)
    have bx0_17 := hw.cell bx0_16 (by show w4.heap.size < _ ∨ _ ≤ w4.heap.size; have zz := Z_bx0.out; have z1 := S_1.out; have z2 := S_2.out; have z3 := S_3.out; have z4 := S_4.out; have z5 := S_5.out; have z6 := S_6.out; have z7 := S_7.out; have z8 := S_8.out; have z9 := S_9.out; have z10 := S_10.out; have z11 := S_11.out; have z12 := S_12.out; have z13 := S_13.out; have z14 := S_14.out; have z15 := S_15.out; have z16 := S_16.out; omega)
    have bx1_17 := hw.cell bx1_16 (by show w6.heap.size < _ ∨ _ ≤ w6.heap.size; have zz := Z_bx1.out; have z1 := S_1.out; have z2 := S_2.out; have z3 := S_3.out; have z4 := S_4.out; have z5 := S_5.out; have z6 := S_6.out; have z7 := S_7.out; have z8 := S_8.out; have z9 := S_9.out; have z10 := S_10.out; have z11 := S_11.out; have z12 := S_12.out; have z13 := S_13.out; have z14 := S_14.out; have z15 := S_15.out; have z16 := S_16.out; omega)
    have W_17 := Lib.hid (W_16.out.within hw (Or.inl (by have z1 := S_1.out; have z2 := S_2.out; have z3 := S_3.out; have z4 := S_4.out; have z5 := S_5.out; have z6 := S_6.out; have z7 := S_7.out; have z8 := S_8.out; have z9 := S_9.out; have z10 := S_10.out; have z11 := S_11.out; have z12 := S_12.out; have z13 := S_13.out; have z14 := S_14.out; have z15 := S_15.out; have z16 := S_16.out; omega)))
    have x0_17 := Lib.hid hrow
    have x1_17 := Lib.hid (x1_16.out.within hw (Or.inr (by have z1 := S_1.out; have z2 := S_2.out; have z3 := S_3.out; have z4 := S_4.out; have z5 := S_5.out; have z6 := S_6.out; have z7 := S_7.out; have z8 := S_8.out; have z9 := S_9.out; have z10 := S_10.out; have z11 := S_11.out; have z12 := S_12.out; have z13 := S_13.out; have z14 := S_14.out; have z15 := S_15.out; have z16 := S_16.out; omega)))
    have x2_17 := Lib.hid (x2_16.out.within hw (Or.inr (by have z1 := S_1.out; have z2 := S_2.out; have z3 := S_3.out; have z4 := S_4.out; have z5 := S_5.out; have z6 := S_6.out; have z7 := S_7.out; have z8 := S_8.out; have z9 := S_9.out; have z10 := S_10.out; have z11 := S_11.out; have z12 := S_12.out; have z13 := S_13.out; have z14 := S_14.out; have z15 := S_15.out; have z16 := S_16.out; omega)))
    have G_17 := Lib.hid (G_16.out.within hw (Or.inr (by have z1 := S_1.out; have z2 := S_2.out; have z3 := S_3.out; have z4 := S_4.out; have z5 := S_5.out; have z6 := S_6.out; have z7 := S_7.out; have z8 := S_8.out; have z9 := S_9.out; have z10 := S_10.out; have z11 := S_11.out; have z12 := S_12.out; have z13 := S_13.out; have z14 := S_14.out; have z15 := S_15.out; have z16 := S_16.out; omega)))
    have S_17 : Hid (w16.heap.size ≤ w17.heap.size) := hw.size
    clear hw hrow B_16 a0_16 a1_16 bx0_16 bx1_16 W_16 x0_16 x1_16 x2_16 G_16
    go_wp2_with fail
    refine (R1.out _ _ _ _ _ kb1.1 kb1.2 x1_17.out).mono ?_
    rintro e w18 ⟨rfl, hw, hrow⟩
    have B_18 := Lib.hid (below_within B_17.out hw (by have z1 := S_1.out; have z2 := S_2.out; have z3 := S_3.out; have z4 := S_4.out; have z5 := S_5.out; have z6 := S_6.out; have z7 := S_7.out; have z8 := S_8.out; have z9 := S_9.out; have z10 := S_10.out; have z11 := S_11.out; have z12 := S_12.out; have z13 := S_13.out; have z14 := S_14.out; have z15 := S_15.out; have z16 := S_16.out; have z17 := S_17.out; omega))
    have a0_18 := hw.cell a0_17 (by show w.heap.size < _ ∨ _ ≤ w.heap.size; have z1 := S_1.out; have z2 := S_2.out; have z3 := S_3.out; have z4 := S_4.out; have z5 := S_5.out; have z6 := S_6.out; have z7 := S_7.out; have z8 := S_8.out; have z9 := S_9.out; have z10 := S_10.out; have z11 := S_11.out; have z12 := S_12.out; have z13 := S_13.out; have z14 := S_14.out; have z15 := S_15.out; have z16 := S_16.out; have z17 := S_17.out; omega)
    have a1_18 := hw.cell a1_17 (by show w.heap.size + 1 < _ ∨ _ ≤ w.heap.size + 1; have z1 := S_1.out; have z2 := S_2.out; have z3 := S_3.out; have z4 := S_4.out; have z5 := S_5.out; have z6 := S_6.out; have z7 := S_7.out; have z8 := S_8.out; have z9 := S_9.out; have z10 := S_10.out; have z11 := S_11.out; have z12 := S_12.out; have z13 := S_13.out; have z14 := S_14.out; have z15 := S_15.out; have z16 := S_16.out; have z17 := S_17.out; omega)
    have bx0_18 := hw.cell bx0_17 (by show w4.heap.size < _ ∨ _ ≤ w4.heap.size; have zz := Z_bx0.out; have z1 := S_1.out; have z2 := S_2.out; have z3 := S_3.out; have z4 := S_4.out; have z5 := S_5.out; have z6 := S_6.out; have z7 := S_7.out; have z8 := S_8.out; have z9 := S_9.out; have z10 := S_10.out; have z11 := S_11.out; have z12 := S_12.out; have z13 := S_13.out; have z14 := S_14.out; have z15 := S_15.out; have z16 := S_16.out; have z17 := S_17.out; omega)
    have bx1_18 := hw.cell bx1_17 (by show w6.heap.size < _ ∨ _ ≤ w6.heap.size; have zz := Z_bx1.out; have z1 := S_1.out; have z2 := S_2.out; have z3 := S_3.out; have z4 := S_4.out; have z5 := S_5.out; have z6 := S_6.out; have z7 := S_7.out; have z8 := S_8.out; have z9 := S_9.out; have z10 := S_10.out; have z11 := S_11.out; have z12 := S_12.out; have z13 := S_13.out; have z14 := S_14.out; have z15 := S_15.out; have z16 := S_16.out; have z17 := S_17.out; omega)
    have W_18 := Lib.hid (W_17.out.within hw (Or.inl (by have z1 := S_1.out; have z2 := S_2.out; have z3 := S_3.out; have z4 := S_4.out; have z5 := S_5.out; have z6 := S_6.out; have z7 := S_7.out; have z8 := S_8.out; have z9 := S_9.out; have z10 := S_10.out; have z11 := S_11.out; have z12 := S_12.out; have z13 := S_13.out; have z14 := S_14.out; have z15 := S_15.out; have z16 := S_16.out; have z17 := S_17.out; omega)))
    have x0_18 := Lib.hid (x0_17.out.within hw (Or.inl (by have z1 := S_1.out; have z2 := S_2.out; have z3 := S_3.out; have z4 := S_4.out; have z5 := S_5.out; have z6 := S_6.out; have z7 := S_7.out; have z8 := S_8.out; have z9 := S_9.out; have z10 := S_10.out; have z11 := S_11.out; have z12 := S_12.out; have z13 := S_13.out; have z14 := S_14.out; have z15 := S_15.out; have z16 := S_16.out; have z17 := S_17.out; omega)))
    have x1_18 := Lib.hid hrow
    have x2_18 := Lib.hid (x2_17.out.within hw (Or.inr (by have z1 := S_1.out; have z2 := S_2.out; have z3 := S_3.out; have z4 := S_4.out; have z5 := S_5.out; have z6 := S_6.out; have z7 := S_7.out; have z8 := S_8.out; have z9 := S_9.out; have z10 := S_10.out; have z11 := S_11.out; have z12 := S_12.out; have z13 := S_13.out; have z14 := S_14.out; have z15 := S_15.out; have z16 := S_16.out; have z17 := S_17.out; omega)))
    have G_18 := Lib.hid (G_17.out.within hw (Or.inr (by have z1 := S_1.out; have z2 := S_2.out; have z3 := S_3.out; have z4 := S_4.out; have z5 := S_5.out; have z6 := S_6.out; have z7 := S_7.out; have z8 := S_8.out; have z9 := S_9.out; have z10 := S_10.out; have z11 := S_11.out; have z12 := S_12.out; have z13 := S_13.out; have z14 := S_14.out; have z15 := S_15.out; have z16 := S_16.out; have z17 := S_17.out; omega)))
    have S_18 : Hid (w17.heap.size ≤ w18.heap.size) := hw.size
    clear hw hrow B_17 a0_17 a1_17 bx0_17 bx1_17 W_17 x0_17 x1_17 x2_17 G_17
    go_wp2_with fail
    refine (R2.out _ _ _ _ _ kb2.1 kb2.2 x2_18.out).mono ?_
    rintro e w19 ⟨rfl, hw, hrow⟩
    have B_19 := Lib.hid (below_within B_18.out hw (by have z1 := S_1.out; have z2 := S_2.out; have z3 := S_3.out; have z4 := S_4.out; have z5 := S_5.out; have z6 := S_6.out; have z7 := S_7.out; have z8 := S_8.out; have z9 := S_9.out; have z10 := S_10.out; have z11 := S_11.out; have z12 := S_12.out; have z13 := S_13.out; have z14 := S_14.out; have z15 := S_15.out; have z16 := S_16.out; have z17 := S_17.out; have z18 := S_18.out; omega))
    have a0_19 := hw.cell a0_18 (by show w.heap.size < _ ∨ _ ≤ w.heap.size; have z1 := S_1.out; have z2 := S_2.out; have z3 := S_3.out; have z4 := S_4.out; have z5 := S_5.out; have z6 := S_6.out; have z7 := S_7.out; have z8 := S_8.out; have z9 := S_9.out; have z10 := S_10.out; have z11 := S_11.out; have z12 := S_12.out; have z13 := S_13.out; have z14 := S_14.out; have z15 := S_15.out; have z16 := S_16.out; have z17 := S_17.out; have z18 := S_18.out; omega)
    have a1_19 := hw.cell a1_18 (by show w.heap.size + 1 < _ ∨ _ ≤ w.heap.size + 1; have z1 := S_1.out; have z2 := S_2.out; have z3 := S_3.out; have z4 := S_4.out; have z5 := S_5.out; have z6 := S_6.out; have z7 := S_7.out; have z8 := S_8.out; have z9 := S_9.out; have z10 := S_10.out; have z11 := S_11.out; have z12 := S_12.out; have z13 := S_13.out; have z14 := S_14.out; have z15 := S_15.out; have z16 := S_16.out; have z17 := S_17.out; have z18 := S_18.out; omega)
    have bx0_19 := hw.cell bx0_18 (by show w4.heap.size < _ ∨ _ ≤ w4.heap.size; have zz := Z_bx0.out; have z1 := S_1.out; have z2 := S_2.out; have z3 := S_3.out; have z4 := S_4.out; have z5 := S_5.out; have z6 := S_6.out; have z7 := S_7.out; have z8 := S_8.out; have z9 := S_9.out; have z10 := S_10.out; have z11 := S_11.out; have z12 := S_12.out; have z13 := S_13.out; have z14 := S_14.out; have z15 := S_15.out; have z16 := S_16.out; have z17 := S_17.out; have z18 := S_18.out; omega)
    have bx1_19 := hw.cell bx1_18 (by show w6.heap.size < _ ∨ _ ≤ w6.heap.size; have zz := Z_bx1.out; have z1 := S_1.out; have z2 := S_2.out; have z3 := S_3.out; have z4 := S_4.out; have z5 := S_5.out; have z6 := S_6.out; have z7 := S_7.out; have z8 := S_8.out; have z9 := S_9.out; have z10 := S_10.out; have z11 := S_11.out; have z12 := S_12.out; have z13 := S_13.out; have z14 := S_14.out; have z15 := S_15.out; have z16 := S_16.out; have z17 := S_17.out; have z18 := S_18.out; omega)
    have W_19 := Lib.hid (W_18.out.within hw (Or.inl (by have z1 := S_1.out; have z2 := S_2.out; have z3 := S_3.out; have z4 := S_4.out; have z5 := S_5.out; have z6 := S_6.out; have z7 := S_7.out; have z8 := S_8.out; have z9 := S_9.out; have z10 := S_10.out; have z11 := S_11.out; have z12 := S_12.out; have z13 := S_13.out; have z14 := S_14.out; have z15 := S_15.out; have z16 := S_16.out; have z17 := S_17.out; have z18 := S_18.out; omega)))
    have x0_19 := Lib.hid (x0_18.out.within hw (Or.inl (by have z1 := S_1.out; have z2 := S_2.out; have z3 := S_3.out; have z4 := S_4.out; have z5 := S_5.out; have z6 := S_6.out; have z7 := S_7.out; have z8 := S_8.out; have z9 := S_9.out; have z10 := S_10.out; have z11 := S_11.out; have z12 := S_12.out; have z13 := S_13.out; have z14 := S_14.out; have z15 := S_15.out; have z16 := S_16.out; have z17 := S_17.out; have z18 := S_18.out; omega)))
    have x1_19 := Lib.hid (x1_18.out.within hw (Or.inl (by have z1 := S_1.out; have z2 := S_2.out; have z3 := S_3.out; have z4 := S_4.out; have z5 := S_5.out; have z6 := S_6.out; have z7 := S_7.out; have z8 := S_8.out; have z9 := S_9.out; have z10 := S_10.out; have z11 := S_11.out; have z12 := S_12.out; have z13 := S_13.out; have z14 := S_14.out; have z15 := S_15.out; have z16 := S_16.out; have z17 := S_17.out; have z18 := S_18.out; omega)))
    have x2_19 := Lib.hid hrow
    have G_19 := Lib.hid (G_18.out.within hw (Or.inr (by have z1 := S_1.out; have z2 := S_2.out; have z3 := S_3.out; have z4 := S_4.out; have z5 := S_5.out; have z6 := S_6.out; have z7 := S_7.out; have z8 := S_8.out; have z9 := S_9.out; have z10 := S_10.out; have z11 := S_11.out; have z12 := S_12.out; have z13 := S_13.out; have z14 := S_14.out; have z15 := S_15.out; have z16 := S_16.out; have z17 := S_17.out; have z18 := S_18.out; omega)))
    have S_19 : Hid (w18.heap.size ≤ w19.heap.size) := hw.size
    clear hw hrow B_18 a0_18 a1_18 bx0_18 bx1_18 W_18 x0_18 x1_18 x2_18 G_18
    go_wp2_with fail
    refine (XE.out _ _ _ _ _ G_19.out.ints W_19.out.ints).mono ?_
    rintro e w20 ⟨rfl, hb⟩
    have B_20 := Lib.hid (below_step B_19.out hb)
    have a0_20 := cell_kept a0_19 hb
    have a1_20 := cell_kept a1_19 hb
    have bx0_20 := cell_kept bx0_19 hb
    have bx1_20 := cell_kept bx1_19 hb
    have W_20 := Lib.hid (W_19.out.later hb)
    have x0_20 := Lib.hid (x0_19.out.later hb)
    have x1_20 := Lib.hid (x1_19.out.later hb)
    have x2_20 := Lib.hid (x2_19.out.later hb)
    have G_20 := Lib.hid (G_19.out.later hb)
    have S_20 : Hid (w19.heap.size ≤ w20.heap.size) := hb.size
    clear hb B_19 a0_19 a1_19 bx0_19 bx1_19 W_19 x0_19 x1_19 x2_19 G_19
    clear x0_20
    clear x1_20
    clear x2_20
    go_wp2_with fail
    refine (XM.out _ _ _ _ _ G_20.out).mono ?_
    rintro e w21 ⟨rfl, hw, hrow⟩
    have B_21 := Lib.hid (below_within B_20.out hw (by have z1 := S_1.out; have z2 := S_2.out; have z3 := S_3.out; have z4 := S_4.out; have z5 := S_5.out; have z6 := S_6.out; have z7 := S_7.out; have z8 := S_8.out; have z9 := S_9.out; have z10 := S_10.out; have z11 := S_11.out; have z12 := S_12.out; have z13 := S_13.out; have z14 := S_14.out; have z15 := S_15.out; have z16 := S_16.out; have z17 := S_17.out; have z18 := S_18.out; have z19 := S_19.out; have z20 := S_20.out; omega))
    have a0_21 := hw.cell a0_20 (by show w.heap.size < _ ∨ _ ≤ w.heap.size; have z1 := S_1.out; have z2 := S_2.out; have z3 := S_3.out; have z4 := S_4.out; have z5 := S_5.out; have z6 := S_6.out; have z7 := S_7.out; have z8 := S_8.out; have z9 := S_9.out; have z10 := S_10.out; have z11 := S_11.out; have z12 := S_12.out; have z13 := S_13.out; have z14 := S_14.out; have z15 := S_15.out; have z16 := S_16.out; have z17 := S_17.out; have z18 := S_18.out; have z19 := S_19.out; have z20 := S_20.out; omega)
    have a1_21 := hw.cell a1_20 (by show w.heap.size + 1 < _ ∨ _ ≤ w.heap.size + 1; have z1 := S_1.out; have z2 := S_2.out; have z3 := S_3.out; have z4 := S_4.out; have z5 := S_5.out; have z6 := S_6.out; have z7 := S_7.out; have z8 := S_8.out; have z9 := S_9.out; have z10 := S_10.out; have z11 := S_11.out; have z12 := S_12.out; have z13 := S_13.out; have z14 := S_14.out; have z15 := S_15.out; have z16 := S_16.out; have z17 := S_17.out; have z18 := S_18.out; have z19 := S_19.out; have z20 := S_20.out; omega)
    have bx0_21 := hw.cell bx0_20 (by show w4.heap.size < _ ∨ _ ≤ w4.heap.size; have zz := Z_bx0.out; have z1 := S_1.out; have z2 := S_2.out; have z3 := S_3.out; have z4 := S_4.out; have z5 := S_5.out; have z6 := S_6.out; have z7 := S_7.out; have z8 := S_8.out; have z9 := S_9.out; have z10 := S_10.out; have z11 := S_11.out; have z12 := S_12.out; have z13 := S_13.out; have z14 := S_14.out; have z15 := S_15.out; have z16 := S_16.out; have z17 := S_17.out; have z18 := S_18.out; have z19 := S_19.out; have z20 := S_20.out; omega)
    have bx1_21 := hw.cell bx1_20 (by show w6.heap.size < _ ∨ _ ≤ w6.heap.size; have zz := Z_bx1.out; have z1 := S_1.out; have z2 := S_2.out; have z3 := S_3.out; have z4 := S_4.out; have z5 := S_5.out; have z6 := S_6.out; have z7 := S_7.out; have z8 := S_8.out; have z9 := S_9.out; have z10 := S_10.out; have z11 := S_11.out; have z12 := S_12.out; have z13 := S_13.out; have z14 := S_14.out; have z15 := S_15.out; have z16 := S_16.out; have z17 := S_17.out; have z18 := S_18.out; have z19 := S_19.out; have z20 := S_20.out; omega)
    have W_21 := Lib.hid (W_20.out.within hw (Or.inl (by have z1 := S_1.out; have z2 := S_2.out; have z3 := S_3.out; have z4 := S_4.out; have z5 := S_5.out; have z6 := S_6.out; have z7 := S_7.out; have z8 := S_8.out; have z9 := S_9.out; have z10 := S_10.out; have z11 := S_11.out; have z12 := S_12.out; have z13 := S_13.out; have z14 := S_14.out; have z15 := S_15.out; have z16 := S_16.out; have z17 := S_17.out; have z18 := S_18.out; have z19 := S_19.out; have z20 := S_20.out; omega)))
    have G_21 := Lib.hid hrow
    have S_21 : Hid (w20.heap.size ≤ w21.heap.size) := hw.size
    clear hw hrow B_20 a0_20 a1_20 bx0_20 bx1_20 W_20 G_20
    go_wp2_with fail
    refine (XH.out _ _ _ _ _ G_21.out).mono ?_
    rintro e w22 ⟨rfl, rfl⟩
    go_upto_region 38 with fail
    go_cut [18, 19] (fun s0 s1 wx => ∃ A c, s0 = .slice A X.length c ∧ s1 = .int .i64 v ∧ Below w21.heap.size w21 wx ∧ IAt wx w21.heap.size wx.heap.size A X)
    case first =>
      have HS : Hid (Below w21.drew.heap.size w21.drew w21.drew) := Below.refl _ _
      have HC : Hid (Below w.heap.size w w21.drew) := B_21.out.drew
      go_region_held3 (fun W => W.cell? ⟨w.heap.size, 0, none⟩ = some (.slice A0 n0 c0) ∧ W.cell? ⟨w.heap.size + 1, 0, none⟩ = some (.slice A1 n1 c1))
        (first | exact ⟨cell_kept (w := w21.drew) a0_21 HS.out, cell_kept (w := w21.drew) a1_21 HS.out⟩ | go_keep)
        (first
          | (go_at_call 19
             with_reducible refine (T0.out _ HC.out).mono ?_
             rintro e wz ⟨gv0, rfl, hb, ho⟩
             have HC := Lib.hid (below_step HC.out hb)
             have HS := Lib.hid (below_step HS.out hb)
             try (have O_v1 := Lib.hid (O_v1.out.later hb))
             try (have O_v2 := Lib.hid (O_v2.out.later hb))
             have O_v0 := Lib.hid ho
             clear hb ho)
          | (go_at_call 19
             with_reducible refine (T1.out _ HC.out).mono ?_
             rintro e wz ⟨gv1, rfl, hb, ho⟩
             have HC := Lib.hid (below_step HC.out hb)
             have HS := Lib.hid (below_step HS.out hb)
             try (have O_v0 := Lib.hid (O_v0.out.later hb))
             try (have O_v2 := Lib.hid (O_v2.out.later hb))
             have O_v1 := Lib.hid ho
             clear hb ho)
          | (go_at_call 14
             refine (T2.out _ HC.out).mono ?_
             rintro e wz ⟨gv2, rfl, hb, ho⟩
             have HC := Lib.hid (below_step HC.out hb)
             have HS := Lib.hid (below_step HS.out hb)
             try (have O_v0 := Lib.hid (O_v0.out.later hb))
             try (have O_v1 := Lib.hid (O_v1.out.later hb))
             have O_v2 := Lib.hid ho
             clear hb ho)
          | (go_at_call 37
             refine (CI.out _ _ _ _ _ _ _ _ _ _ HC.out O_v0.out O_v1.out O_v2.out).mono ?_
             rintro e wz ⟨AH, cH, rfl, hb, ho⟩
             have O_H := Lib.hid (ho.wide HS.out.size (Nat.le_refl _) (Nat.le_refl _))
             have HC := Lib.hid (below_step HC.out hb)
             have HS := Lib.hid (below_step HS.out hb)
             try (have O_v0 := Lib.hid (O_v0.out.later hb))
             try (have O_v1 := Lib.hid (O_v1.out.later hb))
             try (have O_v2 := Lib.hid (O_v2.out.later hb))
             clear hb ho))
      all_goals (go_wp2_with fail; go_meet; exact ⟨_, _, rfl, rfl, below_step (below_drew (Below.refl _ _)) HS.out, O_H.out⟩)
    case rest =>
      obtain ⟨AH, cH, rfl, rfl, hb, ho⟩ := hcut
      rename World => w22
      have B_22 := Lib.hid (below_step B_21.out hb)
      have a0_22 := cell_kept a0_21 hb
      have a1_22 := cell_kept a1_21 hb
      have bx0_22 := cell_kept bx0_21 hb
      have bx1_22 := cell_kept bx1_21 hb
      have W_22 := Lib.hid (W_21.out.later hb)
      have G_22 := Lib.hid (G_21.out.later hb)
      have S_22 : Hid (w21.heap.size ≤ w22.heap.size) := hb.size
      have H_22 := Lib.hid ho
      clear hb ho B_21 a0_21 a1_21 bx0_21 bx1_21 W_21 G_21
      go_wp2_with fail
      refine (XE.out _ _ _ _ _ H_22.out.ints W_22.out.ints).mono ?_
      rintro e w23 ⟨rfl, hb⟩
      have B_23 := Lib.hid (below_step B_22.out hb)
      have a0_23 := cell_kept a0_22 hb
      have a1_23 := cell_kept a1_22 hb
      have bx0_23 := cell_kept bx0_22 hb
      have bx1_23 := cell_kept bx1_22 hb
      have W_23 := Lib.hid (W_22.out.later hb)
      have G_23 := Lib.hid (G_22.out.later hb)
      have H_23 := Lib.hid (H_22.out.later hb)
      have S_23 : Hid (w22.heap.size ≤ w23.heap.size) := hb.size
      clear hb B_22 a0_22 a1_22 bx0_22 bx1_22 W_22 G_22 H_22
      go_wp2_with fail
      refine (XH.out _ _ _ _ _ G_23.out).mono ?_
      rintro e w24 ⟨rfl, rfl⟩
      go_wp2
      go_ret
      exact ⟨rfl, B_23.out⟩

theorem walk (A0 : Option Addr) (c0 : Nat) (X0 : List Int) {y0 : World} (h0 : Ints y0 y0.heap.size A0 X0) (l0 : X0.length ≤ 9223372036854775807) (_ : ∀ n ∈ X0, (Lit.int .i64 n).wf = true) (A1 : Option Addr) (c1 : Nat) (X1 : List Int) {y1 : World} (h1 : Ints y1 y1.heap.size A1 X1) (l1 : X1.length ≤ 9223372036854775807) (_ : ∀ n ∈ X1, (Lit.int .i64 n).wf = true) (A2 : Option Addr) (c2 : Nat) (P2 : List (Int × Int)) {y2 : World} (h2 : Copies y2 y2.heap.size A2 P2) (l2 : P2.length ≤ 9223372036854775807) (_ : ∀ d ∈ P2, (Lit.int .i64 d.1).wf = true) (w : World) (e0 : y0 = w) (e1 : y1 = w) (e2 : y2 = w) :
    Calls Try.prog 8 #[.agg #[.slice A0 X0.length c0], .agg #[.slice A1 X1.length c1], .slice A2 P2.length c2] w fun e w' => e = .returned (.bool true) ∧ Below w.heap.size w w' := by
  subst e0
  subst e1
  subst e2
  by_cases hb0 : 1048576 < (X0.length : Int)
  · exact walk_big0 A0 c0 X0 A1 c1 X1 A2 c2 P2 _ h0 l0  hb0
  have hs0 : (X0.length : Int) ≤ 1048576 := by omega
  by_cases hb1 : 1048576 < (X0.length : Int) + (X1.length : Int)
  · exact walk_big1 A0 c0 X0 A1 c1 X1 A2 c2 P2 _ h0 h1 l1 hs0 hb1
  have hs1 : (X0.length : Int) + (X1.length : Int) ≤ 1048576 := by omega
  by_cases hb2 : 1048576 < (X0.length : Int) + (X1.length : Int) + (P2.length : Int)
  · exact walk_big2 A0 c0 X0 A1 c1 X1 A2 c2 P2 _ h0 h1 h2 l2 hs1 hb2
  have hs2 : (X0.length : Int) + (X1.length : Int) + (P2.length : Int) ≤ 1048576 := by omega
  have hm0 : X0.length ≤ 1048576 := by omega
  have hm1 : X1.length ≤ 1048576 := by omega
  have hm2 : P2.length ≤ 1048576 := by omega
  have hx := cmpL_length (xs := X0) (ys := X1) (P := P2) hm2
  refine walk_small A0 c0 X0 A1 c1 X1 A2 c2 P2 (cmpL X0 X1 P2) (cmpC X0 X1 P2) _ h0 h1 h2 hs2 hx (fun W A0 B0 A1 B1 A2 B2 hW hP0 hB0 hP1 hB1 hP2 hB2 => ?_) (fun W A0 B0 A1 B1 A2 B2 hW hP0 hB0 hP1 hB1 hP2 hB2 => ?_)
  · exact specCmp_any A0 X0.length X0 B0 A1 X1.length X1 B1 A2 P2.length P2 B2 W hP0 hP1 hP2 hB0 hB1 hB2 hm0 hm1 hm2
  · exact implCmp_any A0 X0.length X0 B0 A1 X1.length X1 B1 A2 P2.length P2 B2 W hP0 hP1 hP2 hB0 hB1 hB2 hm0 hm1 hm2

set_option maxRecDepth 100000 in
theorem lifted (os : Os) (started : os.Started) (H : Type) (enc : TypeId × Value → H) :
    ReturnsInHanded {} Try.checked os 8 .any (Rows.fnExactCompareCardsSpec.pre6 enc Try.prog Try.f8 Rows.fnExactCompareCardsRow.domain false) (Rows.fnExactCompareCardsSpec.post enc Try.prog Try.f8 false true false false) := by
  refine returnsInHanded_of_change (C := Try.checked) own started (by kernel_rfl) Try.func8
    (ChangeSpec.witness6 (enc := enc) (C := Try.checked) false ⟨#[], #[.agg #[.slice none 0 0], .agg #[.slice none 0 0], .slice none 0 0], []⟩ 8 (by kernel_rfl) (by kernel_rfl) (by kernel_rfl) (by kernel_rfl)) ?_
  intro W base args ds gs before hval0 hW _ _
  have hval : ∀ (j : Nat) t v, Try.f8.params[j]? = some t → args[j]? = some v → Value.okWide Try.prog W .any base t v := hval0
  have hW' := hW
  obtain ⟨p, q, hA0, hV, rfl, _, _⟩ := hW
  have hA : DataW.TrodAll enc Try.prog W 0 (fun _ => true) true Try.f8.params.toList args.toList ds p := hA0
  rw [Try.params8] at hA hval
  obtain ⟨v0, vs0, d0, ds0, p0, q0, hargs, rfl, rfl, h0, r0⟩ := trodAll_cons hA
  obtain ⟨v1, vs1, d1, ds1, p1, q1, rfl, rfl, rfl, h1, r1⟩ := trodAll_cons r0
  obtain ⟨v2, vs2, d2, ds2, p2, q2, rfl, rfl, rfl, h2, r2⟩ := trodAll_cons r1
  obtain ⟨rfl, rfl, rfl⟩ := trodAll_nil r2
  obtain rfl : args = #[v0, v1, v2] := by cases args; simp_all
  obtain ⟨rfl, rfl⟩ := trodVars_none hV
  obtain ⟨A0, c0, xs0, rfl, i0, l0, w0⟩ := open_card (hval 0 31 v0 rfl rfl) h0
  obtain ⟨A1, c1, xs1, rfl, i1, l1, w1⟩ := open_card (hval 1 31 v1 rfl rfl) h1
  obtain ⟨A2, c2, P2, rfl, i2, l2, z2⟩ := open_copies (hval 2 22 v2 rfl rfl) h2
  refine (walk A0 c0 xs0 i0 l0 w0 A1 c1 xs1 i1 l1 w1 A2 c2 P2 i2 l2 z2 W rfl rfl rfl).mono fun e W' ⟨he, hb⟩ => ?_
  subst he
  refine ⟨_, rfl, law_post hW' rfl rfl ?_ rfl rfl rfl hb⟩
  intro t ht
  rw [Try.params8] at ht
  have ht' : t = 31 ∨ t = 31 ∨ t = 22 := by simpa using ht
  rcases ht' with rfl | rfl | rfl <;> exact ⟨by kernel_rfl, of_decide_eq_true (by kernel_rfl)⟩

theorem over : Rows.fnExactCompareCardsRow.holds Try.pinned (OpenSpec.ofChange Rows.fnExactCompareCardsSpec) :=
  OpenClaim.holds_of_wide 8 Try.f8 rfl rfl rfl rfl rfl rfl rfl ⟨rfl, rfl, rfl, rfl, rfl⟩ rfl rfl rfl rfl rfl (by kernel_rfl) Try.func8 (by kernel_rfl)
    (of_decide_eq_true (by kernel_rfl)) (by unfold Func.isWrapper; first | (rw [if_pos (by decide +kernel)]; kernel_rfl) | (rw [if_neg (by decide +kernel)]; exact ⟨rfl, rfl⟩))
    (fun os started H enc _ => lifted os started H enc)

theorem proved : Rows.FnExactCompareCardsSaid :=
  over
end Go.Proofs.Ytamookdlbmbncaa.fnExactCompareCards
