/- For every list of cards, column and list of copies, the law FnExactInterspersedGang returns true: impl.InterspersedGang answers as spec.InterspersedGang, in memory of its own, and leaves its arguments as it was. Conditions: none. -/
import Derived.Test.YtamookdlbmbncaaInterS
import Derived.Test.YtamookdlbmbncaaLaw
import Derived.Test.YtamookdlbmbncaaBoxed
import Derived.Deep.RegionHeld3
import Derived.Deep.DeepCutAuto
import Derived.Test.YtamookdlbmbncaaLawDeck
import Derived.Test.YtamookdlbmbncaaDeckMem
import Derived.Test.YtamookdlbmbncaaCopyMem
namespace Go.Proofs.Ytamookdlbmbncaa.fnExactInterspersedGang
open Go.ChangeShapes Go.WideShapes Go.ChangeAt Go.RowKit

theorem walk_big0 (A0 : Option Addr) (c0 : Nat) (D0 : List CardV) (x1 : Int) (A2 : Option Addr) (c2 : Nat) (P2 : List (Int × Int)) (w : World) (h0 : Deck w w.heap.size A0 D0) (l0 : D0.length ≤ 9223372036854775807 ∧ ∀ d ∈ D0, d.xs.length ≤ 9223372036854775807)  (hbig : 1048576 < (szTo D0 D0.length : Int)) :
    Calls Try.prog 7 #[.slice A0 D0.length c0, .int .i64 x1, .slice A2 P2.length c2] w fun e w' => e = .returned (.bool true) ∧ Below w.heap.size w w' := by
  have z0 := fun W (hW : Below w.heap.size w W) => szCards_big A0 c0 D0 (1048576) w.heap.size W (h0.below hW) hW.size (by omega) (by omega) l0.1 l0.2 (by omega)
  obtain ⟨t0, ht0⟩ : ∃ t, szTo D0 D0.length = t := ⟨_, rfl⟩
  rw [ht0] at hbig
  obtain ⟨n0, hn0⟩ : ∃ n, D0.length = n := ⟨_, rfl⟩
  simp only [hn0] at z0 ⊢
  have Z0 := Lib.hid z0
  clear z0 hn0 ht0 h0 l0
  go_enter Try.func7, Try.ntmps7
  go_wp2_with fail
  refine (Z0.out _ (Below.refl _ _)).mono ?_
  rintro e w1 ⟨rfl, hb⟩
  have B_1 := Lib.hid hb
  have S_1 : Hid (w.heap.size + 0 ≤ w1.heap.size) := by show _ ≤ _; have := hb.size; simpa using this
  clear hb
  go_wp2
  go_ret
  exact ⟨rfl, B_1.out⟩

theorem walk_big1 (A0 : Option Addr) (c0 : Nat) (D0 : List CardV) (x1 : Int) (A2 : Option Addr) (c2 : Nat) (P2 : List (Int × Int)) (w : World) (h0 : Deck w w.heap.size A0 D0) (h2 : Copies w w.heap.size A2 P2) (l2 : P2.length ≤ 9223372036854775807) (hs : (szTo D0 D0.length : Int) ≤ 1048576) (hbig : 1048576 < (szTo D0 D0.length : Int) + (P2.length : Int)) :
    Calls Try.prog 7 #[.slice A0 D0.length c0, .int .i64 x1, .slice A2 P2.length c2] w fun e w' => e = .returned (.bool true) ∧ Below w.heap.size w w' := by
  have z0 := fun W (hW : Below w.heap.size w W) => szCards_small A0 c0 D0 (1048576) w.heap.size W (h0.below hW) hW.size (by omega) (by omega)
  have z2 := fun (W : World) (_ : Below w.heap.size w W) => szCopies_any A2 P2.length c2 (1048576 - (szTo D0 D0.length : Int)) W (by omega) (by omega) (by omega)
  have e2 : (if (1048576 - (szTo D0 D0.length : Int)) < (P2.length : Int) then (-1 : Int) else 1048576 - (szTo D0 D0.length : Int) - P2.length) = -1 := if_pos (by omega)
  simp only [e2] at z2
  clear e2
  obtain ⟨t0, ht0⟩ : ∃ t, szTo D0 D0.length = t := ⟨_, rfl⟩
  rw [ht0] at hbig hs
  simp only [ht0] at z0 z2
  obtain ⟨n0, hn0⟩ : ∃ n, D0.length = n := ⟨_, rfl⟩
  simp only [hn0] at z0 ⊢
  obtain ⟨n2, hn2⟩ : ∃ n, P2.length = n := ⟨_, rfl⟩
  rw [hn2] at hbig
  simp only [hn2] at z2 ⊢
  have Z0 := Lib.hid z0
  have Z2 := Lib.hid z2
  have g0 : ¬ 1048576 - (t0 : Int) < 0 := by omega
  clear z0 z2 hn0 hn2 ht0 h0 h2 l2
  go_enter Try.func7, Try.ntmps7
  go_wp2_with fail
  refine (Z0.out _ (Below.refl _ _)).mono ?_
  rintro e w1 ⟨rfl, hb⟩
  have B_1 := Lib.hid hb
  have S_1 : Hid (w.heap.size + 0 ≤ w1.heap.size) := by show _ ≤ _; have := hb.size; simpa using this
  clear hb
  go_wp2_with fail
  refine (Z2.out _ B_1.out).mono ?_
  rintro e w2 ⟨rfl, rfl⟩
  go_wp2
  go_ret
  exact ⟨rfl, B_1.out⟩

set_option maxRecDepth 100000 in
set_option maxHeartbeats 8000000 in
theorem walk_small (A0 : Option Addr) (c0 : Nat) (D0 : List CardV) (x1 : Int) (A2 : Option Addr) (c2 : Nat) (P2 : List (Int × Int)) (X : List (List Int)) (v : Int) (w : World) (h0 : Deck w w.heap.size A0 D0) (h2 : Copies w w.heap.size A2 P2) (hs : (szTo D0 D0.length : Int) + (P2.length : Int) ≤ 1048576) (hx : X.length ≤ 1048576) (hxt : totH X ≤ 1048576)
    (hv : ∀ (W : World) (E0 : List CardV) (A0 : Option Addr) (B0 : Nat) (A2 : Option Addr) (B2 : Nat), Below w.heap.size w W → holes E0 = holes D0 → Deck W B0 A0 E0 → CapsEq E0 → B0 ≤ W.heap.size → Copies W B2 A2 P2 → B2 ≤ W.heap.size → Calls Try.prog 34 #[.slice A0 E0.length E0.length, .int .i64 x1, .slice A2 P2.length P2.length] W (GivesDC X v W))
    (hi : ∀ (W : World) (E0 : List CardV) (A0 : Option Addr) (B0 : Nat) (A2 : Option Addr) (B2 : Nat), Below w.heap.size w W → holes E0 = holes D0 → Deck W B0 A0 E0 → CapsEq E0 → B0 ≤ W.heap.size → Copies W B2 A2 P2 → B2 ≤ W.heap.size → Calls Try.prog 35 #[.slice A0 E0.length E0.length, .int .i64 x1, .slice A2 P2.length P2.length] W (GivesDC X v W)) :
    Calls Try.prog 7 #[.slice A0 D0.length c0, .int .i64 x1, .slice A2 P2.length c2] w fun e w' => e = .returned (.bool true) ∧ Below w.heap.size w w' := by
  have z0 := fun W (hW : Below w.heap.size w W) => szCards_small A0 c0 D0 (1048576) w.heap.size W (h0.below hW) hW.size (by omega) (by omega)
  have hl0 : ∀ d ∈ D0, d.xs.length ≤ 1048576 := fun d hd => by have := szTo_each D0 d hd; omega
  have hm0 : D0.length ≤ 1048576 := by have := szTo_len D0; omega
  have hu0 : totH (holes D0) ≤ 1048576 := by have := szTo_totH D0; omega
  have t0 := fun W (hW : Below w.heap.size w W) => toCardsAt_any A0 c0 D0 w.heap.size W (h0.below hW) hW.size hm0 hl0
  have q0 : ∀ (W : World) (E F : List CardV) (A A' : Option Addr), holes E = holes D0 → holes F = holes D0 → Deck W W.heap.size A E → Deck W W.heap.size A' F → Calls Try.prog 29 #[.slice A D0.length D0.length, .slice A' D0.length D0.length] W fun e w' => e = .returned (.bool true) ∧ Below W.heap.size W w' := fun W E F A A' hE hF hO hP => by
    have hEn := holes_length hE
    have hFn := holes_length hF
    have := eqCards_any A A' D0.length D0.length E F W.heap.size W.heap.size W hO hP (Nat.le_refl _) (Nat.le_refl _) (by omega) (by omega) (holes_each hE hl0) (holes_each hF hl0)
    rw [hE, hF, hEn, hFn] at this
    simpa using this
  have r0 : ∀ (W : World) (E : List CardV) (A : Option Addr) (lo hi : Nat) (k : Int), holes E = holes D0 → 0 ≤ k → k ≤ 4194304 → DeckAt W lo hi A E → Calls Try.prog 30 #[.slice A D0.length D0.length, .int .i64 k] W fun e w' => e = .returned (.int .i64 (k + totH (holes D0))) ∧ Within lo hi W w' ∧ DeckAt w' lo hi A (markTo E k E.length) := fun W E A lo hi k hE h0 h1 hO => by
    have := markDeck_any A D0.length E (holes D0) lo hi k W hE hO h0 h1 (by rw [holes_len]; exact hm0) hu0
    rw [holes_len] at this
    exact this
  have z2 := fun (W : World) (_ : Below w.heap.size w W) => szCopies_any A2 P2.length c2 (1048576 - (szTo D0 D0.length : Int)) W (by omega) (by omega) (by omega)
  have e2 : (if (1048576 - (szTo D0 D0.length : Int)) < (P2.length : Int) then (-1 : Int) else 1048576 - (szTo D0 D0.length : Int) - P2.length) = 1048576 - (szTo D0 D0.length : Int) - P2.length := if_neg (by omega)
  simp only [e2] at z2
  clear e2
  have hm2 : P2.length ≤ 1048576 := by omega
  have t2 := fun W (hW : Below w.heap.size w W) => toCopiesAt_any A2 c2 P2 w.heap.size W (h2.below hW) hW.size hm2
  have q2 := fun A A' W (hA : Copies W W.heap.size A P2) (hA' : Copies W W.heap.size A' P2) => eqCopies_same A A' P2.length P2.length P2 W.heap.size W.heap.size W hA hA' (Nat.le_refl _) (Nat.le_refl _) hm2
  have r2 := fun A lo hi W (k : Int) (h0 : 0 ≤ k) (h1 : k ≤ 4194304) (hA : QAt W lo hi A P2) => markCopies_any A P2.length P2 lo hi k W hA h0 h1 hm2
  have xe : ∀ (W : World) (E F : List CardV) (A A' : Option Addr) (c c' : Nat), holes E = X → holes F = X → Deck W W.heap.size A E → Deck W W.heap.size A' F → Calls Try.prog 29 #[.slice A X.length c, .slice A' X.length c'] W fun e w' => e = .returned (.bool true) ∧ Below W.heap.size W w' := fun W E F A A' c c' hE hF hO hP => by
    have hEn : E.length = X.length := by rw [← hE, holes_len]
    have hFn : F.length = X.length := by rw [← hF, holes_len]
    have := eqCards_any A A' c c' E F W.heap.size W.heap.size W hO hP (Nat.le_refl _) (Nat.le_refl _) (by omega) (by omega) (totH_deck hE hxt) (totH_deck hF hxt)
    rw [hE, hF, hEn, hFn] at this
    simpa using this
  have xm := fun A c E lo hi W (hE : holes E = X) (h : DeckAt W lo hi A E) => markDeck_any A c E X lo hi 1 W hE h (by omega) (by omega) hx hxt
  have xh := fun A c E lo hi W (hE : holes E = X) (h : DeckAt W lo hi A (markTo E 1 E.length)) => heldDeck_any A c E X lo hi 1 W hE h (by omega) (by omega) hx hxt
  have gx : ¬ 1 + (totH X : Int) < 0 := by omega
  have cv : ∀ (W : World) (E0 : List CardV) (g0 lo0 hi0 : Nat) (g2 lo2 hi2 : Nat), Below w.heap.size w W → holes E0 = holes D0 → CapsEq E0 → DeckAt W lo0 hi0 (some ⟨g0, 0, none⟩) E0 → QAt W lo2 hi2 (some ⟨g2, 0, none⟩) P2 → Calls Try.prog 34 #[.slice (some ⟨g0, 0, none⟩) D0.length D0.length, .int .i64 x1, .slice (some ⟨g2, 0, none⟩) P2.length P2.length] W (GivesDC X v W) := fun W E0 g0 lo0 hi0 g2 lo2 hi2 hW hE0 hC0 hO0 hO2 => by
    have := hv W E0 (some ⟨g0, 0, none⟩) W.heap.size (some ⟨g2, 0, none⟩) W.heap.size hW hE0 hO0.deck hC0 (Nat.le_refl _) hO2.copies (Nat.le_refl _)
    rw [holes_length hE0] at this
    exact this
  have ci : ∀ (W : World) (E0 : List CardV) (g0 lo0 hi0 : Nat) (g2 lo2 hi2 : Nat), Below w.heap.size w W → holes E0 = holes D0 → CapsEq E0 → DeckAt W lo0 hi0 (some ⟨g0, 0, none⟩) E0 → QAt W lo2 hi2 (some ⟨g2, 0, none⟩) P2 → Calls Try.prog 35 #[.slice (some ⟨g0, 0, none⟩) D0.length D0.length, .int .i64 x1, .slice (some ⟨g2, 0, none⟩) P2.length P2.length] W (GivesDC X v W) := fun W E0 g0 lo0 hi0 g2 lo2 hi2 hW hE0 hC0 hO0 hO2 => by
    have := hi W E0 (some ⟨g0, 0, none⟩) W.heap.size (some ⟨g2, 0, none⟩) W.heap.size hW hE0 hO0.deck hC0 (Nat.le_refl _) hO2.copies (Nat.le_refl _)
    rw [holes_length hE0] at this
    exact this
  have gn0 : totH (holes D0) = 0 ∨ 0 < szTo D0 D0.length := by have := szTo_totH D0; omega
  have gt0 := szTo_totH D0
  obtain ⟨s0, hs0⟩ : ∃ s, szTo D0 D0.length = s := ⟨_, rfl⟩
  simp only [hs0] at hs gn0 gt0 z0 z2
  obtain ⟨n0, hn0⟩ : ∃ n, D0.length = n := ⟨_, rfl⟩
  simp only [hn0] at z0 gt0 t0 q0 r0 cv ci ⊢
  obtain ⟨u0, hU0⟩ : ∃ u, totH (holes D0) = u := ⟨_, rfl⟩
  simp only [hU0] at r0 gn0 gt0
  obtain ⟨n2, hn2⟩ : ∃ n, P2.length = n := ⟨_, rfl⟩
  simp only [hn2] at z2 t2 q2 r2 cv ci hs ⊢
  have Z0 := Lib.hid z0
  have T0 := Lib.hid t0
  have Q0 := Lib.hid q0
  have R0 := Lib.hid r0
  have Z2 := Lib.hid z2
  have T2 := Lib.hid t2
  have Q2 := Lib.hid q2
  have R2 := Lib.hid r2
  have XE := Lib.hid xe
  have XM := Lib.hid xm
  have XH := Lib.hid xh
  have CV := Lib.hid cv
  have CI := Lib.hid ci
  have g0 : ¬ 1048576 - (s0 : Int) < 0 := by omega
  have g2 : ¬ 1048576 - (s0 : Int) - (n2 : Int) < 0 := by omega
  have kb0 : 0 ≤ (1 : Int) ∧ (1 : Int) ≤ 4194304 := by omega
  have kb1 : 0 ≤ 1 + (u0 : Int) ∧ 1 + (u0 : Int) ≤ 4194304 := by omega
  have gk : ¬ 1 + (u0 : Int) + 2 * (n2 : Int) < 0 := by omega
  clear cv ci hv hi xe xm xh z0 t0 q0 r0 hn0 h0 hm0 hs0 hl0 hu0 hU0 gn0 gt0 z2 t2 q2 r2 hn2 h2 hm2
  go_enter Try.func7, Try.ntmps7
  go_wp2_with fail
  refine (Z0.out _ (Below.refl _ _)).mono ?_
  rintro e w1 ⟨rfl, hb⟩
  have B_1 := Lib.hid hb
  have S_1 : Hid (w.heap.size + 0 ≤ w1.heap.size) := by show _ ≤ _; have := hb.size; simpa using this
  clear hb
  go_wp2_with fail
  refine (Z2.out _ B_1.out).mono ?_
  rintro e w2 ⟨rfl, rfl⟩
  go_wp2_with fail
  refine (T0.out _ B_1.out).mono ?_
  rintro e w2 ⟨gw0, Ew0, hE, rfl, hb, ho, hC⟩
  have B_2 := Lib.hid (below_step B_1.out hb)
  have S_2 : Hid (w1.heap.size ≤ w2.heap.size) := hb.size
  have w0_2 := Lib.hid ho
  clear hb ho B_1
  have XE_w0 := Lib.hid hE
  have XC_w0 := Lib.hid hC
  clear hE hC
  go_wp2_with fail
  refine (T2.out _ B_2.out).mono ?_
  rintro e w3 ⟨gw2, rfl, hb, ho⟩
  have B_3 := Lib.hid (below_step B_2.out hb)
  have w0_3 := Lib.hid (w0_2.out.later hb)
  have S_3 : Hid (w2.heap.size ≤ w3.heap.size) := hb.size
  have w2_3 := Lib.hid ho
  clear hb ho B_2 w0_2
  go_wp2_with fail
  refine (CV.out _ Ew0 _ _ _ _ _ _ B_3.out XE_w0.out XC_w0.out w0_3.out w2_3.out).mono ?_
  rintro e w4 ⟨AW, cW, EW, rfl, hE, hb, ho⟩
  have B_4 := Lib.hid (below_step B_3.out hb)
  have w0_4 := Lib.hid (w0_3.out.later hb)
  have w2_4 := Lib.hid (w2_3.out.later hb)
  have S_4 : Hid (w3.heap.size ≤ w4.heap.size) := hb.size
  have W_4 := Lib.hid ho
  clear hb ho B_3 w0_3 w2_3
  have XE_W := Lib.hid hE
  clear hE
  clear w0_4
  clear w2_4
  go_wp2_with fail
  refine (T0.out _ B_4.out).mono ?_
  rintro e w5 ⟨gx0, Ex0, hE, rfl, hb, ho, hC⟩
  have B_5 := Lib.hid (below_step B_4.out hb)
  have W_5 := Lib.hid (W_4.out.later hb)
  have S_5 : Hid (w4.heap.size ≤ w5.heap.size) := hb.size
  have x0_5 := Lib.hid ho
  clear hb ho B_4 W_4
  have XE_x0 := Lib.hid hE
  have XC_x0 := Lib.hid hC
  clear hE hC
  go_wp2_with fail
  refine (T2.out _ B_5.out).mono ?_
  rintro e w6 ⟨gx2, rfl, hb, ho⟩
  have B_6 := Lib.hid (below_step B_5.out hb)
  have W_6 := Lib.hid (W_5.out.later hb)
  have x0_6 := Lib.hid (x0_5.out.later hb)
  have S_6 : Hid (w5.heap.size ≤ w6.heap.size) := hb.size
  have x2_6 := Lib.hid ho
  clear hb ho B_5 W_5 x0_5
  go_wp2_with fail
  refine (CI.out _ Ex0 _ _ _ _ _ _ B_6.out XE_x0.out XC_x0.out x0_6.out x2_6.out).mono ?_
  rintro e w7 ⟨AG, cG, EG, rfl, hE, hb, ho⟩
  have B_7 := Lib.hid (below_step B_6.out hb)
  have W_7 := Lib.hid (W_6.out.later hb)
  have x0_7 := Lib.hid (x0_6.out.later hb)
  have x2_7 := Lib.hid (x2_6.out.later hb)
  have S_7 : Hid (w6.heap.size ≤ w7.heap.size) := hb.size
  have G_7 := Lib.hid ho
  clear hb ho B_6 W_6 x0_6 x2_6
  have XE_G := Lib.hid hE
  clear hE
  go_wp2_with fail
  refine (XE.out _ EG EW _ _ _ _ XE_G.out XE_W.out G_7.out.deck W_7.out.deck).mono ?_
  rintro e w8 ⟨rfl, hb⟩
  have B_8 := Lib.hid (below_step B_7.out hb)
  have W_8 := Lib.hid (W_7.out.later hb)
  have x0_8 := Lib.hid (x0_7.out.later hb)
  have x2_8 := Lib.hid (x2_7.out.later hb)
  have G_8 := Lib.hid (G_7.out.later hb)
  have S_8 : Hid (w7.heap.size ≤ w8.heap.size) := hb.size
  clear hb B_7 W_7 x0_7 x2_7 G_7
  go_wp2_with fail
  refine (T0.out _ B_8.out).mono ?_
  rintro e w9 ⟨gz0, Ez0, hE, rfl, hb, ho, hC⟩
  have B_9 := Lib.hid (below_step B_8.out hb)
  have W_9 := Lib.hid (W_8.out.later hb)
  have x0_9 := Lib.hid (x0_8.out.later hb)
  have x2_9 := Lib.hid (x2_8.out.later hb)
  have G_9 := Lib.hid (G_8.out.later hb)
  have S_9 : Hid (w8.heap.size ≤ w9.heap.size) := hb.size
  have z0_9 := Lib.hid ho
  clear hb ho B_8 W_8 x0_8 x2_8 G_8
  have XE_z0 := Lib.hid hE
  clear hE hC
  go_wp2_with fail
  refine (Q0.out _ Ex0 Ez0 _ _ XE_x0.out XE_z0.out x0_9.out.deck z0_9.out.deck).mono ?_
  rintro e w10 ⟨rfl, hb⟩
  have B_10 := Lib.hid (below_step B_9.out hb)
  have W_10 := Lib.hid (W_9.out.later hb)
  have x0_10 := Lib.hid (x0_9.out.later hb)
  have x2_10 := Lib.hid (x2_9.out.later hb)
  have G_10 := Lib.hid (G_9.out.later hb)
  have z0_10 := Lib.hid (z0_9.out.later hb)
  have S_10 : Hid (w9.heap.size ≤ w10.heap.size) := hb.size
  clear hb B_9 W_9 x0_9 x2_9 G_9 z0_9
  clear z0_10
  go_wp2_with fail
  refine (T2.out _ B_10.out).mono ?_
  rintro e w11 ⟨gz2, rfl, hb, ho⟩
  have B_11 := Lib.hid (below_step B_10.out hb)
  have W_11 := Lib.hid (W_10.out.later hb)
  have x0_11 := Lib.hid (x0_10.out.later hb)
  have x2_11 := Lib.hid (x2_10.out.later hb)
  have G_11 := Lib.hid (G_10.out.later hb)
  have S_11 : Hid (w10.heap.size ≤ w11.heap.size) := hb.size
  have z2_11 := Lib.hid ho
  clear hb ho B_10 W_10 x0_10 x2_10 G_10
  go_wp2_with fail
  refine (Q2.out _ _ _ x2_11.out.copies z2_11.out.copies).mono ?_
  rintro e w12 ⟨rfl, hb⟩
  have B_12 := Lib.hid (below_step B_11.out hb)
  have W_12 := Lib.hid (W_11.out.later hb)
  have x0_12 := Lib.hid (x0_11.out.later hb)
  have x2_12 := Lib.hid (x2_11.out.later hb)
  have G_12 := Lib.hid (G_11.out.later hb)
  have z2_12 := Lib.hid (z2_11.out.later hb)
  have S_12 : Hid (w11.heap.size ≤ w12.heap.size) := hb.size
  clear hb B_11 W_11 x0_11 x2_11 G_11 z2_11
  clear z2_12
  go_wp2_with fail
  refine (R0.out _ Ex0 _ _ _ _ XE_x0.out kb0.1 kb0.2 x0_12.out).mono ?_
  rintro e w13 ⟨rfl, hw, hrow⟩
  have B_13 := Lib.hid (below_within B_12.out hw (by have z1 := S_1.out; have z2 := S_2.out; have z3 := S_3.out; have z4 := S_4.out; have z5 := S_5.out; have z6 := S_6.out; have z7 := S_7.out; have z8 := S_8.out; have z9 := S_9.out; have z10 := S_10.out; have z11 := S_11.out; have z12 := S_12.out; omega))
  have W_13 := Lib.hid (W_12.out.within hw (Or.inl (by have z1 := S_1.out; have z2 := S_2.out; have z3 := S_3.out; have z4 := S_4.out; have z5 := S_5.out; have z6 := S_6.out; have z7 := S_7.out; have z8 := S_8.out; have z9 := S_9.out; have z10 := S_10.out; have z11 := S_11.out; have z12 := S_12.out; omega)))
  have x0_13 := Lib.hid hrow
  have x2_13 := Lib.hid (x2_12.out.within hw (Or.inr (by have z1 := S_1.out; have z2 := S_2.out; have z3 := S_3.out; have z4 := S_4.out; have z5 := S_5.out; have z6 := S_6.out; have z7 := S_7.out; have z8 := S_8.out; have z9 := S_9.out; have z10 := S_10.out; have z11 := S_11.out; have z12 := S_12.out; omega)))
  have G_13 := Lib.hid (G_12.out.within hw (Or.inr (by have z1 := S_1.out; have z2 := S_2.out; have z3 := S_3.out; have z4 := S_4.out; have z5 := S_5.out; have z6 := S_6.out; have z7 := S_7.out; have z8 := S_8.out; have z9 := S_9.out; have z10 := S_10.out; have z11 := S_11.out; have z12 := S_12.out; omega)))
  have S_13 : Hid (w12.heap.size ≤ w13.heap.size) := hw.size
  clear hw hrow B_12 W_12 x0_12 x2_12 G_12
  go_wp2_with fail
  refine (R2.out _ _ _ _ _ kb1.1 kb1.2 x2_13.out).mono ?_
  rintro e w14 ⟨rfl, hw, hrow⟩
  have B_14 := Lib.hid (below_within B_13.out hw (by have z1 := S_1.out; have z2 := S_2.out; have z3 := S_3.out; have z4 := S_4.out; have z5 := S_5.out; have z6 := S_6.out; have z7 := S_7.out; have z8 := S_8.out; have z9 := S_9.out; have z10 := S_10.out; have z11 := S_11.out; have z12 := S_12.out; have z13 := S_13.out; omega))
  have W_14 := Lib.hid (W_13.out.within hw (Or.inl (by have z1 := S_1.out; have z2 := S_2.out; have z3 := S_3.out; have z4 := S_4.out; have z5 := S_5.out; have z6 := S_6.out; have z7 := S_7.out; have z8 := S_8.out; have z9 := S_9.out; have z10 := S_10.out; have z11 := S_11.out; have z12 := S_12.out; have z13 := S_13.out; omega)))
  have x0_14 := Lib.hid (x0_13.out.within hw (Or.inl (by have z1 := S_1.out; have z2 := S_2.out; have z3 := S_3.out; have z4 := S_4.out; have z5 := S_5.out; have z6 := S_6.out; have z7 := S_7.out; have z8 := S_8.out; have z9 := S_9.out; have z10 := S_10.out; have z11 := S_11.out; have z12 := S_12.out; have z13 := S_13.out; omega)))
  have x2_14 := Lib.hid hrow
  have G_14 := Lib.hid (G_13.out.within hw (Or.inr (by have z1 := S_1.out; have z2 := S_2.out; have z3 := S_3.out; have z4 := S_4.out; have z5 := S_5.out; have z6 := S_6.out; have z7 := S_7.out; have z8 := S_8.out; have z9 := S_9.out; have z10 := S_10.out; have z11 := S_11.out; have z12 := S_12.out; have z13 := S_13.out; omega)))
  have S_14 : Hid (w13.heap.size ≤ w14.heap.size) := hw.size
  clear hw hrow B_13 W_13 x0_13 x2_13 G_13
  go_wp2_with fail
  refine (XE.out _ EG EW _ _ _ _ XE_G.out XE_W.out G_14.out.deck W_14.out.deck).mono ?_
  rintro e w15 ⟨rfl, hb⟩
  have B_15 := Lib.hid (below_step B_14.out hb)
  have W_15 := Lib.hid (W_14.out.later hb)
  have x0_15 := Lib.hid (x0_14.out.later hb)
  have x2_15 := Lib.hid (x2_14.out.later hb)
  have G_15 := Lib.hid (G_14.out.later hb)
  have S_15 : Hid (w14.heap.size ≤ w15.heap.size) := hb.size
  clear hb B_14 W_14 x0_14 x2_14 G_14
  clear x0_15
  clear x2_15
  go_wp2_with fail
  refine (XM.out _ _ EG _ _ _ XE_G.out G_15.out).mono ?_
  rintro e w16 ⟨rfl, hw, hrow⟩
  have B_16 := Lib.hid (below_within B_15.out hw (by have z1 := S_1.out; have z2 := S_2.out; have z3 := S_3.out; have z4 := S_4.out; have z5 := S_5.out; have z6 := S_6.out; have z7 := S_7.out; have z8 := S_8.out; have z9 := S_9.out; have z10 := S_10.out; have z11 := S_11.out; have z12 := S_12.out; have z13 := S_13.out; have z14 := S_14.out; have z15 := S_15.out; omega))
  have W_16 := Lib.hid (W_15.out.within hw (Or.inl (by have z1 := S_1.out; have z2 := S_2.out; have z3 := S_3.out; have z4 := S_4.out; have z5 := S_5.out; have z6 := S_6.out; have z7 := S_7.out; have z8 := S_8.out; have z9 := S_9.out; have z10 := S_10.out; have z11 := S_11.out; have z12 := S_12.out; have z13 := S_13.out; have z14 := S_14.out; have z15 := S_15.out; omega)))
  have G_16 := Lib.hid hrow
  have S_16 : Hid (w15.heap.size ≤ w16.heap.size) := hw.size
  clear hw hrow B_15 W_15 G_15
  go_wp2_with fail
  refine (XH.out _ _ EG _ _ _ XE_G.out G_16.out).mono ?_
  rintro e w17 ⟨rfl, rfl⟩
  go_wp2_with fail
  refine (T0.out _ B_16.out).mono ?_
  rintro e w17 ⟨gv0, Ev0, hE, rfl, hb, ho, hC⟩
  have B_17 := Lib.hid (below_step B_16.out hb)
  have W_17 := Lib.hid (W_16.out.later hb)
  have G_17 := Lib.hid (G_16.out.later hb)
  have S_17 : Hid (w16.heap.size ≤ w17.heap.size) := hb.size
  have v0_17 := Lib.hid ho
  clear hb ho B_16 W_16 G_16
  have XE_v0 := Lib.hid hE
  have XC_v0 := Lib.hid hC
  clear hE hC
  go_wp2_with fail
  refine (T2.out _ B_17.out).mono ?_
  rintro e w18 ⟨gv2, rfl, hb, ho⟩
  have B_18 := Lib.hid (below_step B_17.out hb)
  have W_18 := Lib.hid (W_17.out.later hb)
  have G_18 := Lib.hid (G_17.out.later hb)
  have v0_18 := Lib.hid (v0_17.out.later hb)
  have S_18 : Hid (w17.heap.size ≤ w18.heap.size) := hb.size
  have v2_18 := Lib.hid ho
  clear hb ho B_17 W_17 G_17 v0_17
  go_wp2_with fail
  refine (CI.out _ Ev0 _ _ _ _ _ _ B_18.out XE_v0.out XC_v0.out v0_18.out v2_18.out).mono ?_
  rintro e w19 ⟨AH, cH, EH, rfl, hE, hb, ho⟩
  have B_19 := Lib.hid (below_step B_18.out hb)
  have W_19 := Lib.hid (W_18.out.later hb)
  have G_19 := Lib.hid (G_18.out.later hb)
  have v0_19 := Lib.hid (v0_18.out.later hb)
  have v2_19 := Lib.hid (v2_18.out.later hb)
  have S_19 : Hid (w18.heap.size ≤ w19.heap.size) := hb.size
  have H_19 := Lib.hid ho
  clear hb ho B_18 W_18 G_18 v0_18 v2_18
  have XE_H := Lib.hid hE
  clear hE
  go_wp2_with fail
  refine (XE.out _ EH EW _ _ _ _ XE_H.out XE_W.out H_19.out.deck W_19.out.deck).mono ?_
  rintro e w20 ⟨rfl, hb⟩
  have B_20 := Lib.hid (below_step B_19.out hb)
  have W_20 := Lib.hid (W_19.out.later hb)
  have G_20 := Lib.hid (G_19.out.later hb)
  have v0_20 := Lib.hid (v0_19.out.later hb)
  have v2_20 := Lib.hid (v2_19.out.later hb)
  have H_20 := Lib.hid (H_19.out.later hb)
  have S_20 : Hid (w19.heap.size ≤ w20.heap.size) := hb.size
  clear hb B_19 W_19 G_19 v0_19 v2_19 H_19
  go_wp2_with fail
  refine (XH.out _ _ EG _ _ _ XE_G.out G_20.out).mono ?_
  rintro e w21 ⟨rfl, rfl⟩
  go_wp2
  go_ret
  exact ⟨rfl, B_20.out⟩

theorem walk (A0 : Option Addr) (c0 : Nat) (D0 : List CardV) {y0 : World} (h0 : Deck y0 y0.heap.size A0 D0) (l0 : D0.length ≤ 9223372036854775807 ∧ ∀ d ∈ D0, d.xs.length ≤ 9223372036854775807) (x1 : Int) (_ : (Lit.int .i64 x1).wf = true) (A2 : Option Addr) (c2 : Nat) (P2 : List (Int × Int)) {y2 : World} (h2 : Copies y2 y2.heap.size A2 P2) (l2 : P2.length ≤ 9223372036854775807) (_ : ∀ d ∈ P2, (Lit.int .i64 d.1).wf = true) (w : World) (e0 : y0 = w) (e2 : y2 = w) :
    Calls Try.prog 7 #[.slice A0 D0.length c0, .int .i64 x1, .slice A2 P2.length c2] w fun e w' => e = .returned (.bool true) ∧ Below w.heap.size w w' := by
  subst e0
  subst e2
  by_cases hb0 : 1048576 < (szTo D0 D0.length : Int)
  · exact walk_big0 A0 c0 D0 x1 A2 c2 P2 _ h0 l0  hb0
  have hs0 : (szTo D0 D0.length : Int) ≤ 1048576 := by omega
  by_cases hb1 : 1048576 < (szTo D0 D0.length : Int) + (P2.length : Int)
  · exact walk_big1 A0 c0 D0 x1 A2 c2 P2 _ h0 h2 l2 hs0 hb1
  have hs1 : (szTo D0 D0.length : Int) + (P2.length : Int) ≤ 1048576 := by omega
  have hl0 : ∀ d ∈ D0, d.xs.length ≤ 1048576 := fun d hd => by have := szTo_each D0 d hd; omega
  have hm0 : D0.length ≤ 1048576 := by have := szTo_len D0; omega
  have hm2 : P2.length ≤ 1048576 := by omega
  have hx := interV_length (holes D0) x1 P2
  have hxt := interV_total (holes D0) x1 P2
  refine walk_small A0 c0 D0 x1 A2 c2 P2 (interV (holes D0) x1 P2) (interC (holes D0) x1 P2) _ h0 h2 hs1 hx hxt (fun W E0 A0 B0 A2 B2 hW hE0 hD0 hC0 hB0 hP2 hB2 => ?_) (fun W E0 A0 B0 A2 B2 hW hE0 hD0 hC0 hB0 hP2 hB2 => ?_)
  · have := specInter_any A0 E0.length E0 B0 x1 A2 P2.length P2 B2 W hD0 hP2 hB0 hB2 (by rw [holes_length hE0]; exact hm0) hm2 (holes_each hE0 hl0)
    rwa [hE0] at this
  · have := implInter_any A0 E0.length E0 B0 x1 A2 P2.length P2 B2 W hD0 hP2 hB0 hB2 (by rw [holes_length hE0]; exact hm0) hm2 (holes_each hE0 hl0)
    rwa [hE0] at this

set_option maxRecDepth 100000 in
theorem lifted (os : Os) (started : os.Started) (H : Type) (enc : TypeId × Value → H) :
    ReturnsInHanded {} Try.checked os 7 .any (Rows.fnExactInterspersedGangSpec.pre6 enc Try.prog Try.f7 Rows.fnExactInterspersedGangRow.domain false) (Rows.fnExactInterspersedGangSpec.post enc Try.prog Try.f7 false true false false) := by
  refine returnsInHanded_of_change (C := Try.checked) own started (by kernel_rfl) Try.func7
    (ChangeSpec.witness6 (enc := enc) (C := Try.checked) false ⟨#[], #[.slice none 0 0, .int .i64 0, .slice none 0 0], []⟩ 8 (by kernel_rfl) (by kernel_rfl) (by kernel_rfl) (by kernel_rfl)) ?_
  intro W base args ds gs before hval0 hW _ _
  have hval : ∀ (j : Nat) t v, Try.f7.params[j]? = some t → args[j]? = some v → Value.okWide Try.prog W .any base t v := hval0
  have hW' := hW
  obtain ⟨p, q, hA0, hV, rfl, _, _⟩ := hW
  have hA : DataW.TrodAll enc Try.prog W 0 (fun _ => true) true Try.f7.params.toList args.toList ds p := hA0
  rw [Try.params7] at hA hval
  obtain ⟨v0, vs0, d0, ds0, p0, q0, hargs, rfl, rfl, h0, r0⟩ := trodAll_cons hA
  obtain ⟨v1, vs1, d1, ds1, p1, q1, rfl, rfl, rfl, h1, r1⟩ := trodAll_cons r0
  obtain ⟨v2, vs2, d2, ds2, p2, q2, rfl, rfl, rfl, h2, r2⟩ := trodAll_cons r1
  obtain ⟨rfl, rfl, rfl⟩ := trodAll_nil r2
  obtain rfl : args = #[v0, v1, v2] := by cases args; simp_all
  obtain ⟨rfl, rfl⟩ := trodVars_none hV
  obtain ⟨A0, c0, D0, rfl, i0, l0⟩ := open_deck (hval 0 41 v0 rfl rfl) h0
  obtain ⟨a1, rfl, rfl, rfl, w1⟩ := open_int Try.underlying2 (hval 1 2 v1 rfl rfl) h1
  obtain ⟨A2, c2, P2, rfl, i2, l2, z2⟩ := open_copies (hval 2 22 v2 rfl rfl) h2
  refine (walk A0 c0 D0 i0 l0 a1 w1 A2 c2 P2 i2 l2 z2 W rfl rfl).mono fun e W' ⟨he, hb⟩ => ?_
  subst he
  refine ⟨_, rfl, law_post hW' rfl rfl ?_ rfl rfl rfl hb⟩
  intro t ht
  rw [Try.params7] at ht
  have ht' : t = 41 ∨ t = 2 ∨ t = 22 := by simpa using ht
  rcases ht' with rfl | rfl | rfl <;> exact ⟨by kernel_rfl, of_decide_eq_true (by kernel_rfl)⟩

theorem over : Rows.fnExactInterspersedGangRow.holds Try.pinned (OpenSpec.ofChange Rows.fnExactInterspersedGangSpec) :=
  OpenClaim.holds_of_wide 7 Try.f7 rfl rfl rfl rfl rfl rfl rfl ⟨rfl, rfl, rfl, rfl, rfl⟩ rfl rfl rfl rfl rfl (by kernel_rfl) Try.func7 (by kernel_rfl)
    (of_decide_eq_true (by kernel_rfl)) (by unfold Func.isWrapper; first | (rw [if_pos (by decide +kernel)]; kernel_rfl) | (rw [if_neg (by decide +kernel)]; exact ⟨rfl, rfl⟩))
    (fun os started H enc _ => lifted os started H enc)

theorem proved : Rows.FnExactInterspersedGangSaid :=
  over
end Go.Proofs.Ytamookdlbmbncaa.fnExactInterspersedGang
