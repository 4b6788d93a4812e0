/- For every card, list of cards and list of copies, the law FnExactGangPunch returns true: impl.GangPunch answers as spec.GangPunch, in memory of its own, and leaves its arguments as it was. Conditions: none. -/
import Derived.Test.YtamookdlbmbncaaGangS
import Derived.Test.YtamookdlbmbncaaLaw
import Derived.Test.YtamookdlbmbncaaBoxed
import Derived.Test.YtamookdlbmbncaaCardAt
import Derived.Deep.RegionHeld3
import Derived.Deep.DeepCutAuto
import Derived.Laws.NewDeep
import Derived.Test.YtamookdlbmbncaaLawDeck
import Derived.Test.YtamookdlbmbncaaDeckMem
import Derived.Test.YtamookdlbmbncaaCopyMem
namespace Go.Proofs.Ytamookdlbmbncaa.fnExactGangPunch
open Go.ChangeShapes Go.WideShapes Go.ChangeAt Go.RowKit

theorem walk_big0 (A0 : Option Addr) (c0 : Nat) (X0 : List Int) (A1 : Option Addr) (c1 : Nat) (D1 : List CardV) (A2 : Option Addr) (c2 : Nat) (P2 : List (Int × Int)) (w : World) (h0 : Ints w w.heap.size A0 X0) (l0 : X0.length ≤ 9223372036854775807)  (hbig : 1048576 < (X0.length : Int)) :
    Calls Try.prog 6 #[.agg #[.slice A0 X0.length c0], .slice A1 D1.length c1, .slice A2 P2.length c2] w fun e w' => e = .returned (.bool true) ∧ Below w.heap.size w w' := by
  have z0 := fun (W : World) (_ : Below w.heap.size w W) => szCard_any A0 X0.length c0 (1048576) W (by omega) (by omega) (by omega)
  have e0 : (if (1048576) < (X0.length : Int) then (-1 : Int) else 1048576 - X0.length) = -1 := if_pos (by omega)
  simp only [e0] at z0
  clear e0
  obtain ⟨n0, hn0⟩ : ∃ n, X0.length = n := ⟨_, rfl⟩
  rw [hn0] at hbig
  simp only [hn0] at z0 ⊢
  have Z0 := Lib.hid z0
  clear z0 hn0 h0 l0
  go_enter Try.func6, Try.ntmps6
  go_wp2_with fail
  refine (Z0.out _ (below_box w _)).mono ?_
  rintro e w1 ⟨rfl, hb⟩
  have B_1 := Lib.hid (below_step (below_box w _) hb)
  have a0_1 := cell_kept (p := ⟨w.heap.size, 0, none⟩) (v := .slice A0 n0 c0) (by simp [go_sem]) hb
  have S_1 : Hid (w.heap.size + 1 ≤ w1.heap.size) := by show _ ≤ _; have := hb.size; simpa using this
  clear hb
  go_wp2
  go_ret
  exact ⟨rfl, B_1.out⟩

theorem walk_big1 (A0 : Option Addr) (c0 : Nat) (X0 : List Int) (A1 : Option Addr) (c1 : Nat) (D1 : List CardV) (A2 : Option Addr) (c2 : Nat) (P2 : List (Int × Int)) (w : World) (h0 : Ints w w.heap.size A0 X0) (h1 : Deck w w.heap.size A1 D1) (l1 : D1.length ≤ 9223372036854775807 ∧ ∀ d ∈ D1, d.xs.length ≤ 9223372036854775807) (hs : (X0.length : Int) ≤ 1048576) (hbig : 1048576 < (X0.length : Int) + (szTo D1 D1.length : Int)) :
    Calls Try.prog 6 #[.agg #[.slice A0 X0.length c0], .slice A1 D1.length c1, .slice A2 P2.length c2] w fun e w' => e = .returned (.bool true) ∧ Below w.heap.size w w' := by
  have z0 := fun (W : World) (_ : Below w.heap.size w W) => szCard_any A0 X0.length c0 (1048576) W (by omega) (by omega) (by omega)
  have e0 : (if (1048576) < (X0.length : Int) then (-1 : Int) else 1048576 - X0.length) = 1048576 - X0.length := if_neg (by omega)
  simp only [e0] at z0
  clear e0
  have z1 := fun W (hW : Below w.heap.size w W) => szCards_big A1 c1 D1 (1048576 - (X0.length : Int)) w.heap.size W (h1.below hW) hW.size (by omega) (by omega) l1.1 l1.2 (by omega)
  obtain ⟨n0, hn0⟩ : ∃ n, X0.length = n := ⟨_, rfl⟩
  rw [hn0] at hbig hs
  simp only [hn0] at z0 z1 ⊢
  obtain ⟨t1, ht1⟩ : ∃ t, szTo D1 D1.length = t := ⟨_, rfl⟩
  rw [ht1] at hbig
  obtain ⟨n1, hn1⟩ : ∃ n, D1.length = n := ⟨_, rfl⟩
  simp only [hn1] at z1 ⊢
  have Z0 := Lib.hid z0
  have Z1 := Lib.hid z1
  have g0 : ¬ 1048576 - (n0 : Int) < 0 := by omega
  clear z0 z1 hn0 hn1 ht1 h0 h1 l1
  go_enter Try.func6, Try.ntmps6
  go_wp2_with fail
  refine (Z0.out _ (below_box w _)).mono ?_
  rintro e w1 ⟨rfl, hb⟩
  have B_1 := Lib.hid (below_step (below_box w _) hb)
  have a0_1 := cell_kept (p := ⟨w.heap.size, 0, none⟩) (v := .slice A0 n0 c0) (by simp [go_sem]) hb
  have S_1 : Hid (w.heap.size + 1 ≤ w1.heap.size) := by show _ ≤ _; have := hb.size; simpa using this
  clear hb
  go_wp2_with fail
  refine (Z1.out _ B_1.out).mono ?_
  rintro e w2 ⟨rfl, hb⟩
  have B_2 := Lib.hid (below_step B_1.out hb)
  have a0_2 := cell_kept a0_1 hb
  have S_2 : Hid (w1.heap.size ≤ w2.heap.size) := hb.size
  clear hb B_1 a0_1
  go_wp2
  go_ret
  exact ⟨rfl, B_2.out⟩

theorem walk_big2 (A0 : Option Addr) (c0 : Nat) (X0 : List Int) (A1 : Option Addr) (c1 : Nat) (D1 : List CardV) (A2 : Option Addr) (c2 : Nat) (P2 : List (Int × Int)) (w : World) (h0 : Ints w w.heap.size A0 X0) (h1 : Deck w w.heap.size A1 D1) (h2 : Copies w w.heap.size A2 P2) (l2 : P2.length ≤ 9223372036854775807) (hs : (X0.length : Int) + (szTo D1 D1.length : Int) ≤ 1048576) (hbig : 1048576 < (X0.length : Int) + (szTo D1 D1.length : Int) + (P2.length : Int)) :
    Calls Try.prog 6 #[.agg #[.slice A0 X0.length c0], .slice A1 D1.length c1, .slice A2 P2.length c2] w fun e w' => e = .returned (.bool true) ∧ Below w.heap.size w w' := by
  have z0 := fun (W : World) (_ : Below w.heap.size w W) => szCard_any A0 X0.length c0 (1048576) W (by omega) (by omega) (by omega)
  have e0 : (if (1048576) < (X0.length : Int) then (-1 : Int) else 1048576 - X0.length) = 1048576 - X0.length := if_neg (by omega)
  simp only [e0] at z0
  clear e0
  have z1 := fun W (hW : Below w.heap.size w W) => szCards_small A1 c1 D1 (1048576 - (X0.length : Int)) w.heap.size W (h1.below hW) hW.size (by omega) (by omega)
  have z2 := fun (W : World) (_ : Below w.heap.size w W) => szCopies_any A2 P2.length c2 (1048576 - (X0.length : Int) - (szTo D1 D1.length : Int)) W (by omega) (by omega) (by omega)
  have e2 : (if (1048576 - (X0.length : Int) - (szTo D1 D1.length : Int)) < (P2.length : Int) then (-1 : Int) else 1048576 - (X0.length : Int) - (szTo D1 D1.length : Int) - P2.length) = -1 := if_pos (by omega)
  simp only [e2] at z2
  clear e2
  obtain ⟨n0, hn0⟩ : ∃ n, X0.length = n := ⟨_, rfl⟩
  rw [hn0] at hbig hs
  simp only [hn0] at z0 z1 z2 ⊢
  obtain ⟨t1, ht1⟩ : ∃ t, szTo D1 D1.length = t := ⟨_, rfl⟩
  rw [ht1] at hbig hs
  simp only [ht1] at z1 z2
  obtain ⟨n1, hn1⟩ : ∃ n, D1.length = n := ⟨_, rfl⟩
  simp only [hn1] at z1 ⊢
  obtain ⟨n2, hn2⟩ : ∃ n, P2.length = n := ⟨_, rfl⟩
  rw [hn2] at hbig
  simp only [hn2] at z2 ⊢
  have Z0 := Lib.hid z0
  have Z1 := Lib.hid z1
  have Z2 := Lib.hid z2
  have g0 : ¬ 1048576 - (n0 : Int) < 0 := by omega
  have g1 : ¬ 1048576 - (n0 : Int) - (t1 : Int) < 0 := by omega
  clear z0 z1 z2 hn0 hn1 hn2 ht1 h0 h1 h2 l2
  go_enter Try.func6, Try.ntmps6
  go_wp2_with fail
  refine (Z0.out _ (below_box w _)).mono ?_
  rintro e w1 ⟨rfl, hb⟩
  have B_1 := Lib.hid (below_step (below_box w _) hb)
  have a0_1 := cell_kept (p := ⟨w.heap.size, 0, none⟩) (v := .slice A0 n0 c0) (by simp [go_sem]) hb
  have S_1 : Hid (w.heap.size + 1 ≤ w1.heap.size) := by show _ ≤ _; have := hb.size; simpa using this
  clear hb
  go_wp2_with fail
  refine (Z1.out _ B_1.out).mono ?_
  rintro e w2 ⟨rfl, hb⟩
  have B_2 := Lib.hid (below_step B_1.out hb)
  have a0_2 := cell_kept a0_1 hb
  have S_2 : Hid (w1.heap.size ≤ w2.heap.size) := hb.size
  clear hb B_1 a0_1
  go_wp2_with fail
  refine (Z2.out _ B_2.out).mono ?_
  rintro e w3 ⟨rfl, rfl⟩
  go_wp2
  go_ret
  exact ⟨rfl, B_2.out⟩

set_option maxRecDepth 100000 in
set_option maxHeartbeats 8000000 in
theorem walk_small (A0 : Option Addr) (c0 : Nat) (X0 : List Int) (A1 : Option Addr) (c1 : Nat) (D1 : List CardV) (A2 : Option Addr) (c2 : Nat) (P2 : List (Int × Int)) (X : List (List Int)) (v : Int) (w : World) (h0 : Ints w w.heap.size A0 X0) (h1 : Deck w w.heap.size A1 D1) (h2 : Copies w w.heap.size A2 P2) (hs : (X0.length : Int) + (szTo D1 D1.length : Int) + (P2.length : Int) ≤ 1048576) (hx : X.length ≤ 1048576) (hxt : totH X ≤ 1048576)
    (hv : ∀ (W : World) (A0 : Option Addr) (B0 : Nat) (E1 : List CardV) (A1 : Option Addr) (B1 : Nat) (A2 : Option Addr) (B2 : Nat), Below w.heap.size w W → Ints W B0 A0 X0 → B0 ≤ W.heap.size → holes E1 = holes D1 → Deck W B1 A1 E1 → CapsEq E1 → B1 ≤ W.heap.size → Copies W B2 A2 P2 → B2 ≤ W.heap.size → Calls Try.prog 32 #[.agg #[.slice A0 X0.length X0.length], .slice A1 E1.length E1.length, .slice A2 P2.length P2.length] W (GivesDC X v W))
    (hi : ∀ (W : World) (A0 : Option Addr) (B0 : Nat) (E1 : List CardV) (A1 : Option Addr) (B1 : Nat) (A2 : Option Addr) (B2 : Nat), Below w.heap.size w W → Ints W B0 A0 X0 → B0 ≤ W.heap.size → holes E1 = holes D1 → Deck W B1 A1 E1 → CapsEq E1 → B1 ≤ W.heap.size → Copies W B2 A2 P2 → B2 ≤ W.heap.size → Calls Try.prog 33 #[.agg #[.slice A0 X0.length X0.length], .slice A1 E1.length E1.length, .slice A2 P2.length P2.length] W (GivesDC X v W)) :
    Calls Try.prog 6 #[.agg #[.slice A0 X0.length c0], .slice A1 D1.length c1, .slice A2 P2.length c2] w fun e w' => e = .returned (.bool true) ∧ Below w.heap.size w w' := by
  have z0 := fun (W : World) (_ : Below w.heap.size w W) => szCard_any A0 X0.length c0 (1048576) W (by omega) (by omega) (by omega)
  have e0 : (if (1048576) < (X0.length : Int) then (-1 : Int) else 1048576 - X0.length) = 1048576 - X0.length := if_neg (by omega)
  simp only [e0] at z0
  clear e0
  have hm0 : X0.length ≤ 1048576 := by omega
  have t0 := fun W (hW : Below w.heap.size w W) => toCardAt_any A0 c0 X0 w.heap.size W (h0.below hW) hW.size hm0
  have q0 := fun A A' W (hA : Ints W W.heap.size A X0) (hA' : Ints W W.heap.size A' X0) => eqCardAt_any A A' X0.length X0.length X0 W hA hA' hm0
  have r0 := fun A lo hi W (k : Int) (h0 : 0 ≤ k) (h1 : k ≤ 4194304) (hA : IAt W lo hi A X0) => markCardAt_any A X0.length X0 lo hi k W hA h0 h1 hm0
  have z1 := fun W (hW : Below w.heap.size w W) => szCards_small A1 c1 D1 (1048576 - (X0.length : Int)) w.heap.size W (h1.below hW) hW.size (by omega) (by omega)
  have hl1 : ∀ d ∈ D1, d.xs.length ≤ 1048576 := fun d hd => by have := szTo_each D1 d hd; omega
  have hm1 : D1.length ≤ 1048576 := by have := szTo_len D1; omega
  have hu1 : totH (holes D1) ≤ 1048576 := by have := szTo_totH D1; omega
  have t1 := fun W (hW : Below w.heap.size w W) => toCardsAt_any A1 c1 D1 w.heap.size W (h1.below hW) hW.size hm1 hl1
  have q1 : ∀ (W : World) (E F : List CardV) (A A' : Option Addr), holes E = holes D1 → holes F = holes D1 → Deck W W.heap.size A E → Deck W W.heap.size A' F → Calls Try.prog 29 #[.slice A D1.length D1.length, .slice A' D1.length D1.length] W fun e w' => e = .returned (.bool true) ∧ Below W.heap.size W w' := fun W E F A A' hE hF hO hP => by
    have hEn := holes_length hE
    have hFn := holes_length hF
    have := eqCards_any A A' D1.length D1.length E F W.heap.size W.heap.size W hO hP (Nat.le_refl _) (Nat.le_refl _) (by omega) (by omega) (holes_each hE hl1) (holes_each hF hl1)
    rw [hE, hF, hEn, hFn] at this
    simpa using this
  have r1 : ∀ (W : World) (E : List CardV) (A : Option Addr) (lo hi : Nat) (k : Int), holes E = holes D1 → 0 ≤ k → k ≤ 4194304 → DeckAt W lo hi A E → Calls Try.prog 30 #[.slice A D1.length D1.length, .int .i64 k] W fun e w' => e = .returned (.int .i64 (k + totH (holes D1))) ∧ Within lo hi W w' ∧ DeckAt w' lo hi A (markTo E k E.length) := fun W E A lo hi k hE h0 h1 hO => by
    have := markDeck_any A D1.length E (holes D1) lo hi k W hE hO h0 h1 (by rw [holes_len]; exact hm1) hu1
    rw [holes_len] at this
    exact this
  have z2 := fun (W : World) (_ : Below w.heap.size w W) => szCopies_any A2 P2.length c2 (1048576 - (X0.length : Int) - (szTo D1 D1.length : Int)) W (by omega) (by omega) (by omega)
  have e2 : (if (1048576 - (X0.length : Int) - (szTo D1 D1.length : Int)) < (P2.length : Int) then (-1 : Int) else 1048576 - (X0.length : Int) - (szTo D1 D1.length : Int) - P2.length) = 1048576 - (X0.length : Int) - (szTo D1 D1.length : Int) - P2.length := if_neg (by omega)
  simp only [e2] at z2
  clear e2
  have hm2 : P2.length ≤ 1048576 := by omega
  have t2 := fun W (hW : Below w.heap.size w W) => toCopiesAt_any A2 c2 P2 w.heap.size W (h2.below hW) hW.size hm2
  have q2 := fun A A' W (hA : Copies W W.heap.size A P2) (hA' : Copies W W.heap.size A' P2) => eqCopies_same A A' P2.length P2.length P2 W.heap.size W.heap.size W hA hA' (Nat.le_refl _) (Nat.le_refl _) hm2
  have r2 := fun A lo hi W (k : Int) (h0 : 0 ≤ k) (h1 : k ≤ 4194304) (hA : QAt W lo hi A P2) => markCopies_any A P2.length P2 lo hi k W hA h0 h1 hm2
  have xe : ∀ (W : World) (E F : List CardV) (A A' : Option Addr) (c c' : Nat), holes E = X → holes F = X → Deck W W.heap.size A E → Deck W W.heap.size A' F → Calls Try.prog 29 #[.slice A X.length c, .slice A' X.length c'] W fun e w' => e = .returned (.bool true) ∧ Below W.heap.size W w' := fun W E F A A' c c' hE hF hO hP => by
    have hEn : E.length = X.length := by rw [← hE, holes_len]
    have hFn : F.length = X.length := by rw [← hF, holes_len]
    have := eqCards_any A A' c c' E F W.heap.size W.heap.size W hO hP (Nat.le_refl _) (Nat.le_refl _) (by omega) (by omega) (totH_deck hE hxt) (totH_deck hF hxt)
    rw [hE, hF, hEn, hFn] at this
    simpa using this
  have xm := fun A c E lo hi W (hE : holes E = X) (h : DeckAt W lo hi A E) => markDeck_any A c E X lo hi 1 W hE h (by omega) (by omega) hx hxt
  have xh := fun A c E lo hi W (hE : holes E = X) (h : DeckAt W lo hi A (markTo E 1 E.length)) => heldDeck_any A c E X lo hi 1 W hE h (by omega) (by omega) hx hxt
  have gx : ¬ 1 + (totH X : Int) < 0 := by omega
  have cv : ∀ (W : World) (g0 lo0 hi0 : Nat) (E1 : List CardV) (g1 lo1 hi1 : Nat) (g2 lo2 hi2 : Nat), Below w.heap.size w W → IAt W lo0 hi0 (some ⟨g0, 0, none⟩) X0 → holes E1 = holes D1 → CapsEq E1 → DeckAt W lo1 hi1 (some ⟨g1, 0, none⟩) E1 → QAt W lo2 hi2 (some ⟨g2, 0, none⟩) P2 → Calls Try.prog 32 #[.agg #[.slice (some ⟨g0, 0, none⟩) X0.length X0.length], .slice (some ⟨g1, 0, none⟩) D1.length D1.length, .slice (some ⟨g2, 0, none⟩) P2.length P2.length] W (GivesDC X v W) := fun W g0 lo0 hi0 E1 g1 lo1 hi1 g2 lo2 hi2 hW hO0 hE1 hC1 hO1 hO2 => by
    have := hv W (some ⟨g0, 0, none⟩) W.heap.size E1 (some ⟨g1, 0, none⟩) W.heap.size (some ⟨g2, 0, none⟩) W.heap.size hW hO0.ints (Nat.le_refl _) hE1 hO1.deck hC1 (Nat.le_refl _) hO2.copies (Nat.le_refl _)
    rw [holes_length hE1] at this
    exact this
  have ci : ∀ (W : World) (g0 lo0 hi0 : Nat) (E1 : List CardV) (g1 lo1 hi1 : Nat) (g2 lo2 hi2 : Nat), Below w.heap.size w W → IAt W lo0 hi0 (some ⟨g0, 0, none⟩) X0 → holes E1 = holes D1 → CapsEq E1 → DeckAt W lo1 hi1 (some ⟨g1, 0, none⟩) E1 → QAt W lo2 hi2 (some ⟨g2, 0, none⟩) P2 → Calls Try.prog 33 #[.agg #[.slice (some ⟨g0, 0, none⟩) X0.length X0.length], .slice (some ⟨g1, 0, none⟩) D1.length D1.length, .slice (some ⟨g2, 0, none⟩) P2.length P2.length] W (GivesDC X v W) := fun W g0 lo0 hi0 E1 g1 lo1 hi1 g2 lo2 hi2 hW hO0 hE1 hC1 hO1 hO2 => by
    have := hi W (some ⟨g0, 0, none⟩) W.heap.size E1 (some ⟨g1, 0, none⟩) W.heap.size (some ⟨g2, 0, none⟩) W.heap.size hW hO0.ints (Nat.le_refl _) hE1 hO1.deck hC1 (Nat.le_refl _) hO2.copies (Nat.le_refl _)
    rw [holes_length hE1] at this
    exact this
  obtain ⟨n0, hn0⟩ : ∃ n, X0.length = n := ⟨_, rfl⟩
  simp only [hn0] at z0 z1 z2 t0 q0 r0 cv ci hs ⊢
  have gn1 : totH (holes D1) = 0 ∨ 0 < szTo D1 D1.length := by have := szTo_totH D1; omega
  have gt1 := szTo_totH D1
  obtain ⟨s1, hs1⟩ : ∃ s, szTo D1 D1.length = s := ⟨_, rfl⟩
  simp only [hs1] at hs gn1 gt1 z1 z2
  obtain ⟨n1, hn1⟩ : ∃ n, D1.length = n := ⟨_, rfl⟩
  simp only [hn1] at z1 gt1 t1 q1 r1 cv ci ⊢
  obtain ⟨u1, hU1⟩ : ∃ u, totH (holes D1) = u := ⟨_, rfl⟩
  simp only [hU1] at r1 gn1 gt1
  obtain ⟨n2, hn2⟩ : ∃ n, P2.length = n := ⟨_, rfl⟩
  simp only [hn2] at z2 t2 q2 r2 cv ci hs ⊢
  have Z0 := Lib.hid z0
  have T0 := Lib.hid t0
  have Q0 := Lib.hid q0
  have R0 := Lib.hid r0
  have Z1 := Lib.hid z1
  have T1 := Lib.hid t1
  have Q1 := Lib.hid q1
  have R1 := Lib.hid r1
  have Z2 := Lib.hid z2
  have T2 := Lib.hid t2
  have Q2 := Lib.hid q2
  have R2 := Lib.hid r2
  have XE := Lib.hid xe
  have XM := Lib.hid xm
  have XH := Lib.hid xh
  have CV := Lib.hid cv
  have CI := Lib.hid ci
  have g0 : ¬ 1048576 - (n0 : Int) < 0 := by omega
  have g1 : ¬ 1048576 - (n0 : Int) - (s1 : Int) < 0 := by omega
  have g2 : ¬ 1048576 - (n0 : Int) - (s1 : Int) - (n2 : Int) < 0 := by omega
  have kb0 : 0 ≤ (1 : Int) ∧ (1 : Int) ≤ 4194304 := by omega
  have kb1 : 0 ≤ 1 + (n0 : Int) ∧ 1 + (n0 : Int) ≤ 4194304 := by omega
  have kb2 : 0 ≤ 1 + (n0 : Int) + (u1 : Int) ∧ 1 + (n0 : Int) + (u1 : Int) ≤ 4194304 := by omega
  have gk : ¬ 1 + (n0 : Int) + (u1 : Int) + 2 * (n2 : Int) < 0 := by omega
  clear cv ci hv hi xe xm xh z0 t0 q0 r0 hn0 h0 hm0 z1 t1 q1 r1 hn1 h1 hm1 hs1 hl1 hu1 hU1 gn1 gt1 z2 t2 q2 r2 hn2 h2 hm2
  go_enter Try.func6, Try.ntmps6
  go_wp2_with fail
  refine (Z0.out _ (below_box w _)).mono ?_
  rintro e w1 ⟨rfl, hb⟩
  have B_1 := Lib.hid (below_step (below_box w _) hb)
  have a0_1 := cell_kept (p := ⟨w.heap.size, 0, none⟩) (v := .slice A0 n0 c0) (by simp [go_sem]) hb
  have S_1 : Hid (w.heap.size + 1 ≤ w1.heap.size) := by show _ ≤ _; have := hb.size; simpa using this
  clear hb
  go_wp2_with fail
  refine (Z1.out _ B_1.out).mono ?_
  rintro e w2 ⟨rfl, hb⟩
  have B_2 := Lib.hid (below_step B_1.out hb)
  have a0_2 := cell_kept a0_1 hb
  have S_2 : Hid (w1.heap.size ≤ w2.heap.size) := hb.size
  clear hb B_1 a0_1
  go_wp2_with fail
  refine (Z2.out _ B_2.out).mono ?_
  rintro e w3 ⟨rfl, rfl⟩
  go_wp2_with fail
  refine (T0.out _ B_2.out).mono ?_
  rintro e w3 ⟨gw0, rfl, hb, ho⟩
  have B_3 := Lib.hid (below_step B_2.out hb)
  have a0_3 := cell_kept a0_2 hb
  have S_3 : Hid (w2.heap.size ≤ w3.heap.size) := hb.size
  have w0_3 := Lib.hid ho
  clear hb ho B_2 a0_2
  go_wp2_with fail
  refine (T1.out _ B_3.out).mono ?_
  rintro e w4 ⟨gw1, Ew1, hE, rfl, hb, ho, hC⟩
  have B_4 := Lib.hid (below_step B_3.out hb)
  have a0_4 := cell_kept a0_3 hb
  have w0_4 := Lib.hid (w0_3.out.later hb)
  have S_4 : Hid (w3.heap.size ≤ w4.heap.size) := hb.size
  have w1_4 := Lib.hid ho
  clear hb ho B_3 a0_3 w0_3
  have XE_w1 := Lib.hid hE
  have XC_w1 := Lib.hid hC
  clear hE hC
  go_wp2_with fail
  refine (T2.out _ B_4.out).mono ?_
  rintro e w5 ⟨gw2, rfl, hb, ho⟩
  have B_5 := Lib.hid (below_step B_4.out hb)
  have a0_5 := cell_kept a0_4 hb
  have w0_5 := Lib.hid (w0_4.out.later hb)
  have w1_5 := Lib.hid (w1_4.out.later hb)
  have S_5 : Hid (w4.heap.size ≤ w5.heap.size) := hb.size
  have w2_5 := Lib.hid ho
  clear hb ho B_4 a0_4 w0_4 w1_4
  go_wp2_with fail
  refine (CV.out _ _ _ _ Ew1 _ _ _ _ _ _ B_5.out w0_5.out XE_w1.out XC_w1.out w1_5.out w2_5.out).mono ?_
  rintro e w6 ⟨AW, cW, EW, rfl, hE, hb, ho⟩
  have B_6 := Lib.hid (below_step B_5.out hb)
  have a0_6 := cell_kept a0_5 hb
  have w0_6 := Lib.hid (w0_5.out.later hb)
  have w1_6 := Lib.hid (w1_5.out.later hb)
  have w2_6 := Lib.hid (w2_5.out.later hb)
  have S_6 : Hid (w5.heap.size ≤ w6.heap.size) := hb.size
  have W_6 := Lib.hid ho
  clear hb ho B_5 a0_5 w0_5 w1_5 w2_5
  have XE_W := Lib.hid hE
  clear hE
  clear w0_6
  clear w1_6
  clear w2_6
  go_wp2_with fail
  refine (T0.out _ B_6.out).mono ?_
  rintro e w7 ⟨gx0, rfl, hb, ho⟩
  have B_7 := Lib.hid (below_step B_6.out hb)
  have a0_7 := cell_kept a0_6 hb
  have W_7 := Lib.hid (W_6.out.later hb)
  have S_7 : Hid (w6.heap.size ≤ w7.heap.size) := hb.size
  have x0_7 := Lib.hid ho
  clear hb ho B_6 a0_6 W_6
  have hb := below_box w7 (.cells #[.slice (some ⟨gx0, 0, none⟩) n0 n0] 33)
  have hc := new_cell w7 (.slice (some ⟨gx0, 0, none⟩) n0 n0) 33
  obtain ⟨w8, hW8⟩ : ∃ W, w7.alloc (.cells #[.slice (some ⟨gx0, 0, none⟩) n0 n0] 33) = W := ⟨_, rfl⟩
  rw [hW8] at hb hc
  have B_8 := Lib.hid (below_step B_7.out hb)
  have a0_8 := cell_kept a0_7 hb
  have W_8 := Lib.hid (W_7.out.later hb)
  have x0_8 := Lib.hid (x0_7.out.later hb)
  have S_8 : Hid (w7.heap.size ≤ w8.heap.size) := hb.size
  have bx0_8 := hc
  clear hb hc B_7 a0_7 W_7 x0_7
  have Z_bx0 : Hid (w7.heap.size < w8.heap.size) := by show _ < _; rw [← hW8, World.size_alloc]; omega
  go_wp2_with fail
  refine (T1.out _ B_8.out).mono ?_
  rintro e w9 ⟨gx1, Ex1, hE, rfl, hb, ho, hC⟩
  have B_9 := Lib.hid (below_step B_8.out hb)
  have a0_9 := cell_kept a0_8 hb
  have bx0_9 := cell_kept bx0_8 hb
  have W_9 := Lib.hid (W_8.out.later hb)
  have x0_9 := Lib.hid (x0_8.out.later hb)
  have S_9 : Hid (w8.heap.size ≤ w9.heap.size) := hb.size
  have x1_9 := Lib.hid ho
  clear hb ho B_8 a0_8 bx0_8 W_8 x0_8
  have XE_x1 := Lib.hid hE
  have XC_x1 := Lib.hid hC
  clear hE hC
  go_wp2_with fail
  refine (T2.out _ B_9.out).mono ?_
  rintro e w10 ⟨gx2, rfl, hb, ho⟩
  have B_10 := Lib.hid (below_step B_9.out hb)
  have a0_10 := cell_kept a0_9 hb
  have bx0_10 := cell_kept bx0_9 hb
  have W_10 := Lib.hid (W_9.out.later hb)
  have x0_10 := Lib.hid (x0_9.out.later hb)
  have x1_10 := Lib.hid (x1_9.out.later hb)
  have S_10 : Hid (w9.heap.size ≤ w10.heap.size) := hb.size
  have x2_10 := Lib.hid ho
  clear hb ho B_9 a0_9 bx0_9 W_9 x0_9 x1_9
  go_wp2_with fail
  refine (CI.out _ _ _ _ Ex1 _ _ _ _ _ _ B_10.out x0_10.out XE_x1.out XC_x1.out x1_10.out x2_10.out).mono ?_
  rintro e w11 ⟨AG, cG, EG, rfl, hE, hb, ho⟩
  have B_11 := Lib.hid (below_step B_10.out hb)
  have a0_11 := cell_kept a0_10 hb
  have bx0_11 := cell_kept bx0_10 hb
  have W_11 := Lib.hid (W_10.out.later hb)
  have x0_11 := Lib.hid (x0_10.out.later hb)
  have x1_11 := Lib.hid (x1_10.out.later hb)
  have x2_11 := Lib.hid (x2_10.out.later hb)
  have S_11 : Hid (w10.heap.size ≤ w11.heap.size) := hb.size
  have G_11 := Lib.hid ho
  clear hb ho B_10 a0_10 bx0_10 W_10 x0_10 x1_10 x2_10
  have XE_G := Lib.hid hE
  clear hE
  go_wp2_with fail
  refine (XE.out _ EG EW _ _ _ _ XE_G.out XE_W.out G_11.out.deck W_11.out.deck).mono ?_
  rintro e w12 ⟨rfl, hb⟩
  have B_12 := Lib.hid (below_step B_11.out hb)
  have a0_12 := cell_kept a0_11 hb
  have bx0_12 := cell_kept bx0_11 hb
  have W_12 := Lib.hid (W_11.out.later hb)
  have x0_12 := Lib.hid (x0_11.out.later hb)
  have x1_12 := Lib.hid (x1_11.out.later hb)
  have x2_12 := Lib.hid (x2_11.out.later hb)
  have G_12 := Lib.hid (G_11.out.later hb)
  have S_12 : Hid (w11.heap.size ≤ w12.heap.size) := hb.size
  clear hb B_11 a0_11 bx0_11 W_11 x0_11 x1_11 x2_11 G_11
  go_wp2
  go_region_held3 (fun W => W.cell? ⟨w7.heap.size, 0, none⟩ = some (.slice (some ⟨gx0, 0, none⟩) n0 n0) ∧ W.cell? ⟨w.heap.size, 0, none⟩ = some (.slice A0 n0 c0))
    (first | exact ⟨bx0_12, a0_12⟩ | exact ⟨bx0_13, a0_13⟩ | exact ⟨bx0_14, a0_14⟩)
    (first
      | (go_at_call 19
         refine (T0.out _ B_12.out.drew).mono ?_
         rintro e w13 ⟨gz0, rfl, hb, ho⟩
         have B_13 := Lib.hid (below_step B_12.out.drew hb)
         have a0_13 := cell_kept (w := w12.drew) a0_12 hb
         have bx0_13 := cell_kept (w := w12.drew) bx0_12 hb
         have W_13 := Lib.hid (W_12.out.drew.later hb)
         have x0_13 := Lib.hid (x0_12.out.drew.later hb)
         have x1_13 := Lib.hid (x1_12.out.drew.later hb)
         have x2_13 := Lib.hid (x2_12.out.drew.later hb)
         have G_13 := Lib.hid (G_12.out.drew.later hb)
         have S_13 : Hid (w12.heap.size ≤ w13.heap.size) := hb.size
         have z0_13 := Lib.hid ho
         clear hb ho)
      | (go_at_call 21
         refine (Q0.out _ _ _ x0_13.out.ints z0_13.out.ints).mono ?_
         rintro e w14 ⟨rfl, hb⟩
         have B_14 := Lib.hid (below_step B_13.out hb)
         have a0_14 := cell_kept a0_13 hb
         have bx0_14 := cell_kept bx0_13 hb
         have W_14 := Lib.hid (W_13.out.later hb)
         have x0_14 := Lib.hid (x0_13.out.later hb)
         have x1_14 := Lib.hid (x1_13.out.later hb)
         have x2_14 := Lib.hid (x2_13.out.later hb)
         have G_14 := Lib.hid (G_13.out.later hb)
         have z0_14 := Lib.hid (z0_13.out.later hb)
         have S_14 : Hid (w13.heap.size ≤ w14.heap.size) := hb.size
         clear hb))
  clear B_12 a0_12 bx0_12 W_12 x0_12 x1_12 x2_12 G_12 B_13 a0_13 bx0_13 W_13 x0_13 x1_13 x2_13 G_13 z0_13
  clear z0_14
  go_wp2_with fail
  refine (T1.out _ B_14.out).mono ?_
  rintro e w15 ⟨gz1, Ez1, hE, rfl, hb, ho, hC⟩
  have B_15 := Lib.hid (below_step B_14.out hb)
  have a0_15 := cell_kept a0_14 hb
  have bx0_15 := cell_kept bx0_14 hb
  have W_15 := Lib.hid (W_14.out.later hb)
  have x0_15 := Lib.hid (x0_14.out.later hb)
  have x1_15 := Lib.hid (x1_14.out.later hb)
  have x2_15 := Lib.hid (x2_14.out.later hb)
  have G_15 := Lib.hid (G_14.out.later hb)
  have S_15 : Hid (w14.heap.size ≤ w15.heap.size) := hb.size
  have z1_15 := Lib.hid ho
  clear hb ho B_14 a0_14 bx0_14 W_14 x0_14 x1_14 x2_14 G_14
  have XE_z1 := Lib.hid hE
  clear hE hC
  go_wp2_with fail
  refine (Q1.out _ Ex1 Ez1 _ _ XE_x1.out XE_z1.out x1_15.out.deck z1_15.out.deck).mono ?_
  rintro e w16 ⟨rfl, hb⟩
  have B_16 := Lib.hid (below_step B_15.out hb)
  have a0_16 := cell_kept a0_15 hb
  have bx0_16 := cell_kept bx0_15 hb
  have W_16 := Lib.hid (W_15.out.later hb)
  have x0_16 := Lib.hid (x0_15.out.later hb)
  have x1_16 := Lib.hid (x1_15.out.later hb)
  have x2_16 := Lib.hid (x2_15.out.later hb)
  have G_16 := Lib.hid (G_15.out.later hb)
  have z1_16 := Lib.hid (z1_15.out.later hb)
  have S_16 : Hid (w15.heap.size ≤ w16.heap.size) := hb.size
  clear hb B_15 a0_15 bx0_15 W_15 x0_15 x1_15 x2_15 G_15 z1_15
  clear z1_16
  go_wp2_with fail
  refine (T2.out _ B_16.out).mono ?_
  rintro e w17 ⟨gz2, rfl, hb, ho⟩
  have B_17 := Lib.hid (below_step B_16.out hb)
  have a0_17 := cell_kept a0_16 hb
  have bx0_17 := cell_kept bx0_16 hb
  have W_17 := Lib.hid (W_16.out.later hb)
  have x0_17 := Lib.hid (x0_16.out.later hb)
  have x1_17 := Lib.hid (x1_16.out.later hb)
  have x2_17 := Lib.hid (x2_16.out.later hb)
  have G_17 := Lib.hid (G_16.out.later hb)
  have S_17 : Hid (w16.heap.size ≤ w17.heap.size) := hb.size
  have z2_17 := Lib.hid ho
  clear hb ho B_16 a0_16 bx0_16 W_16 x0_16 x1_16 x2_16 G_16
  go_wp2_with fail
  refine (Q2.out _ _ _ x2_17.out.copies z2_17.out.copies).mono ?_
  rintro e w18 ⟨rfl, hb⟩
  have B_18 := Lib.hid (below_step B_17.out hb)
  have a0_18 := cell_kept a0_17 hb
  have bx0_18 := cell_kept bx0_17 hb
  have W_18 := Lib.hid (W_17.out.later hb)
  have x0_18 := Lib.hid (x0_17.out.later hb)
  have x1_18 := Lib.hid (x1_17.out.later hb)
  have x2_18 := Lib.hid (x2_17.out.later hb)
  have G_18 := Lib.hid (G_17.out.later hb)
  have z2_18 := Lib.hid (z2_17.out.later hb)
  have S_18 : Hid (w17.heap.size ≤ w18.heap.size) := hb.size
  clear hb B_17 a0_17 bx0_17 W_17 x0_17 x1_17 x2_17 G_17 z2_17
  clear z2_18
  go_wp2_with fail
  refine (R0.out _ _ _ _ _ kb0.1 kb0.2 x0_18.out).mono ?_
  rintro e w19 ⟨rfl, hw, hrow⟩
  have B_19 := Lib.hid (below_within B_18.out hw (by have z1 := S_1.out; have z2 := S_2.out; have z3 := S_3.out; have z4 := S_4.out; have z5 := S_5.out; have z6 := S_6.out; have z7 := S_7.out; have z8 := S_8.out; have z9 := S_9.out; have z10 := S_10.out; have z11 := S_11.out; have z12 := S_12.out; have z13 := S_13.out; have z14 := S_14.out; have z15 := S_15.out; have z16 := S_16.out; have z17 := S_17.out; have z18 := S_18.out; omega))
  have a0_19 := hw.cell a0_18 (by show w.heap.size < _ ∨ _ ≤ w.heap.size; have z1 := S_1.out; have z2 := S_2.out; have z3 := S_3.out; have z4 := S_4.out; have z5 := S_5.out; have z6 := S_6.out; have z7 := S_7.out; have z8 := S_8.out; have z9 := S_9.out; have z10 := S_10.out; have z11 := S_11.out; have z12 := S_12.out; have z13 := S_13.out; have z14 := S_14.out; have z15 := S_15.out; have z16 := S_16.out; have z17 := S_17.out; have z18 := S_18.out; omega)
  have bx0_19 := hw.cell bx0_18 (by show w7.heap.size < _ ∨ _ ≤ w7.heap.size; have zz := Z_bx0.out; have z1 := S_1.out; have z2 := S_2.out; have z3 := S_3.out; have z4 := S_4.out; have z5 := S_5.out; have z6 := S_6.out; have z7 := S_7.out; have z8 := S_8.out; have z9 := S_9.out; have z10 := S_10.out; have z11 := S_11.out; have z12 := S_12.out; have z13 := S_13.out; have z14 := S_14.out; have z15 := S_15.out; have z16 := S_16.out; have z17 := S_17.out; have z18 := S_18.out; omega)
  have W_19 := Lib.hid (W_18.out.within hw (Or.inl (by have z1 := S_1.out; have z2 := S_2.out; have z3 := S_3.out; have z4 := S_4.out; have z5 := S_5.out; have z6 := S_6.out; have z7 := S_7.out; have z8 := S_8.out; have z9 := S_9.out; have z10 := S_10.out; have z11 := S_11.out; have z12 := S_12.out; have z13 := S_13.out; have z14 := S_14.out; have z15 := S_15.out; have z16 := S_16.out; have z17 := S_17.out; have z18 := S_18.out; omega)))
  have x0_19 := Lib.hid hrow
  have x1_19 := Lib.hid (x1_18.out.within hw (Or.inr (by have z1 := S_1.out; have z2 := S_2.out; have z3 := S_3.out; have z4 := S_4.out; have z5 := S_5.out; have z6 := S_6.out; have z7 := S_7.out; have z8 := S_8.out; have z9 := S_9.out; have z10 := S_10.out; have z11 := S_11.out; have z12 := S_12.out; have z13 := S_13.out; have z14 := S_14.out; have z15 := S_15.out; have z16 := S_16.out; have z17 := S_17.out; have z18 := S_18.out; omega)))
  have x2_19 := Lib.hid (x2_18.out.within hw (Or.inr (by have z1 := S_1.out; have z2 := S_2.out; have z3 := S_3.out; have z4 := S_4.out; have z5 := S_5.out; have z6 := S_6.out; have z7 := S_7.out; have z8 := S_8.out; have z9 := S_9.out; have z10 := S_10.out; have z11 := S_11.out; have z12 := S_12.out; have z13 := S_13.out; have z14 := S_14.out; have z15 := S_15.out; have z16 := S_16.out; have z17 := S_17.out; have z18 := S_18.out; omega)))
  have G_19 := Lib.hid (G_18.out.within hw (Or.inr (by have z1 := S_1.out; have z2 := S_2.out; have z3 := S_3.out; have z4 := S_4.out; have z5 := S_5.out; have z6 := S_6.out; have z7 := S_7.out; have z8 := S_8.out; have z9 := S_9.out; have z10 := S_10.out; have z11 := S_11.out; have z12 := S_12.out; have z13 := S_13.out; have z14 := S_14.out; have z15 := S_15.out; have z16 := S_16.out; have z17 := S_17.out; have z18 := S_18.out; omega)))
  have S_19 : Hid (w18.heap.size ≤ w19.heap.size) := hw.size
  clear hw hrow B_18 a0_18 bx0_18 W_18 x0_18 x1_18 x2_18 G_18
  go_wp2_with fail
  refine (R1.out _ Ex1 _ _ _ _ XE_x1.out kb1.1 kb1.2 x1_19.out).mono ?_
  rintro e w20 ⟨rfl, hw, hrow⟩
  have B_20 := Lib.hid (below_within B_19.out hw (by have z1 := S_1.out; have z2 := S_2.out; have z3 := S_3.out; have z4 := S_4.out; have z5 := S_5.out; have z6 := S_6.out; have z7 := S_7.out; have z8 := S_8.out; have z9 := S_9.out; have z10 := S_10.out; have z11 := S_11.out; have z12 := S_12.out; have z13 := S_13.out; have z14 := S_14.out; have z15 := S_15.out; have z16 := S_16.out; have z17 := S_17.out; have z18 := S_18.out; have z19 := S_19.out; omega))
  have a0_20 := hw.cell a0_19 (by show w.heap.size < _ ∨ _ ≤ w.heap.size; have z1 := S_1.out; have z2 := S_2.out; have z3 := S_3.out; have z4 := S_4.out; have z5 := S_5.out; have z6 := S_6.out; have z7 := S_7.out; have z8 := S_8.out; have z9 := S_9.out; have z10 := S_10.out; have z11 := S_11.out; have z12 := S_12.out; have z13 := S_13.out; have z14 := S_14.out; have z15 := S_15.out; have z16 := S_16.out; have z17 := S_17.out; have z18 := S_18.out; have z19 := S_19.out; omega)
  have bx0_20 := hw.cell bx0_19 (by show w7.heap.size < _ ∨ _ ≤ w7.heap.size; have zz := Z_bx0.out; have z1 := S_1.out; have z2 := S_2.out; have z3 := S_3.out; have z4 := S_4.out; have z5 := S_5.out; have z6 := S_6.out; have z7 := S_7.out; have z8 := S_8.out; have z9 := S_9.out; have z10 := S_10.out; have z11 := S_11.out; have z12 := S_12.out; have z13 := S_13.out; have z14 := S_14.out; have z15 := S_15.out; have z16 := S_16.out; have z17 := S_17.out; have z18 := S_18.out; have z19 := S_19.out; omega)
  have W_20 := Lib.hid (W_19.out.within hw (Or.inl (by have z1 := S_1.out; have z2 := S_2.out; have z3 := S_3.out; have z4 := S_4.out; have z5 := S_5.out; have z6 := S_6.out; have z7 := S_7.out; have z8 := S_8.out; have z9 := S_9.out; have z10 := S_10.out; have z11 := S_11.out; have z12 := S_12.out; have z13 := S_13.out; have z14 := S_14.out; have z15 := S_15.out; have z16 := S_16.out; have z17 := S_17.out; have z18 := S_18.out; have z19 := S_19.out; omega)))
  have x0_20 := Lib.hid (x0_19.out.within hw (Or.inl (by have z1 := S_1.out; have z2 := S_2.out; have z3 := S_3.out; have z4 := S_4.out; have z5 := S_5.out; have z6 := S_6.out; have z7 := S_7.out; have z8 := S_8.out; have z9 := S_9.out; have z10 := S_10.out; have z11 := S_11.out; have z12 := S_12.out; have z13 := S_13.out; have z14 := S_14.out; have z15 := S_15.out; have z16 := S_16.out; have z17 := S_17.out; have z18 := S_18.out; have z19 := S_19.out; omega)))
  have x1_20 := Lib.hid hrow
  have x2_20 := Lib.hid (x2_19.out.within hw (Or.inr (by have z1 := S_1.out; have z2 := S_2.out; have z3 := S_3.out; have z4 := S_4.out; have z5 := S_5.out; have z6 := S_6.out; have z7 := S_7.out; have z8 := S_8.out; have z9 := S_9.out; have z10 := S_10.out; have z11 := S_11.out; have z12 := S_12.out; have z13 := S_13.out; have z14 := S_14.out; have z15 := S_15.out; have z16 := S_16.out; have z17 := S_17.out; have z18 := S_18.out; have z19 := S_19.out; omega)))
  have G_20 := Lib.hid (G_19.out.within hw (Or.inr (by have z1 := S_1.out; have z2 := S_2.out; have z3 := S_3.out; have z4 := S_4.out; have z5 := S_5.out; have z6 := S_6.out; have z7 := S_7.out; have z8 := S_8.out; have z9 := S_9.out; have z10 := S_10.out; have z11 := S_11.out; have z12 := S_12.out; have z13 := S_13.out; have z14 := S_14.out; have z15 := S_15.out; have z16 := S_16.out; have z17 := S_17.out; have z18 := S_18.out; have z19 := S_19.out; omega)))
  have S_20 : Hid (w19.heap.size ≤ w20.heap.size) := hw.size
  clear hw hrow B_19 a0_19 bx0_19 W_19 x0_19 x1_19 x2_19 G_19
  go_wp2_with fail
  refine (R2.out _ _ _ _ _ kb2.1 kb2.2 x2_20.out).mono ?_
  rintro e w21 ⟨rfl, hw, hrow⟩
  have B_21 := Lib.hid (below_within B_20.out hw (by have z1 := S_1.out; have z2 := S_2.out; have z3 := S_3.out; have z4 := S_4.out; have z5 := S_5.out; have z6 := S_6.out; have z7 := S_7.out; have z8 := S_8.out; have z9 := S_9.out; have z10 := S_10.out; have z11 := S_11.out; have z12 := S_12.out; have z13 := S_13.out; have z14 := S_14.out; have z15 := S_15.out; have z16 := S_16.out; have z17 := S_17.out; have z18 := S_18.out; have z19 := S_19.out; have z20 := S_20.out; omega))
  have a0_21 := hw.cell a0_20 (by show w.heap.size < _ ∨ _ ≤ w.heap.size; have z1 := S_1.out; have z2 := S_2.out; have z3 := S_3.out; have z4 := S_4.out; have z5 := S_5.out; have z6 := S_6.out; have z7 := S_7.out; have z8 := S_8.out; have z9 := S_9.out; have z10 := S_10.out; have z11 := S_11.out; have z12 := S_12.out; have z13 := S_13.out; have z14 := S_14.out; have z15 := S_15.out; have z16 := S_16.out; have z17 := S_17.out; have z18 := S_18.out; have z19 := S_19.out; have z20 := S_20.out; omega)
  have bx0_21 := hw.cell bx0_20 (by show w7.heap.size < _ ∨ _ ≤ w7.heap.size; have zz := Z_bx0.out; have z1 := S_1.out; have z2 := S_2.out; have z3 := S_3.out; have z4 := S_4.out; have z5 := S_5.out; have z6 := S_6.out; have z7 := S_7.out; have z8 := S_8.out; have z9 := S_9.out; have z10 := S_10.out; have z11 := S_11.out; have z12 := S_12.out; have z13 := S_13.out; have z14 := S_14.out; have z15 := S_15.out; have z16 := S_16.out; have z17 := S_17.out; have z18 := S_18.out; have z19 := S_19.out; have z20 := S_20.out; omega)
  have W_21 := Lib.hid (W_20.out.within hw (Or.inl (by have z1 := S_1.out; have z2 := S_2.out; have z3 := S_3.out; have z4 := S_4.out; have z5 := S_5.out; have z6 := S_6.out; have z7 := S_7.out; have z8 := S_8.out; have z9 := S_9.out; have z10 := S_10.out; have z11 := S_11.out; have z12 := S_12.out; have z13 := S_13.out; have z14 := S_14.out; have z15 := S_15.out; have z16 := S_16.out; have z17 := S_17.out; have z18 := S_18.out; have z19 := S_19.out; have z20 := S_20.out; omega)))
  have x0_21 := Lib.hid (x0_20.out.within hw (Or.inl (by have z1 := S_1.out; have z2 := S_2.out; have z3 := S_3.out; have z4 := S_4.out; have z5 := S_5.out; have z6 := S_6.out; have z7 := S_7.out; have z8 := S_8.out; have z9 := S_9.out; have z10 := S_10.out; have z11 := S_11.out; have z12 := S_12.out; have z13 := S_13.out; have z14 := S_14.out; have z15 := S_15.out; have z16 := S_16.out; have z17 := S_17.out; have z18 := S_18.out; have z19 := S_19.out; have z20 := S_20.out; omega)))
  have x1_21 := Lib.hid (x1_20.out.within hw (Or.inl (by have z1 := S_1.out; have z2 := S_2.out; have z3 := S_3.out; have z4 := S_4.out; have z5 := S_5.out; have z6 := S_6.out; have z7 := S_7.out; have z8 := S_8.out; have z9 := S_9.out; have z10 := S_10.out; have z11 := S_11.out; have z12 := S_12.out; have z13 := S_13.out; have z14 := S_14.out; have z15 := S_15.out; have z16 := S_16.out; have z17 := S_17.out; have z18 := S_18.out; have z19 := S_19.out; have z20 := S_20.out; omega)))
  have x2_21 := Lib.hid hrow
  have G_21 := Lib.hid (G_20.out.within hw (Or.inr (by have z1 := S_1.out; have z2 := S_2.out; have z3 := S_3.out; have z4 := S_4.out; have z5 := S_5.out; have z6 := S_6.out; have z7 := S_7.out; have z8 := S_8.out; have z9 := S_9.out; have z10 := S_10.out; have z11 := S_11.out; have z12 := S_12.out; have z13 := S_13.out; have z14 := S_14.out; have z15 := S_15.out; have z16 := S_16.out; have z17 := S_17.out; have z18 := S_18.out; have z19 := S_19.out; have z20 := S_20.out; omega)))
  have S_21 : Hid (w20.heap.size ≤ w21.heap.size) := hw.size
  clear hw hrow B_20 a0_20 bx0_20 W_20 x0_20 x1_20 x2_20 G_20
  go_wp2_with fail
  refine (XE.out _ EG EW _ _ _ _ XE_G.out XE_W.out G_21.out.deck W_21.out.deck).mono ?_
  rintro e w22 ⟨rfl, hb⟩
  have B_22 := Lib.hid (below_step B_21.out hb)
  have a0_22 := cell_kept a0_21 hb
  have bx0_22 := cell_kept bx0_21 hb
  have W_22 := Lib.hid (W_21.out.later hb)
  have x0_22 := Lib.hid (x0_21.out.later hb)
  have x1_22 := Lib.hid (x1_21.out.later hb)
  have x2_22 := Lib.hid (x2_21.out.later hb)
  have G_22 := Lib.hid (G_21.out.later hb)
  have S_22 : Hid (w21.heap.size ≤ w22.heap.size) := hb.size
  clear hb B_21 a0_21 bx0_21 W_21 x0_21 x1_21 x2_21 G_21
  clear x0_22
  clear x1_22
  clear x2_22
  go_wp2_with fail
  refine (XM.out _ _ EG _ _ _ XE_G.out G_22.out).mono ?_
  rintro e w23 ⟨rfl, hw, hrow⟩
  have B_23 := Lib.hid (below_within B_22.out hw (by have z1 := S_1.out; have z2 := S_2.out; have z3 := S_3.out; have z4 := S_4.out; have z5 := S_5.out; have z6 := S_6.out; have z7 := S_7.out; have z8 := S_8.out; have z9 := S_9.out; have z10 := S_10.out; have z11 := S_11.out; have z12 := S_12.out; have z13 := S_13.out; have z14 := S_14.out; have z15 := S_15.out; have z16 := S_16.out; have z17 := S_17.out; have z18 := S_18.out; have z19 := S_19.out; have z20 := S_20.out; have z21 := S_21.out; have z22 := S_22.out; omega))
  have a0_23 := hw.cell a0_22 (by show w.heap.size < _ ∨ _ ≤ w.heap.size; have z1 := S_1.out; have z2 := S_2.out; have z3 := S_3.out; have z4 := S_4.out; have z5 := S_5.out; have z6 := S_6.out; have z7 := S_7.out; have z8 := S_8.out; have z9 := S_9.out; have z10 := S_10.out; have z11 := S_11.out; have z12 := S_12.out; have z13 := S_13.out; have z14 := S_14.out; have z15 := S_15.out; have z16 := S_16.out; have z17 := S_17.out; have z18 := S_18.out; have z19 := S_19.out; have z20 := S_20.out; have z21 := S_21.out; have z22 := S_22.out; omega)
  have bx0_23 := hw.cell bx0_22 (by show w7.heap.size < _ ∨ _ ≤ w7.heap.size; have zz := Z_bx0.out; have z1 := S_1.out; have z2 := S_2.out; have z3 := S_3.out; have z4 := S_4.out; have z5 := S_5.out; have z6 := S_6.out; have z7 := S_7.out; have z8 := S_8.out; have z9 := S_9.out; have z10 := S_10.out; have z11 := S_11.out; have z12 := S_12.out; have z13 := S_13.out; have z14 := S_14.out; have z15 := S_15.out; have z16 := S_16.out; have z17 := S_17.out; have z18 := S_18.out; have z19 := S_19.out; have z20 := S_20.out; have z21 := S_21.out; have z22 := S_22.out; omega)
  have W_23 := Lib.hid (W_22.out.within hw (Or.inl (by have z1 := S_1.out; have z2 := S_2.out; have z3 := S_3.out; have z4 := S_4.out; have z5 := S_5.out; have z6 := S_6.out; have z7 := S_7.out; have z8 := S_8.out; have z9 := S_9.out; have z10 := S_10.out; have z11 := S_11.out; have z12 := S_12.out; have z13 := S_13.out; have z14 := S_14.out; have z15 := S_15.out; have z16 := S_16.out; have z17 := S_17.out; have z18 := S_18.out; have z19 := S_19.out; have z20 := S_20.out; have z21 := S_21.out; have z22 := S_22.out; omega)))
  have G_23 := Lib.hid hrow
  have S_23 : Hid (w22.heap.size ≤ w23.heap.size) := hw.size
  clear hw hrow B_22 a0_22 bx0_22 W_22 G_22
  go_wp2_with fail
  refine (XH.out _ _ EG _ _ _ XE_G.out G_23.out).mono ?_
  rintro e w24 ⟨rfl, rfl⟩
  go_wp2_with fail
  refine (T0.out _ B_23.out).mono ?_
  rintro e w24 ⟨gv0, rfl, hb, ho⟩
  have B_24 := Lib.hid (below_step B_23.out hb)
  have a0_24 := cell_kept a0_23 hb
  have bx0_24 := cell_kept bx0_23 hb
  have W_24 := Lib.hid (W_23.out.later hb)
  have G_24 := Lib.hid (G_23.out.later hb)
  have S_24 : Hid (w23.heap.size ≤ w24.heap.size) := hb.size
  have v0_24 := Lib.hid ho
  clear hb ho B_23 a0_23 bx0_23 W_23 G_23
  go_wp2_with fail
  refine (T1.out _ B_24.out).mono ?_
  rintro e w25 ⟨gv1, Ev1, hE, rfl, hb, ho, hC⟩
  have B_25 := Lib.hid (below_step B_24.out hb)
  have a0_25 := cell_kept a0_24 hb
  have bx0_25 := cell_kept bx0_24 hb
  have W_25 := Lib.hid (W_24.out.later hb)
  have G_25 := Lib.hid (G_24.out.later hb)
  have v0_25 := Lib.hid (v0_24.out.later hb)
  have S_25 : Hid (w24.heap.size ≤ w25.heap.size) := hb.size
  have v1_25 := Lib.hid ho
  clear hb ho B_24 a0_24 bx0_24 W_24 G_24 v0_24
  have XE_v1 := Lib.hid hE
  have XC_v1 := Lib.hid hC
  clear hE hC
  go_wp2_with fail
  refine (T2.out _ B_25.out).mono ?_
  rintro e w26 ⟨gv2, rfl, hb, ho⟩
  have B_26 := Lib.hid (below_step B_25.out hb)
  have a0_26 := cell_kept a0_25 hb
  have bx0_26 := cell_kept bx0_25 hb
  have W_26 := Lib.hid (W_25.out.later hb)
  have G_26 := Lib.hid (G_25.out.later hb)
  have v0_26 := Lib.hid (v0_25.out.later hb)
  have v1_26 := Lib.hid (v1_25.out.later hb)
  have S_26 : Hid (w25.heap.size ≤ w26.heap.size) := hb.size
  have v2_26 := Lib.hid ho
  clear hb ho B_25 a0_25 bx0_25 W_25 G_25 v0_25 v1_25
  go_wp2_with fail
  refine (CI.out _ _ _ _ Ev1 _ _ _ _ _ _ B_26.out v0_26.out XE_v1.out XC_v1.out v1_26.out v2_26.out).mono ?_
  rintro e w27 ⟨AH, cH, EH, rfl, hE, hb, ho⟩
  have B_27 := Lib.hid (below_step B_26.out hb)
  have a0_27 := cell_kept a0_26 hb
  have bx0_27 := cell_kept bx0_26 hb
  have W_27 := Lib.hid (W_26.out.later hb)
  have G_27 := Lib.hid (G_26.out.later hb)
  have v0_27 := Lib.hid (v0_26.out.later hb)
  have v1_27 := Lib.hid (v1_26.out.later hb)
  have v2_27 := Lib.hid (v2_26.out.later hb)
  have S_27 : Hid (w26.heap.size ≤ w27.heap.size) := hb.size
  have H_27 := Lib.hid ho
  clear hb ho B_26 a0_26 bx0_26 W_26 G_26 v0_26 v1_26 v2_26
  have XE_H := Lib.hid hE
  clear hE
  go_wp2_with fail
  refine (XE.out _ EH EW _ _ _ _ XE_H.out XE_W.out H_27.out.deck W_27.out.deck).mono ?_
  rintro e w28 ⟨rfl, hb⟩
  have B_28 := Lib.hid (below_step B_27.out hb)
  have a0_28 := cell_kept a0_27 hb
  have bx0_28 := cell_kept bx0_27 hb
  have W_28 := Lib.hid (W_27.out.later hb)
  have G_28 := Lib.hid (G_27.out.later hb)
  have v0_28 := Lib.hid (v0_27.out.later hb)
  have v1_28 := Lib.hid (v1_27.out.later hb)
  have v2_28 := Lib.hid (v2_27.out.later hb)
  have H_28 := Lib.hid (H_27.out.later hb)
  have S_28 : Hid (w27.heap.size ≤ w28.heap.size) := hb.size
  clear hb B_27 a0_27 bx0_27 W_27 G_27 v0_27 v1_27 v2_27 H_27
  go_wp2_with fail
  refine (XH.out _ _ EG _ _ _ XE_G.out G_28.out).mono ?_
  rintro e w29 ⟨rfl, rfl⟩
  go_wp2
  go_ret
  exact ⟨rfl, B_28.out⟩

theorem walk (A0 : Option Addr) (c0 : Nat) (X0 : List Int) {y0 : World} (h0 : Ints y0 y0.heap.size A0 X0) (l0 : X0.length ≤ 9223372036854775807) (_ : ∀ n ∈ X0, (Lit.int .i64 n).wf = true) (A1 : Option Addr) (c1 : Nat) (D1 : List CardV) {y1 : World} (h1 : Deck y1 y1.heap.size A1 D1) (l1 : D1.length ≤ 9223372036854775807 ∧ ∀ d ∈ D1, d.xs.length ≤ 9223372036854775807) (A2 : Option Addr) (c2 : Nat) (P2 : List (Int × Int)) {y2 : World} (h2 : Copies y2 y2.heap.size A2 P2) (l2 : P2.length ≤ 9223372036854775807) (_ : ∀ d ∈ P2, (Lit.int .i64 d.1).wf = true) (w : World) (e0 : y0 = w) (e1 : y1 = w) (e2 : y2 = w) :
    Calls Try.prog 6 #[.agg #[.slice A0 X0.length c0], .slice A1 D1.length c1, .slice A2 P2.length c2] w fun e w' => e = .returned (.bool true) ∧ Below w.heap.size w w' := by
  subst e0
  subst e1
  subst e2
  by_cases hb0 : 1048576 < (X0.length : Int)
  · exact walk_big0 A0 c0 X0 A1 c1 D1 A2 c2 P2 _ h0 l0  hb0
  have hs0 : (X0.length : Int) ≤ 1048576 := by omega
  by_cases hb1 : 1048576 < (X0.length : Int) + (szTo D1 D1.length : Int)
  · exact walk_big1 A0 c0 X0 A1 c1 D1 A2 c2 P2 _ h0 h1 l1 hs0 hb1
  have hs1 : (X0.length : Int) + (szTo D1 D1.length : Int) ≤ 1048576 := by omega
  by_cases hb2 : 1048576 < (X0.length : Int) + (szTo D1 D1.length : Int) + (P2.length : Int)
  · exact walk_big2 A0 c0 X0 A1 c1 D1 A2 c2 P2 _ h0 h1 h2 l2 hs1 hb2
  have hs2 : (X0.length : Int) + (szTo D1 D1.length : Int) + (P2.length : Int) ≤ 1048576 := by omega
  have hm0 : X0.length ≤ 1048576 := by omega
  have hl1 : ∀ d ∈ D1, d.xs.length ≤ 1048576 := fun d hd => by have := szTo_each D1 d hd; omega
  have hm1 : D1.length ≤ 1048576 := by have := szTo_len D1; omega
  have hm2 : P2.length ≤ 1048576 := by omega
  have hx := gangA_length X0 (holes D1) P2
  have hxt := gangA_total X0 (holes D1) P2
  refine walk_small A0 c0 X0 A1 c1 D1 A2 c2 P2 (gangA X0 (holes D1) P2) (gangC X0 (holes D1) P2) _ h0 h1 h2 hs2 hx hxt (fun W A0 B0 E1 A1 B1 A2 B2 hW hP0 hB0 hE1 hD1 hC1 hB1 hP2 hB2 => ?_) (fun W A0 B0 E1 A1 B1 A2 B2 hW hP0 hB0 hE1 hD1 hC1 hB1 hP2 hB2 => ?_)
  · have := specGang_any A0 X0.length X0 B0 A1 E1.length E1 B1 A2 P2.length P2 B2 W hP0 hD1 hP2 hB0 hB1 hB2 hm0 (by rw [holes_length hE1]; exact hm1) hm2 (holes_each hE1 hl1)
    rwa [hE1] at this
  · have := implGang_any A0 X0.length X0 B0 A1 E1.length E1 B1 A2 P2.length P2 B2 W hP0 hD1 hP2 hB0 hB1 hB2 hm0 (by rw [holes_length hE1]; exact hm1) hm2 (holes_each hE1 hl1)
    rwa [hE1] at this

set_option maxRecDepth 100000 in
theorem lifted (os : Os) (started : os.Started) (H : Type) (enc : TypeId × Value → H) :
    ReturnsInHanded {} Try.checked os 6 .any (Rows.fnExactGangPunchSpec.pre6 enc Try.prog Try.f6 Rows.fnExactGangPunchRow.domain false) (Rows.fnExactGangPunchSpec.post enc Try.prog Try.f6 false true false false) := by
  refine returnsInHanded_of_change (C := Try.checked) own started (by kernel_rfl) Try.func6
    (ChangeSpec.witness6 (enc := enc) (C := Try.checked) false ⟨#[], #[.agg #[.slice none 0 0], .slice none 0 0, .slice none 0 0], []⟩ 8 (by kernel_rfl) (by kernel_rfl) (by kernel_rfl) (by kernel_rfl)) ?_
  intro W base args ds gs before hval0 hW _ _
  have hval : ∀ (j : Nat) t v, Try.f6.params[j]? = some t → args[j]? = some v → Value.okWide Try.prog W .any base t v := hval0
  have hW' := hW
  obtain ⟨p, q, hA0, hV, rfl, _, _⟩ := hW
  have hA : DataW.TrodAll enc Try.prog W 0 (fun _ => true) true Try.f6.params.toList args.toList ds p := hA0
  rw [Try.params6] at hA hval
  obtain ⟨v0, vs0, d0, ds0, p0, q0, hargs, rfl, rfl, h0, r0⟩ := trodAll_cons hA
  obtain ⟨v1, vs1, d1, ds1, p1, q1, rfl, rfl, rfl, h1, r1⟩ := trodAll_cons r0
  obtain ⟨v2, vs2, d2, ds2, p2, q2, rfl, rfl, rfl, h2, r2⟩ := trodAll_cons r1
  obtain ⟨rfl, rfl, rfl⟩ := trodAll_nil r2
  obtain rfl : args = #[v0, v1, v2] := by cases args; simp_all
  obtain ⟨rfl, rfl⟩ := trodVars_none hV
  obtain ⟨A0, c0, xs0, rfl, i0, l0, w0⟩ := open_card (hval 0 31 v0 rfl rfl) h0
  obtain ⟨A1, c1, D1, rfl, i1, l1⟩ := open_deck (hval 1 41 v1 rfl rfl) h1
  obtain ⟨A2, c2, P2, rfl, i2, l2, z2⟩ := open_copies (hval 2 22 v2 rfl rfl) h2
  refine (walk A0 c0 xs0 i0 l0 w0 A1 c1 D1 i1 l1 A2 c2 P2 i2 l2 z2 W rfl rfl rfl).mono fun e W' ⟨he, hb⟩ => ?_
  subst he
  refine ⟨_, rfl, law_post hW' rfl rfl ?_ rfl rfl rfl hb⟩
  intro t ht
  rw [Try.params6] at ht
  have ht' : t = 31 ∨ t = 41 ∨ t = 22 := by simpa using ht
  rcases ht' with rfl | rfl | rfl <;> exact ⟨by kernel_rfl, of_decide_eq_true (by kernel_rfl)⟩

theorem over : Rows.fnExactGangPunchRow.holds Try.pinned (OpenSpec.ofChange Rows.fnExactGangPunchSpec) :=
  OpenClaim.holds_of_wide 6 Try.f6 rfl rfl rfl rfl rfl rfl rfl ⟨rfl, rfl, rfl, rfl, rfl⟩ rfl rfl rfl rfl rfl (by kernel_rfl) Try.func6 (by kernel_rfl)
    (of_decide_eq_true (by kernel_rfl)) (by unfold Func.isWrapper; first | (rw [if_pos (by decide +kernel)]; kernel_rfl) | (rw [if_neg (by decide +kernel)]; exact ⟨rfl, rfl⟩))
    (fun os started H enc _ => lifted os started H enc)

theorem proved : Rows.FnExactGangPunchSaid :=
  over
end Go.Proofs.Ytamookdlbmbncaa.fnExactGangPunch
