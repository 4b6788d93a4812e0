/- For all lists of cards and list of copies, the law FnExactCompareDecks returns true: impl.CompareDecks answers as spec.CompareDecks and leaves its arguments as it was. Conditions: none. -/
import Derived.Test.YtamookdlbmbncaaCmpS
import Derived.Test.YtamookdlbmbncaaLaw
import Derived.Deep.RegionHeld3
import Derived.Deep.DeepCutAuto
import Derived.Test.YtamookdlbmbncaaBoxed
import Derived.Test.YtamookdlbmbncaaLawDeck
import Derived.Test.YtamookdlbmbncaaDeckMem
import Derived.Test.YtamookdlbmbncaaCopyMem
namespace Go.Proofs.Ytamookdlbmbncaa.fnExactCompareDecks
open Go.ChangeShapes Go.WideShapes Go.ChangeAt Go.RowKit

theorem walk_big0 (A0 : Option Addr) (c0 : Nat) (D0 : List CardV) (A1 : Option Addr) (c1 : Nat) (D1 : List CardV) (A2 : Option Addr) (c2 : Nat) (P2 : List (Int × Int)) (w : World) (h0 : Deck w w.heap.size A0 D0) (l0 : D0.length ≤ 9223372036854775807 ∧ ∀ d ∈ D0, d.xs.length ≤ 9223372036854775807)  (hbig : 1048576 < (szTo D0 D0.length : Int)) :
    Calls Try.prog 9 #[.slice A0 D0.length c0, .slice A1 D1.length c1, .slice A2 P2.length c2] w fun e w' => e = .returned (.bool true) ∧ Below w.heap.size w w' := by
  have z0 := fun W (hW : Below w.heap.size w W) => szCards_big A0 c0 D0 (1048576) w.heap.size W (h0.below hW) hW.size (by omega) (by omega) l0.1 l0.2 (by omega)
  obtain ⟨t0, ht0⟩ : ∃ t, szTo D0 D0.length = t := ⟨_, rfl⟩
  obtain ⟨n0, hn0⟩ : ∃ n, D0.length = n := ⟨_, rfl⟩
  rw [ht0] at hbig
  simp only [hn0] at z0 ⊢
  have Z0 := Lib.hid z0
  clear z0 hn0 ht0 h0 l0
  go_enter Try.func9, Try.ntmps9
  go_wp2_with fail
  refine (Z0.out _ (Below.refl _ _)).mono ?_
  rintro e w1 ⟨rfl, hb⟩
  have B_1 := Lib.hid hb
  have S_1 : Hid (w.heap.size + 0 ≤ w1.heap.size) := by show _ ≤ _; have := hb.size; simpa using this
  clear hb
  go_wp2
  go_ret
  exact ⟨rfl, B_1.out⟩

theorem walk_big1 (A0 : Option Addr) (c0 : Nat) (D0 : List CardV) (A1 : Option Addr) (c1 : Nat) (D1 : List CardV) (A2 : Option Addr) (c2 : Nat) (P2 : List (Int × Int)) (w : World) (h0 : Deck w w.heap.size A0 D0) (h1 : Deck w w.heap.size A1 D1) (l1 : D1.length ≤ 9223372036854775807 ∧ ∀ d ∈ D1, d.xs.length ≤ 9223372036854775807) (hs : (szTo D0 D0.length : Int) ≤ 1048576) (hbig : 1048576 < (szTo D0 D0.length : Int) + (szTo D1 D1.length : Int)) :
    Calls Try.prog 9 #[.slice A0 D0.length c0, .slice A1 D1.length c1, .slice A2 P2.length c2] w fun e w' => e = .returned (.bool true) ∧ Below w.heap.size w w' := by
  have z0 := fun W (hW : Below w.heap.size w W) => szCards_small A0 c0 D0 (1048576) w.heap.size W (h0.below hW) hW.size (by omega) (by omega)
  obtain ⟨t0, ht0⟩ : ∃ t, szTo D0 D0.length = t := ⟨_, rfl⟩
  obtain ⟨n0, hn0⟩ : ∃ n, D0.length = n := ⟨_, rfl⟩
  have z1 := fun W (hW : Below w.heap.size w W) => szCards_big A1 c1 D1 (1048576 - (szTo D0 D0.length : Int)) w.heap.size W (h1.below hW) hW.size (by omega) (by omega) l1.1 l1.2 (by omega)
  obtain ⟨t1, ht1⟩ : ∃ t, szTo D1 D1.length = t := ⟨_, rfl⟩
  obtain ⟨n1, hn1⟩ : ∃ n, D1.length = n := ⟨_, rfl⟩
  rw [ht0] at hbig hs
  simp only [ht0] at z0 z1
  simp only [hn0] at z0 ⊢
  rw [ht1] at hbig
  simp only [hn1] at z1 ⊢
  have Z0 := Lib.hid z0
  have Z1 := Lib.hid z1
  have g0 : ¬ 1048576 - (t0 : Int) < 0 := by omega
  clear z0 z1 hn0 hn1 ht0 ht1 h0 h1 l1
  go_enter Try.func9, Try.ntmps9
  go_wp2_with fail
  refine (Z0.out _ (Below.refl _ _)).mono ?_
  rintro e w1 ⟨rfl, hb⟩
  have B_1 := Lib.hid hb
  have S_1 : Hid (w.heap.size + 0 ≤ w1.heap.size) := by show _ ≤ _; have := hb.size; simpa using this
  clear hb
  go_wp2_with fail
  refine (Z1.out _ B_1.out).mono ?_
  rintro e w2 ⟨rfl, hb⟩
  have B_2 := Lib.hid (below_step B_1.out hb)
  have S_2 : Hid (w1.heap.size ≤ w2.heap.size) := hb.size
  clear hb B_1
  go_wp2
  go_ret
  exact ⟨rfl, B_2.out⟩

theorem walk_big2 (A0 : Option Addr) (c0 : Nat) (D0 : List CardV) (A1 : Option Addr) (c1 : Nat) (D1 : List CardV) (A2 : Option Addr) (c2 : Nat) (P2 : List (Int × Int)) (w : World) (h0 : Deck w w.heap.size A0 D0) (h1 : Deck w w.heap.size A1 D1) (h2 : Copies w w.heap.size A2 P2) (l2 : P2.length ≤ 9223372036854775807) (hs : (szTo D0 D0.length : Int) + (szTo D1 D1.length : Int) ≤ 1048576) (hbig : 1048576 < (szTo D0 D0.length : Int) + (szTo D1 D1.length : Int) + (P2.length : Int)) :
    Calls Try.prog 9 #[.slice A0 D0.length c0, .slice A1 D1.length c1, .slice A2 P2.length c2] w fun e w' => e = .returned (.bool true) ∧ Below w.heap.size w w' := by
  have z0 := fun W (hW : Below w.heap.size w W) => szCards_small A0 c0 D0 (1048576) w.heap.size W (h0.below hW) hW.size (by omega) (by omega)
  obtain ⟨t0, ht0⟩ : ∃ t, szTo D0 D0.length = t := ⟨_, rfl⟩
  obtain ⟨n0, hn0⟩ : ∃ n, D0.length = n := ⟨_, rfl⟩
  have z1 := fun W (hW : Below w.heap.size w W) => szCards_small A1 c1 D1 (1048576 - (szTo D0 D0.length : Int)) w.heap.size W (h1.below hW) hW.size (by omega) (by omega)
  obtain ⟨t1, ht1⟩ : ∃ t, szTo D1 D1.length = t := ⟨_, rfl⟩
  obtain ⟨n1, hn1⟩ : ∃ n, D1.length = n := ⟨_, rfl⟩
  have z2 := fun (W : World) (_ : Below w.heap.size w W) => szCopies_any A2 P2.length c2 (1048576 - (szTo D0 D0.length : Int) - (szTo D1 D1.length : Int)) W (by omega) (by omega) (by omega)
  have e2 : (if (1048576 - (szTo D0 D0.length : Int) - (szTo D1 D1.length : Int)) < (P2.length : Int) then (-1 : Int) else 1048576 - (szTo D0 D0.length : Int) - (szTo D1 D1.length : Int) - P2.length) = -1 := if_pos (by omega)
  simp only [e2] at z2
  clear e2
  obtain ⟨n2, hn2⟩ : ∃ n, P2.length = n := ⟨_, rfl⟩
  rw [ht0] at hbig hs
  simp only [ht0] at z0 z1 z2
  simp only [hn0] at z0 ⊢
  rw [ht1] at hbig hs
  simp only [ht1] at z1 z2
  simp only [hn1] at z1 ⊢
  simp only [hn2] at z2 ⊢
  rw [hn2] at hbig
  have Z0 := Lib.hid z0
  have Z1 := Lib.hid z1
  have Z2 := Lib.hid z2
  have g0 : ¬ 1048576 - (t0 : Int) < 0 := by omega
  have g1 : ¬ 1048576 - (t0 : Int) - (t1 : Int) < 0 := by omega
  clear z0 z1 z2 hn0 hn1 hn2 ht0 ht1 h0 h1 h2 l2
  go_enter Try.func9, Try.ntmps9
  go_wp2_with fail
  refine (Z0.out _ (Below.refl _ _)).mono ?_
  rintro e w1 ⟨rfl, hb⟩
  have B_1 := Lib.hid hb
  have S_1 : Hid (w.heap.size + 0 ≤ w1.heap.size) := by show _ ≤ _; have := hb.size; simpa using this
  clear hb
  go_wp2_with fail
  refine (Z1.out _ B_1.out).mono ?_
  rintro e w2 ⟨rfl, hb⟩
  have B_2 := Lib.hid (below_step B_1.out hb)
  have S_2 : Hid (w1.heap.size ≤ w2.heap.size) := hb.size
  clear hb B_1
  go_wp2_with fail
  refine (Z2.out _ B_2.out).mono ?_
  rintro e w3 ⟨rfl, rfl⟩
  go_wp2
  go_ret
  exact ⟨rfl, B_2.out⟩

set_option maxRecDepth 100000 in
set_option maxHeartbeats 4000000 in
theorem walk_small (A0 : Option Addr) (c0 : Nat) (D0 : List CardV) (A1 : Option Addr) (c1 : Nat) (D1 : List CardV) (A2 : Option Addr) (c2 : Nat) (P2 : List (Int × Int)) (v1 : Int) (v2 : Int) (w : World) (h0 : Deck w w.heap.size A0 D0) (h1 : Deck w w.heap.size A1 D1) (h2 : Copies w w.heap.size A2 P2) (hs : (szTo D0 D0.length : Int) + (szTo D1 D1.length : Int) + (P2.length : Int) ≤ 1048576)
    (hv : ∀ (W : World) (E0 : List CardV) (A0 : Option Addr) (B0 : Nat) (E1 : List CardV) (A1 : Option Addr) (B1 : Nat) (A2 : Option Addr) (B2 : Nat), Below w.heap.size w W → holes E0 = holes D0 → Deck W B0 A0 E0 → CapsEq E0 → B0 ≤ W.heap.size → holes E1 = holes D1 → Deck W B1 A1 E1 → CapsEq E1 → B1 ≤ W.heap.size → Copies W B2 A2 P2 → B2 ≤ W.heap.size → Calls Try.prog 41 #[.slice A0 E0.length E0.length, .slice A1 E1.length E1.length, .slice A2 P2.length P2.length] W fun e w' => e = .returned (.tuple #[.int .i64 v1, .int .i64 v2]) ∧ Below W.heap.size W w')
    (hi : ∀ (W : World) (E0 : List CardV) (A0 : Option Addr) (B0 : Nat) (E1 : List CardV) (A1 : Option Addr) (B1 : Nat) (A2 : Option Addr) (B2 : Nat), Below w.heap.size w W → holes E0 = holes D0 → Deck W B0 A0 E0 → CapsEq E0 → B0 ≤ W.heap.size → holes E1 = holes D1 → Deck W B1 A1 E1 → CapsEq E1 → B1 ≤ W.heap.size → Copies W B2 A2 P2 → B2 ≤ W.heap.size → Calls Try.prog 42 #[.slice A0 E0.length E0.length, .slice A1 E1.length E1.length, .slice A2 P2.length P2.length] W fun e w' => e = .returned (.tuple #[.int .i64 v1, .int .i64 v2]) ∧ Below W.heap.size W w') :
    Calls Try.prog 9 #[.slice A0 D0.length c0, .slice A1 D1.length c1, .slice A2 P2.length c2] w fun e w' => e = .returned (.bool true) ∧ Below w.heap.size w w' := by
  have hl0 : ∀ d ∈ D0, d.xs.length ≤ 1048576 := fun d hd => by have := szTo_each D0 d hd; omega
  have hm0 : D0.length ≤ 1048576 := by have := szTo_len D0; omega
  have z0 := fun W (hW : Below w.heap.size w W) => szCards_small A0 c0 D0 (1048576) w.heap.size W (h0.below hW) hW.size (by omega) (by omega)
  have t0 := fun W (hW : Below w.heap.size w W) => toCardsAt_any A0 c0 D0 w.heap.size W (h0.below hW) hW.size hm0 hl0
  have q0 : ∀ (W : World) (E F : List CardV) (A A' : Option Addr), holes E = holes D0 → holes F = holes D0 → Deck W W.heap.size A E → Deck W W.heap.size A' F → Calls Try.prog 29 #[.slice A D0.length D0.length, .slice A' D0.length D0.length] W fun e w' => e = .returned (.bool true) ∧ Below W.heap.size W w' := fun W E F A A' hE hF hO hP => by
    have hEn := holes_length hE
    have hFn := holes_length hF
    have := eqCards_any A A' D0.length D0.length E F W.heap.size W.heap.size W hO hP (Nat.le_refl _) (Nat.le_refl _) (by omega) (by omega) (holes_each hE hl0) (holes_each hF hl0)
    rw [hE, hF, hEn, hFn] at this
    simpa using this
  have hl1 : ∀ d ∈ D1, d.xs.length ≤ 1048576 := fun d hd => by have := szTo_each D1 d hd; omega
  have hm1 : D1.length ≤ 1048576 := by have := szTo_len D1; omega
  have z1 := fun W (hW : Below w.heap.size w W) => szCards_small A1 c1 D1 (1048576 - (szTo D0 D0.length : Int)) w.heap.size W (h1.below hW) hW.size (by omega) (by omega)
  have t1 := fun W (hW : Below w.heap.size w W) => toCardsAt_any A1 c1 D1 w.heap.size W (h1.below hW) hW.size hm1 hl1
  have q1 : ∀ (W : World) (E F : List CardV) (A A' : Option Addr), holes E = holes D1 → holes F = holes D1 → Deck W W.heap.size A E → Deck W W.heap.size A' F → Calls Try.prog 29 #[.slice A D1.length D1.length, .slice A' D1.length D1.length] W fun e w' => e = .returned (.bool true) ∧ Below W.heap.size W w' := fun W E F A A' hE hF hO hP => by
    have hEn := holes_length hE
    have hFn := holes_length hF
    have := eqCards_any A A' D1.length D1.length E F W.heap.size W.heap.size W hO hP (Nat.le_refl _) (Nat.le_refl _) (by omega) (by omega) (holes_each hE hl1) (holes_each hF hl1)
    rw [hE, hF, hEn, hFn] at this
    simpa using this
  have hm2 : P2.length ≤ 1048576 := by omega
  have z2 := fun (W : World) (_ : Below w.heap.size w W) => szCopies_any A2 P2.length c2 (1048576 - (szTo D0 D0.length : Int) - (szTo D1 D1.length : Int)) W (by omega) (by omega) (by omega)
  have e2 : (if (1048576 - (szTo D0 D0.length : Int) - (szTo D1 D1.length : Int)) < (P2.length : Int) then (-1 : Int) else 1048576 - (szTo D0 D0.length : Int) - (szTo D1 D1.length : Int) - P2.length) = 1048576 - (szTo D0 D0.length : Int) - (szTo D1 D1.length : Int) - P2.length := if_neg (by omega)
  simp only [e2] at z2
  clear e2
  have t2 := fun W (hW : Below w.heap.size w W) => toCopiesAt_any A2 c2 P2 w.heap.size W (h2.below hW) hW.size hm2
  have q2 := fun A A' W (hA : Copies W W.heap.size A P2) (hA' : Copies W W.heap.size A' P2) => eqCopies_same A A' P2.length P2.length P2 W.heap.size W.heap.size W hA hA' (Nat.le_refl _) (Nat.le_refl _) hm2
  have cv : ∀ (W : World) (E0 : List CardV) (g0 lo0 hi0 : Nat) (E1 : List CardV) (g1 lo1 hi1 : Nat) (g2 lo2 hi2 : Nat), Below w.heap.size w W → holes E0 = holes D0 → CapsEq E0 → DeckAt W lo0 hi0 (some ⟨g0, 0, none⟩) E0 → holes E1 = holes D1 → CapsEq E1 → DeckAt W lo1 hi1 (some ⟨g1, 0, none⟩) E1 → QAt W lo2 hi2 (some ⟨g2, 0, none⟩) P2 → Calls Try.prog 41 #[.slice (some ⟨g0, 0, none⟩) D0.length D0.length, .slice (some ⟨g1, 0, none⟩) D1.length D1.length, .slice (some ⟨g2, 0, none⟩) P2.length P2.length] W fun e w' => e = .returned (.tuple #[.int .i64 v1, .int .i64 v2]) ∧ Below W.heap.size W w' := fun W E0 g0 lo0 hi0 E1 g1 lo1 hi1 g2 lo2 hi2 hW hE0 hC0 hO0 hE1 hC1 hO1 hO2 => by
    have := hv W E0 (some ⟨g0, 0, none⟩) W.heap.size E1 (some ⟨g1, 0, none⟩) W.heap.size (some ⟨g2, 0, none⟩) W.heap.size hW hE0 hO0.deck hC0 (Nat.le_refl _) hE1 hO1.deck hC1 (Nat.le_refl _) hO2.copies (Nat.le_refl _)
    rw [holes_length hE0, holes_length hE1] at this
    exact this
  have ci : ∀ (W : World) (E0 : List CardV) (g0 lo0 hi0 : Nat) (E1 : List CardV) (g1 lo1 hi1 : Nat) (g2 lo2 hi2 : Nat), Below w.heap.size w W → holes E0 = holes D0 → CapsEq E0 → DeckAt W lo0 hi0 (some ⟨g0, 0, none⟩) E0 → holes E1 = holes D1 → CapsEq E1 → DeckAt W lo1 hi1 (some ⟨g1, 0, none⟩) E1 → QAt W lo2 hi2 (some ⟨g2, 0, none⟩) P2 → Calls Try.prog 42 #[.slice (some ⟨g0, 0, none⟩) D0.length D0.length, .slice (some ⟨g1, 0, none⟩) D1.length D1.length, .slice (some ⟨g2, 0, none⟩) P2.length P2.length] W fun e w' => e = .returned (.tuple #[.int .i64 v1, .int .i64 v2]) ∧ Below W.heap.size W w' := fun W E0 g0 lo0 hi0 E1 g1 lo1 hi1 g2 lo2 hi2 hW hE0 hC0 hO0 hE1 hC1 hO1 hO2 => by
    have := hi W E0 (some ⟨g0, 0, none⟩) W.heap.size E1 (some ⟨g1, 0, none⟩) W.heap.size (some ⟨g2, 0, none⟩) W.heap.size hW hE0 hO0.deck hC0 (Nat.le_refl _) hE1 hO1.deck hC1 (Nat.le_refl _) hO2.copies (Nat.le_refl _)
    rw [holes_length hE0, holes_length hE1] at this
    exact this
  obtain ⟨s0, hs0⟩ : ∃ s, szTo D0 D0.length = s := ⟨_, rfl⟩
  simp only [hs0] at hs z0 z1 z2
  obtain ⟨n0, hn0⟩ : ∃ n, D0.length = n := ⟨_, rfl⟩
  simp only [hn0] at z0 t0 q0 cv ci ⊢
  obtain ⟨s1, hs1⟩ : ∃ s, szTo D1 D1.length = s := ⟨_, rfl⟩
  simp only [hs1] at hs z1 z2
  obtain ⟨n1, hn1⟩ : ∃ n, D1.length = n := ⟨_, rfl⟩
  simp only [hn1] at z1 t1 q1 cv ci ⊢
  obtain ⟨n2, hn2⟩ : ∃ n, P2.length = n := ⟨_, rfl⟩
  simp only [hn2] at z2 t2 q2 cv ci hs ⊢
  have Z0 := Lib.hid z0
  have T0 := Lib.hid t0
  have Q0 := Lib.hid q0
  have Z1 := Lib.hid z1
  have T1 := Lib.hid t1
  have Q1 := Lib.hid q1
  have Z2 := Lib.hid z2
  have T2 := Lib.hid t2
  have Q2 := Lib.hid q2
  have CV := Lib.hid cv
  have CI := Lib.hid ci
  have g0 : ¬ 1048576 - (s0 : Int) < 0 := by omega
  have g1 : ¬ 1048576 - (s0 : Int) - (s1 : Int) < 0 := by omega
  have g2 : ¬ 1048576 - (s0 : Int) - (s1 : Int) - (n2 : Int) < 0 := by omega
  clear cv ci hv hi z0 t0 q0 hn0 h0 hm0 hs0 hl0 z1 t1 q1 hn1 h1 hm1 hs1 hl1 z2 t2 q2 hn2 h2 hm2
  go_enter Try.func9, Try.ntmps9
  go_wp2_with fail
  refine (Z0.out _ (Below.refl _ _)).mono ?_
  rintro e w1 ⟨rfl, hb⟩
  have B_1 := Lib.hid hb
  have S_1 : Hid (w.heap.size + 0 ≤ w1.heap.size) := by show _ ≤ _; have := hb.size; simpa using this
  clear hb
  go_wp2_with fail
  refine (Z1.out _ B_1.out).mono ?_
  rintro e w2 ⟨rfl, hb⟩
  have B_2 := Lib.hid (below_step B_1.out hb)
  have S_2 : Hid (w1.heap.size ≤ w2.heap.size) := hb.size
  clear hb B_1
  go_wp2_with fail
  refine (Z2.out _ B_2.out).mono ?_
  rintro e w3 ⟨rfl, rfl⟩
  go_wp2_with fail
  refine (T0.out _ B_2.out).mono ?_
  rintro e w3 ⟨gw0, Ew0, hE, rfl, hb, ho, hC⟩
  have B_3 := Lib.hid (below_step B_2.out hb)
  have S_3 : Hid (w2.heap.size ≤ w3.heap.size) := hb.size
  have w0_3 := Lib.hid ho
  clear hb ho B_2
  have XE_w0 := Lib.hid hE
  have XC_w0 := Lib.hid hC
  clear hE hC
  go_wp2_with fail
  refine (T1.out _ B_3.out).mono ?_
  rintro e w4 ⟨gw1, Ew1, hE, rfl, hb, ho, hC⟩
  have B_4 := Lib.hid (below_step B_3.out hb)
  have w0_4 := Lib.hid (w0_3.out.later hb)
  have S_4 : Hid (w3.heap.size ≤ w4.heap.size) := hb.size
  have w1_4 := Lib.hid ho
  clear hb ho B_3 w0_3
  have XE_w1 := Lib.hid hE
  have XC_w1 := Lib.hid hC
  clear hE hC
  go_wp2_with fail
  refine (T2.out _ B_4.out).mono ?_
  rintro e w5 ⟨gw2, rfl, hb, ho⟩
  have B_5 := Lib.hid (below_step B_4.out hb)
  have w0_5 := Lib.hid (w0_4.out.later hb)
  have w1_5 := Lib.hid (w1_4.out.later hb)
  have S_5 : Hid (w4.heap.size ≤ w5.heap.size) := hb.size
  have w2_5 := Lib.hid ho
  clear hb ho B_4 w0_4 w1_4
  go_wp2_with fail
  refine (CV.out _ Ew0 _ _ _ Ew1 _ _ _ _ _ _ B_5.out XE_w0.out XC_w0.out w0_5.out XE_w1.out XC_w1.out w1_5.out w2_5.out).mono ?_
  rintro e w6 ⟨rfl, hb⟩
  have B_6 := Lib.hid (below_step B_5.out hb)
  have w0_6 := Lib.hid (w0_5.out.later hb)
  have w1_6 := Lib.hid (w1_5.out.later hb)
  have w2_6 := Lib.hid (w2_5.out.later hb)
  have S_6 : Hid (w5.heap.size ≤ w6.heap.size) := hb.size
  clear hb B_5 w0_5 w1_5 w2_5
  clear w0_6
  clear w1_6
  clear w2_6
  go_wp2_with fail
  refine (T0.out _ B_6.out).mono ?_
  rintro e w7 ⟨gx0, Ex0, hE, rfl, hb, ho, hC⟩
  have B_7 := Lib.hid (below_step B_6.out hb)
  have S_7 : Hid (w6.heap.size ≤ w7.heap.size) := hb.size
  have x0_7 := Lib.hid ho
  clear hb ho B_6
  have XE_x0 := Lib.hid hE
  have XC_x0 := Lib.hid hC
  clear hE hC
  go_wp2_with fail
  refine (T1.out _ B_7.out).mono ?_
  rintro e w8 ⟨gx1, Ex1, hE, rfl, hb, ho, hC⟩
  have B_8 := Lib.hid (below_step B_7.out hb)
  have x0_8 := Lib.hid (x0_7.out.later hb)
  have S_8 : Hid (w7.heap.size ≤ w8.heap.size) := hb.size
  have x1_8 := Lib.hid ho
  clear hb ho B_7 x0_7
  have XE_x1 := Lib.hid hE
  have XC_x1 := Lib.hid hC
  clear hE hC
  go_wp2_with fail
  refine (T2.out _ B_8.out).mono ?_
  rintro e w9 ⟨gx2, rfl, hb, ho⟩
  have B_9 := Lib.hid (below_step B_8.out hb)
  have x0_9 := Lib.hid (x0_8.out.later hb)
  have x1_9 := Lib.hid (x1_8.out.later hb)
  have S_9 : Hid (w8.heap.size ≤ w9.heap.size) := hb.size
  have x2_9 := Lib.hid ho
  clear hb ho B_8 x0_8 x1_8
  go_wp2_with fail
  refine (CI.out _ Ex0 _ _ _ Ex1 _ _ _ _ _ _ B_9.out XE_x0.out XC_x0.out x0_9.out XE_x1.out XC_x1.out x1_9.out x2_9.out).mono ?_
  rintro e w10 ⟨rfl, hb⟩
  have B_10 := Lib.hid (below_step B_9.out hb)
  have x0_10 := Lib.hid (x0_9.out.later hb)
  have x1_10 := Lib.hid (x1_9.out.later hb)
  have x2_10 := Lib.hid (x2_9.out.later hb)
  have S_10 : Hid (w9.heap.size ≤ w10.heap.size) := hb.size
  clear hb B_9 x0_9 x1_9 x2_9
  go_wp2_with fail
  refine (T0.out _ B_10.out).mono ?_
  rintro e w11 ⟨gz0, Ez0, hE, rfl, hb, ho, hC⟩
  have B_11 := Lib.hid (below_step B_10.out hb)
  have x0_11 := Lib.hid (x0_10.out.later hb)
  have x1_11 := Lib.hid (x1_10.out.later hb)
  have x2_11 := Lib.hid (x2_10.out.later hb)
  have S_11 : Hid (w10.heap.size ≤ w11.heap.size) := hb.size
  have z0_11 := Lib.hid ho
  clear hb ho B_10 x0_10 x1_10 x2_10
  have XE_z0 := Lib.hid hE
  clear hE hC
  go_wp2_with fail
  refine (Q0.out _ Ex0 Ez0 _ _ XE_x0.out XE_z0.out x0_11.out.deck z0_11.out.deck).mono ?_
  rintro e w12 ⟨rfl, hb⟩
  have B_12 := Lib.hid (below_step B_11.out hb)
  have x0_12 := Lib.hid (x0_11.out.later hb)
  have x1_12 := Lib.hid (x1_11.out.later hb)
  have x2_12 := Lib.hid (x2_11.out.later hb)
  have z0_12 := Lib.hid (z0_11.out.later hb)
  have S_12 : Hid (w11.heap.size ≤ w12.heap.size) := hb.size
  clear hb B_11 x0_11 x1_11 x2_11 z0_11
  go_wp2_with fail
  refine (T1.out _ B_12.out).mono ?_
  rintro e w13 ⟨gz1, Ez1, hE, rfl, hb, ho, hC⟩
  have B_13 := Lib.hid (below_step B_12.out hb)
  have x0_13 := Lib.hid (x0_12.out.later hb)
  have x1_13 := Lib.hid (x1_12.out.later hb)
  have x2_13 := Lib.hid (x2_12.out.later hb)
  have z0_13 := Lib.hid (z0_12.out.later hb)
  have S_13 : Hid (w12.heap.size ≤ w13.heap.size) := hb.size
  have z1_13 := Lib.hid ho
  clear hb ho B_12 x0_12 x1_12 x2_12 z0_12
  have XE_z1 := Lib.hid hE
  clear hE hC
  go_wp2_with fail
  refine (Q1.out _ Ex1 Ez1 _ _ XE_x1.out XE_z1.out x1_13.out.deck z1_13.out.deck).mono ?_
  rintro e w14 ⟨rfl, hb⟩
  have B_14 := Lib.hid (below_step B_13.out hb)
  have x0_14 := Lib.hid (x0_13.out.later hb)
  have x1_14 := Lib.hid (x1_13.out.later hb)
  have x2_14 := Lib.hid (x2_13.out.later hb)
  have z0_14 := Lib.hid (z0_13.out.later hb)
  have z1_14 := Lib.hid (z1_13.out.later hb)
  have S_14 : Hid (w13.heap.size ≤ w14.heap.size) := hb.size
  clear hb B_13 x0_13 x1_13 x2_13 z0_13 z1_13
  go_wp2_with fail
  refine (T2.out _ B_14.out).mono ?_
  rintro e w15 ⟨gz2, rfl, hb, ho⟩
  have B_15 := Lib.hid (below_step B_14.out hb)
  have x0_15 := Lib.hid (x0_14.out.later hb)
  have x1_15 := Lib.hid (x1_14.out.later hb)
  have x2_15 := Lib.hid (x2_14.out.later hb)
  have z0_15 := Lib.hid (z0_14.out.later hb)
  have z1_15 := Lib.hid (z1_14.out.later hb)
  have S_15 : Hid (w14.heap.size ≤ w15.heap.size) := hb.size
  have z2_15 := Lib.hid ho
  clear hb ho B_14 x0_14 x1_14 x2_14 z0_14 z1_14
  go_wp2_with fail
  refine (Q2.out _ _ _ x2_15.out.copies z2_15.out.copies).mono ?_
  rintro e w16 ⟨rfl, hb⟩
  have B_16 := Lib.hid (below_step B_15.out hb)
  have x0_16 := Lib.hid (x0_15.out.later hb)
  have x1_16 := Lib.hid (x1_15.out.later hb)
  have x2_16 := Lib.hid (x2_15.out.later hb)
  have z0_16 := Lib.hid (z0_15.out.later hb)
  have z1_16 := Lib.hid (z1_15.out.later hb)
  have z2_16 := Lib.hid (z2_15.out.later hb)
  have S_16 : Hid (w15.heap.size ≤ w16.heap.size) := hb.size
  clear hb B_15 x0_15 x1_15 x2_15 z0_15 z1_15 z2_15
  go_wp2
  go_ret
  exact ⟨rfl, B_16.out⟩

theorem walk (A0 : Option Addr) (c0 : Nat) (D0 : List CardV) {y0 : World} (h0 : Deck y0 y0.heap.size A0 D0) (l0 : D0.length ≤ 9223372036854775807 ∧ ∀ d ∈ D0, d.xs.length ≤ 9223372036854775807) (A1 : Option Addr) (c1 : Nat) (D1 : List CardV) {y1 : World} (h1 : Deck y1 y1.heap.size A1 D1) (l1 : D1.length ≤ 9223372036854775807 ∧ ∀ d ∈ D1, d.xs.length ≤ 9223372036854775807) (A2 : Option Addr) (c2 : Nat) (P2 : List (Int × Int)) {y2 : World} (h2 : Copies y2 y2.heap.size A2 P2) (l2 : P2.length ≤ 9223372036854775807) (_ : ∀ d ∈ P2, (Lit.int .i64 d.1).wf = true) (w : World) (e0 : y0 = w) (e1 : y1 = w) (e2 : y2 = w) :
    Calls Try.prog 9 #[.slice A0 D0.length c0, .slice A1 D1.length c1, .slice A2 P2.length c2] w fun e w' => e = .returned (.bool true) ∧ Below w.heap.size w w' := by
  subst e0
  subst e1
  subst e2
  by_cases hb0 : 1048576 < (szTo D0 D0.length : Int)
  · exact walk_big0 A0 c0 D0 A1 c1 D1 A2 c2 P2 _ h0 l0  hb0
  have hs0 : (szTo D0 D0.length : Int) ≤ 1048576 := by omega
  by_cases hb1 : 1048576 < (szTo D0 D0.length : Int) + (szTo D1 D1.length : Int)
  · exact walk_big1 A0 c0 D0 A1 c1 D1 A2 c2 P2 _ h0 h1 l1 hs0 hb1
  have hs1 : (szTo D0 D0.length : Int) + (szTo D1 D1.length : Int) ≤ 1048576 := by omega
  by_cases hb2 : 1048576 < (szTo D0 D0.length : Int) + (szTo D1 D1.length : Int) + (P2.length : Int)
  · exact walk_big2 A0 c0 D0 A1 c1 D1 A2 c2 P2 _ h0 h1 h2 l2 hs1 hb2
  have hs2 : (szTo D0 D0.length : Int) + (szTo D1 D1.length : Int) + (P2.length : Int) ≤ 1048576 := by omega
  have hl0 : ∀ d ∈ D0, d.xs.length ≤ 1048576 := fun d hd => by have := szTo_each D0 d hd; omega
  have hm0 : D0.length ≤ 1048576 := by have := szTo_len D0; omega
  have hl1 : ∀ d ∈ D1, d.xs.length ≤ 1048576 := fun d hd => by have := szTo_each D1 d hd; omega
  have hm1 : D1.length ≤ 1048576 := by have := szTo_len D1; omega
  have hm2 : P2.length ≤ 1048576 := by omega
  refine walk_small A0 c0 D0 A1 c1 D1 A2 c2 P2 (decksV (holes D0) (holes D1) P2) (decksC (holes D0) (holes D1) P2) _ h0 h1 h2 hs2 (fun W E0 A0 B0 E1 A1 B1 A2 B2 hW hE0 hD0 hC0 hB0 hE1 hD1 hC1 hB1 hP2 hB2 => ?_) (fun W E0 A0 B0 E1 A1 B1 A2 B2 hW hE0 hD0 hC0 hB0 hE1 hD1 hC1 hB1 hP2 hB2 => ?_)
  · have := specCompareDecks_any A0 E0.length E0 B0 A1 E1.length E1 B1 A2 P2.length P2 B2 W hD0 hD1 hP2 hB0 hB1 hB2 (by rw [holes_length hE0]; exact hm0) (by rw [holes_length hE1]; exact hm1) hm2 (holes_each hE0 hl0) (holes_each hE1 hl1)
    rwa [hE0, hE1] at this
  · have := implCompareDecks_any A0 E0.length E0 B0 A1 E1.length E1 B1 A2 P2.length P2 B2 W hD0 hD1 hP2 hB0 hB1 hB2 (by rw [holes_length hE0]; exact hm0) (by rw [holes_length hE1]; exact hm1) hm2 (holes_each hE0 hl0) (holes_each hE1 hl1)
    rwa [hE0, hE1] at this

set_option maxRecDepth 100000 in
theorem lifted (os : Os) (started : os.Started) (H : Type) (enc : TypeId × Value → H) :
    ReturnsInHanded {} Try.checked os 9 .any (Rows.fnExactCompareDecksSpec.pre6 enc Try.prog Try.f9 Rows.fnExactCompareDecksRow.domain false) (Rows.fnExactCompareDecksSpec.post enc Try.prog Try.f9 false true false false) := by
  refine returnsInHanded_of_change (C := Try.checked) own started (by kernel_rfl) Try.func9
    (ChangeSpec.witness6 (enc := enc) (C := Try.checked) false ⟨#[], #[.slice none 0 0, .slice none 0 0, .slice none 0 0], []⟩ 8 (by kernel_rfl) (by kernel_rfl) (by kernel_rfl) (by kernel_rfl)) ?_
  intro W base args ds gs before hval0 hW _ _
  have hval : ∀ (j : Nat) t v, Try.f9.params[j]? = some t → args[j]? = some v → Value.okWide Try.prog W .any base t v := hval0
  have hW' := hW
  obtain ⟨p, q, hA0, hV, rfl, _, _⟩ := hW
  have hA : DataW.TrodAll enc Try.prog W 0 (fun _ => true) true Try.f9.params.toList args.toList ds p := hA0
  rw [Try.params9] at hA hval
  obtain ⟨v0, vs0, d0, ds0, p0, q0, hargs, rfl, rfl, h0, r0⟩ := trodAll_cons hA
  obtain ⟨v1, vs1, d1, ds1, p1, q1, rfl, rfl, rfl, h1, r1⟩ := trodAll_cons r0
  obtain ⟨v2, vs2, d2, ds2, p2, q2, rfl, rfl, rfl, h2, r2⟩ := trodAll_cons r1
  obtain ⟨rfl, rfl, rfl⟩ := trodAll_nil r2
  obtain rfl : args = #[v0, v1, v2] := by cases args; simp_all
  obtain ⟨rfl, rfl⟩ := trodVars_none hV
  obtain ⟨A0, c0, D0, rfl, i0, l0⟩ := open_deck (hval 0 41 v0 rfl rfl) h0
  obtain ⟨A1, c1, D1, rfl, i1, l1⟩ := open_deck (hval 1 41 v1 rfl rfl) h1
  obtain ⟨A2, c2, P2, rfl, i2, l2, z2⟩ := open_copies (hval 2 22 v2 rfl rfl) h2
  refine (walk A0 c0 D0 i0 l0 A1 c1 D1 i1 l1 A2 c2 P2 i2 l2 z2 W rfl rfl rfl).mono fun e W' ⟨he, hb⟩ => ?_
  subst he
  refine ⟨_, rfl, law_post hW' rfl rfl ?_ rfl rfl rfl hb⟩
  intro t ht
  rw [Try.params9] at ht
  have ht' : t = 41 ∨ t = 41 ∨ t = 22 := by simpa using ht
  rcases ht' with rfl | rfl | rfl <;> exact ⟨by kernel_rfl, of_decide_eq_true (by kernel_rfl)⟩

theorem over : Rows.fnExactCompareDecksRow.holds Try.pinned (OpenSpec.ofChange Rows.fnExactCompareDecksSpec) :=
  OpenClaim.holds_of_wide 9 Try.f9 rfl rfl rfl rfl rfl rfl rfl ⟨rfl, rfl, rfl, rfl, rfl⟩ rfl rfl rfl rfl rfl (by kernel_rfl) Try.func9 (by kernel_rfl)
    (of_decide_eq_true (by kernel_rfl)) (by unfold Func.isWrapper; first | (rw [if_pos (by decide +kernel)]; kernel_rfl) | (rw [if_neg (by decide +kernel)]; exact ⟨rfl, rfl⟩))
    (fun os started H enc _ => lifted os started H enc)

theorem proved : Rows.FnExactCompareDecksSaid :=
  over
end Go.Proofs.Ytamookdlbmbncaa.fnExactCompareDecks
