/- For every list of cards, card and field, the law FnExactInsertCard returns true: impl.InsertCard answers as spec.InsertCard, in memory of its own, and leaves its arguments as they were. Condition: the table of places holds what the program's text lays in it (the card ties that). -/
import Derived.Test.YtamookdlbmbncabDoorG8
import Derived.Test.YtamookdlbmbncabDoorLaw
import Derived.Test.YtamookdlbmbncabDoorBoxed
import Derived.Test.YtamookdlbmbncabDoorCardAt
import Derived.Deep.RegionHeld3
import Derived.Deep.DeepCutAuto
import Derived.Laws.NewDeep
import Derived.Test.YtamookdlbmbncabDoorLawDeck
import Derived.Test.YtamookdlbmbncabDoorDeckMem
import Derived.Test.YtamookdlbmbncabDoorPart
import Derived.Test.YtamookdlbmbncabDoorCards
import Derived.Test.YtamookdlbmbncabDoorTie
import Derived.LaidMore
import Derived.OpenVars
import Derived.Stop.Joined
namespace Go.Proofs.YtamookdlbmbncabDoor.fnExactInsertCard
open Go.ChangeShapes Go.WideShapes Go.ChangeAt Go.RowKit

theorem walk_big0 (A0 : Option Addr) (c0 : Nat) (D0 : List CardV) (A1 : Option Addr) (c1 : Nat) (X1 : List Int) (a2 b2 : Int) (w : World) (h0 : Deck w w.heap.size A0 D0) (l0 : D0.length ≤ 9223372036854775807 ∧ ∀ d ∈ D0, d.xs.length ≤ 9223372036854775807)  (hbig : 1048576 < (szTo D0 D0.length : Int)) :
    Calls Tryd.prog 3 #[.slice A0 D0.length c0, .agg #[.slice A1 X1.length c1], .agg #[.int .i64 a2, .int .i64 b2]] w fun e w' => e = .returned (.bool true) ∧ Below w.heap.size w w' := by
  have z0 := fun W (hW : Below w.heap.size w W) => szCards_big A0 c0 D0 (1048576) w.heap.size W (h0.below hW) hW.size (by omega) (by omega) l0.1 l0.2 (by omega)
  obtain ⟨n1, hn1⟩ : ∃ n, X1.length = n := ⟨_, rfl⟩
  rw [hn1]
  obtain ⟨t0, ht0⟩ : ∃ t, szTo D0 D0.length = t := ⟨_, rfl⟩
  rw [ht0] at hbig
  obtain ⟨n0, hn0⟩ : ∃ n, D0.length = n := ⟨_, rfl⟩
  simp only [hn0] at z0 ⊢
  have Z0 := Lib.hid z0
  clear z0 hn0 hn1 ht0 h0 l0
  go_enter Tryd.func3, Tryd.ntmps3
  go_wp2_with fail
  refine (Z0.out _ ((below_box w _).alloc (by simp <;> omega) _)).mono ?_
  rintro e w1 ⟨rfl, hb⟩
  have B_1 := Lib.hid (below_step ((below_box w _).alloc (by simp <;> omega) _) hb)
  have a1_1 := cell_kept (p := ⟨w.heap.size, 0, none⟩) (v := .slice A1 n1 c1) (by simp [go_sem]) hb
  have f2a_1 := cell_kept (p := ⟨w.heap.size + 1, 0, none⟩) (v := .int .i64 a2) (by simp [go_sem]) hb
  have f2b_1 := cell_kept (p := ⟨w.heap.size + 1, 1, none⟩) (v := .int .i64 b2) (by simp [go_sem]) hb
  have S_1 : Hid (w.heap.size + 2 ≤ w1.heap.size) := by show _ ≤ _; have := hb.size; simpa using this
  clear hb
  go_wp2
  go_ret
  exact ⟨rfl, B_1.out⟩

theorem walk_big1 (A0 : Option Addr) (c0 : Nat) (D0 : List CardV) (A1 : Option Addr) (c1 : Nat) (X1 : List Int) (a2 b2 : Int) (w : World) (h0 : Deck w w.heap.size A0 D0) (h1 : Ints w w.heap.size A1 X1) (l1 : X1.length ≤ 9223372036854775807) (hs : (szTo D0 D0.length : Int) ≤ 1048576) (hbig : 1048576 < (szTo D0 D0.length : Int) + (X1.length : Int)) :
    Calls Tryd.prog 3 #[.slice A0 D0.length c0, .agg #[.slice A1 X1.length c1], .agg #[.int .i64 a2, .int .i64 b2]] w fun e w' => e = .returned (.bool true) ∧ Below w.heap.size w w' := by
  have z0 := fun W (hW : Below w.heap.size w W) => szCards_small A0 c0 D0 (1048576) w.heap.size W (h0.below hW) hW.size (by omega) (by omega)
  have z1 := fun (W : World) (_ : Below w.heap.size w W) => szCard_any A1 X1.length c1 (1048576 - (szTo D0 D0.length : Int)) W (by omega) (by omega) (by omega)
  have e1 : (if (1048576 - (szTo D0 D0.length : Int)) < (X1.length : Int) then (-1 : Int) else 1048576 - (szTo D0 D0.length : Int) - X1.length) = -1 := if_pos (by omega)
  simp only [e1] at z1
  clear e1
  obtain ⟨t0, ht0⟩ : ∃ t, szTo D0 D0.length = t := ⟨_, rfl⟩
  rw [ht0] at hbig hs
  simp only [ht0] at z0 z1
  obtain ⟨n0, hn0⟩ : ∃ n, D0.length = n := ⟨_, rfl⟩
  simp only [hn0] at z0 ⊢
  obtain ⟨n1, hn1⟩ : ∃ n, X1.length = n := ⟨_, rfl⟩
  rw [hn1] at hbig
  simp only [hn1] at z1 ⊢
  have Z0 := Lib.hid z0
  have Z1 := Lib.hid z1
  have g0 : ¬ 1048576 - (t0 : Int) < 0 := by omega
  clear z0 z1 hn0 hn1 ht0 h0 h1 l1
  go_enter Tryd.func3, Tryd.ntmps3
  go_wp2_with fail
  refine (Z0.out _ ((below_box w _).alloc (by simp <;> omega) _)).mono ?_
  rintro e w1 ⟨rfl, hb⟩
  have B_1 := Lib.hid (below_step ((below_box w _).alloc (by simp <;> omega) _) hb)
  have a1_1 := cell_kept (p := ⟨w.heap.size, 0, none⟩) (v := .slice A1 n1 c1) (by simp [go_sem]) hb
  have f2a_1 := cell_kept (p := ⟨w.heap.size + 1, 0, none⟩) (v := .int .i64 a2) (by simp [go_sem]) hb
  have f2b_1 := cell_kept (p := ⟨w.heap.size + 1, 1, none⟩) (v := .int .i64 b2) (by simp [go_sem]) hb
  have S_1 : Hid (w.heap.size + 2 ≤ w1.heap.size) := by show _ ≤ _; have := hb.size; simpa using this
  clear hb
  go_wp2_with fail
  refine (Z1.out _ B_1.out).mono ?_
  rintro e w2 ⟨rfl, hb⟩
  have B_2 := Lib.hid (below_step B_1.out hb)
  have a1_2 := cell_kept a1_1 hb
  have f2a_2 := cell_kept f2a_1 hb
  have f2b_2 := cell_kept f2b_1 hb
  have S_2 : Hid (w1.heap.size ≤ w2.heap.size) := hb.size
  clear hb B_1 a1_1 f2a_1 f2b_1
  go_wp2
  go_ret
  exact ⟨rfl, B_2.out⟩

set_option maxRecDepth 100000 in
set_option maxHeartbeats 8000000 in
theorem walk_small (A0 : Option Addr) (c0 : Nat) (D0 : List CardV) (A1 : Option Addr) (c1 : Nat) (X1 : List Int) (a2 b2 : Int) (X : List (List Int)) (v : Int) (w : World) (h0 : Deck w w.heap.size A0 D0) (h1 : Ints w w.heap.size A1 X1) (hs : (szTo D0 D0.length : Int) + (X1.length : Int) ≤ 1048576) (hx : X.length ≤ 1048576) (hxt : totH X ≤ 1048576)
    (hv : ∀ (W : World) (E0 : List CardV) (A0 : Option Addr) (B0 : Nat) (A1 : Option Addr) (B1 : Nat), Below w.heap.size w W → holes E0 = holes D0 → Deck W B0 A0 E0 → CapsEq E0 → B0 ≤ W.heap.size → Ints W B1 A1 X1 → B1 ≤ W.heap.size → Calls Tryd.prog 6 #[.slice A0 E0.length E0.length, .agg #[.slice A1 X1.length X1.length], .agg #[.int .i64 a2, .int .i64 b2]] W (GivesDC X v W))
    (hi : ∀ (W : World) (E0 : List CardV) (A0 : Option Addr) (B0 : Nat) (A1 : Option Addr) (B1 : Nat), Below w.heap.size w W → holes E0 = holes D0 → Deck W B0 A0 E0 → CapsEq E0 → B0 ≤ W.heap.size → Ints W B1 A1 X1 → B1 ≤ W.heap.size → Calls Tryd.prog 10 #[.slice A0 E0.length E0.length, .agg #[.slice A1 X1.length X1.length], .agg #[.int .i64 a2, .int .i64 b2]] W (GivesDC X v W)) :
    Calls Tryd.prog 3 #[.slice A0 D0.length c0, .agg #[.slice A1 X1.length c1], .agg #[.int .i64 a2, .int .i64 b2]] w fun e w' => e = .returned (.bool true) ∧ Below w.heap.size w w' := by
  have z0 := fun W (hW : Below w.heap.size w W) => szCards_small A0 c0 D0 (1048576) w.heap.size W (h0.below hW) hW.size (by omega) (by omega)
  have hl0 : ∀ d ∈ D0, d.xs.length ≤ 1048576 := fun d hd => by have := szTo_each D0 d hd; omega
  have hm0 : D0.length ≤ 1048576 := by have := szTo_len D0; omega
  have hu0 : totH (holes D0) ≤ 1048576 := by have := szTo_totH D0; omega
  have t0 := fun W (hW : Below w.heap.size w W) => toCardsAt_any A0 c0 D0 w.heap.size W (h0.below hW) hW.size hm0 hl0
  have q0 : ∀ (W : World) (E F : List CardV) (A A' : Option Addr), holes E = holes D0 → holes F = holes D0 → Deck W W.heap.size A E → Deck W W.heap.size A' F → Calls Tryd.prog 11 #[.slice A D0.length D0.length, .slice A' D0.length D0.length] W fun e w' => e = .returned (.bool true) ∧ Below W.heap.size W w' := fun W E F A A' hE hF hO hP => by
    have hEn := holes_length hE
    have hFn := holes_length hF
    have := eqCards_any A A' D0.length D0.length E F W.heap.size W.heap.size W hO hP (Nat.le_refl _) (Nat.le_refl _) (by omega) (by omega) (holes_each hE hl0) (holes_each hF hl0)
    rw [hE, hF, hEn, hFn] at this
    simpa using this
  have r0 : ∀ (W : World) (E : List CardV) (A : Option Addr) (lo hi : Nat) (k : Int), holes E = holes D0 → 0 ≤ k → k ≤ 4194304 → DeckAt W lo hi A E → Calls Tryd.prog 13 #[.slice A D0.length D0.length, .int .i64 k] W fun e w' => e = .returned (.int .i64 (k + totH (holes D0))) ∧ Within lo hi W w' ∧ DeckAt w' lo hi A (markTo E k E.length) := fun W E A lo hi k hE h0 h1 hO => by
    have := markDeck_any A D0.length E (holes D0) lo hi k W hE hO h0 h1 (by rw [holes_len]; exact hm0) hu0
    rw [holes_len] at this
    exact this
  have z1 := fun (W : World) (_ : Below w.heap.size w W) => szCard_any A1 X1.length c1 (1048576 - (szTo D0 D0.length : Int)) W (by omega) (by omega) (by omega)
  have e1 : (if (1048576 - (szTo D0 D0.length : Int)) < (X1.length : Int) then (-1 : Int) else 1048576 - (szTo D0 D0.length : Int) - X1.length) = 1048576 - (szTo D0 D0.length : Int) - X1.length := if_neg (by omega)
  simp only [e1] at z1
  clear e1
  have hm1 : X1.length ≤ 1048576 := by omega
  have t1 := fun W (hW : Below w.heap.size w W) => toCardAt_any A1 c1 X1 w.heap.size W (h1.below hW) hW.size hm1
  have q1 := fun A A' W (hA : Ints W W.heap.size A X1) (hA' : Ints W W.heap.size A' X1) => eqCardAt_any A A' X1.length X1.length X1 W hA hA' hm1
  have r1 := fun A lo hi W (k : Int) (h0 : 0 ≤ k) (h1 : k ≤ 4194304) (hA : IAt W lo hi A X1) => markCardAt_any A X1.length X1 lo hi k W hA h0 h1 hm1
  have xe : ∀ (W : World) (E F : List CardV) (A A' : Option Addr) (c c' : Nat), holes E = X → holes F = X → Deck W W.heap.size A E → Deck W W.heap.size A' F → Calls Tryd.prog 11 #[.slice A X.length c, .slice A' X.length c'] W fun e w' => e = .returned (.bool true) ∧ Below W.heap.size W w' := fun W E F A A' c c' hE hF hO hP => by
    have hEn : E.length = X.length := by rw [← hE, holes_len]
    have hFn : F.length = X.length := by rw [← hF, holes_len]
    have := eqCards_any A A' c c' E F W.heap.size W.heap.size W hO hP (Nat.le_refl _) (Nat.le_refl _) (by omega) (by omega) (totH_deck hE hxt) (totH_deck hF hxt)
    rw [hE, hF, hEn, hFn] at this
    simpa using this
  have xm := fun A c E lo hi W (hE : holes E = X) (h : DeckAt W lo hi A E) => markDeck_any A c E X lo hi 1 W hE h (by omega) (by omega) hx hxt
  have xh := fun A c E lo hi W (hE : holes E = X) (h : DeckAt W lo hi A (markTo E 1 E.length)) => heldDeck_any A c E X lo hi 1 W hE h (by omega) (by omega) hx hxt
  have gx : ¬ 1 + (totH X : Int) < 0 := by omega
  have cv : ∀ (W : World) (E0 : List CardV) (g0 lo0 hi0 : Nat) (g1 lo1 hi1 : Nat), Below w.heap.size w W → holes E0 = holes D0 → CapsEq E0 → DeckAt W lo0 hi0 (some ⟨g0, 0, none⟩) E0 → IAt W lo1 hi1 (some ⟨g1, 0, none⟩) X1 → Calls Tryd.prog 6 #[.slice (some ⟨g0, 0, none⟩) D0.length D0.length, .agg #[.slice (some ⟨g1, 0, none⟩) X1.length X1.length], .agg #[.int .i64 a2, .int .i64 b2]] W (GivesDC X v W) := fun W E0 g0 lo0 hi0 g1 lo1 hi1 hW hE0 hC0 hO0 hO1 => by
    have := hv W E0 (some ⟨g0, 0, none⟩) W.heap.size (some ⟨g1, 0, none⟩) W.heap.size hW hE0 hO0.deck hC0 (Nat.le_refl _) hO1.ints (Nat.le_refl _)
    rw [holes_length hE0] at this
    exact this
  have ci : ∀ (W : World) (E0 : List CardV) (g0 lo0 hi0 : Nat) (g1 lo1 hi1 : Nat), Below w.heap.size w W → holes E0 = holes D0 → CapsEq E0 → DeckAt W lo0 hi0 (some ⟨g0, 0, none⟩) E0 → IAt W lo1 hi1 (some ⟨g1, 0, none⟩) X1 → Calls Tryd.prog 10 #[.slice (some ⟨g0, 0, none⟩) D0.length D0.length, .agg #[.slice (some ⟨g1, 0, none⟩) X1.length X1.length], .agg #[.int .i64 a2, .int .i64 b2]] W (GivesDC X v W) := fun W E0 g0 lo0 hi0 g1 lo1 hi1 hW hE0 hC0 hO0 hO1 => by
    have := hi W E0 (some ⟨g0, 0, none⟩) W.heap.size (some ⟨g1, 0, none⟩) W.heap.size hW hE0 hO0.deck hC0 (Nat.le_refl _) hO1.ints (Nat.le_refl _)
    rw [holes_length hE0] at this
    exact this
  have gn0 : totH (holes D0) = 0 ∨ 0 < szTo D0 D0.length := by have := szTo_totH D0; omega
  have gt0 := szTo_totH D0
  obtain ⟨s0, hs0⟩ : ∃ s, szTo D0 D0.length = s := ⟨_, rfl⟩
  simp only [hs0] at hs gn0 gt0 z0 z1
  obtain ⟨n0, hn0⟩ : ∃ n, D0.length = n := ⟨_, rfl⟩
  simp only [hn0] at z0 gt0 t0 q0 r0 cv ci ⊢
  obtain ⟨u0, hU0⟩ : ∃ u, totH (holes D0) = u := ⟨_, rfl⟩
  simp only [hU0] at r0 gn0 gt0
  obtain ⟨n1, hn1⟩ : ∃ n, X1.length = n := ⟨_, rfl⟩
  simp only [hn1] at z1 t1 q1 r1 cv ci hs ⊢
  have Z0 := Lib.hid z0
  have T0 := Lib.hid t0
  have Q0 := Lib.hid q0
  have R0 := Lib.hid r0
  have Z1 := Lib.hid z1
  have T1 := Lib.hid t1
  have Q1 := Lib.hid q1
  have R1 := Lib.hid r1
  have XE := Lib.hid xe
  have XM := Lib.hid xm
  have XH := Lib.hid xh
  have CV := Lib.hid cv
  have CI := Lib.hid ci
  have g0 : ¬ 1048576 - (s0 : Int) < 0 := by omega
  have g1 : ¬ 1048576 - (s0 : Int) - (n1 : Int) < 0 := by omega
  have kb0 : 0 ≤ (1 : Int) ∧ (1 : Int) ≤ 4194304 := by omega
  have kb1 : 0 ≤ 1 + (u0 : Int) ∧ 1 + (u0 : Int) ≤ 4194304 := by omega
  have gk : ¬ 1 + (u0 : Int) + (n1 : Int) < 0 := by omega
  clear cv ci hv hi xe xm xh z0 t0 q0 r0 hn0 h0 hm0 hs0 hl0 hu0 hU0 gn0 gt0 z1 t1 q1 r1 hn1 h1 hm1
  go_enter Tryd.func3, Tryd.ntmps3
  go_wp2_with fail
  refine (Z0.out _ ((below_box w _).alloc (by simp <;> omega) _)).mono ?_
  rintro e w1 ⟨rfl, hb⟩
  have B_1 := Lib.hid (below_step ((below_box w _).alloc (by simp <;> omega) _) hb)
  have a1_1 := cell_kept (p := ⟨w.heap.size, 0, none⟩) (v := .slice A1 n1 c1) (by simp [go_sem]) hb
  have f2a_1 := cell_kept (p := ⟨w.heap.size + 1, 0, none⟩) (v := .int .i64 a2) (by simp [go_sem]) hb
  have f2b_1 := cell_kept (p := ⟨w.heap.size + 1, 1, none⟩) (v := .int .i64 b2) (by simp [go_sem]) hb
  have S_1 : Hid (w.heap.size + 2 ≤ w1.heap.size) := by show _ ≤ _; have := hb.size; simpa using this
  clear hb
  go_wp2_with fail
  refine (Z1.out _ B_1.out).mono ?_
  rintro e w2 ⟨rfl, hb⟩
  have B_2 := Lib.hid (below_step B_1.out hb)
  have a1_2 := cell_kept a1_1 hb
  have f2a_2 := cell_kept f2a_1 hb
  have f2b_2 := cell_kept f2b_1 hb
  have S_2 : Hid (w1.heap.size ≤ w2.heap.size) := hb.size
  clear hb B_1 a1_1 f2a_1 f2b_1
  go_upto_region 8 with fail
  go_cut [8, 9] (fun s0 s1 wx => ∃ A c E, s0 = .slice A X.length c ∧ s1 = .int .i64 v ∧ holes E = X ∧ Below w2.heap.size w2 wx ∧ DeckAt wx w2.heap.size wx.heap.size A E)
  case first =>
    have HS : Hid (Below w2.drew.heap.size w2.drew w2.drew) := Below.refl _ _
    have HC : Hid (Below w.heap.size w w2.drew) := B_2.out.drew
    go_region_held3 (fun W => W.cell? ⟨w.heap.size, 0, none⟩ = some (.slice A1 n1 c1) ∧ W.cell? ⟨w.heap.size + 1, 0, none⟩ = some (.int .i64 a2) ∧ W.cell? ⟨w.heap.size + 1, 1, none⟩ = some (.int .i64 b2))
      (first | exact ⟨cell_kept (w := w2.drew) a1_2 HS.out, cell_kept (w := w2.drew) f2a_2 HS.out, cell_kept (w := w2.drew) f2b_2 HS.out⟩ | go_keep)
      (first
        | (go_at_call 7
           refine (T0.out _ HC.out).mono ?_
           rintro e wz ⟨gw0, Ew0, hE, rfl, hb, ho, hC⟩
           have HC := Lib.hid (below_step HC.out hb)
           have HS := Lib.hid (below_step HS.out hb)
           try (have O_w1 := Lib.hid (O_w1.out.later hb))
           have O_w0 := Lib.hid ho
           have XE_w0 := Lib.hid hE
           have XC_w0 := Lib.hid hC
           clear hb ho hE hC)
        | (go_at_call 8
           refine (T1.out _ HC.out).mono ?_
           rintro e wz ⟨gw1, rfl, hb, ho⟩
           have HC := Lib.hid (below_step HC.out hb)
           have HS := Lib.hid (below_step HS.out hb)
           try (have O_w0 := Lib.hid (O_w0.out.later hb))
           have O_w1 := Lib.hid ho
           clear hb ho)
        | (go_at_call 9
           refine (toField_any a2 b2 _).mono ?_
           rintro e wz ⟨rfl, hb⟩
           have HC := Lib.hid (below_step HC.out hb)
           have HS := Lib.hid (below_step HS.out hb)
           try (have O_w0 := Lib.hid (O_w0.out.later hb))
           try (have O_w1 := Lib.hid (O_w1.out.later hb))
           clear hb)
        | (go_at_call 6
           refine (CV.out _ Ew0 _ _ _ _ _ _ HC.out XE_w0.out XC_w0.out O_w0.out O_w1.out).mono ?_
           rintro e wz ⟨AW, cW, EW, rfl, hE, hb, ho⟩
           have O_W := Lib.hid (ho.widen HS.out.size (Nat.le_refl _) (Nat.le_refl _))
           have XE_W := Lib.hid hE
           have HC := Lib.hid (below_step HC.out hb)
           have HS := Lib.hid (below_step HS.out hb)
           try (have O_w0 := Lib.hid (O_w0.out.later hb))
           try (have O_w1 := Lib.hid (O_w1.out.later hb))
           clear hb ho hE))
    all_goals (go_wp2_with fail; go_meet; exact ⟨_, _, _, rfl, rfl, XE_W.out, below_step (below_drew (Below.refl _ _)) HS.out, O_W.out⟩)
  case rest =>
    obtain ⟨AW, cW, EW, rfl, rfl, hE, hb, ho⟩ := hcut
    rename World => w3
    have B_3 := Lib.hid (below_step B_2.out hb)
    have a1_3 := cell_kept a1_2 hb
    have f2a_3 := cell_kept f2a_2 hb
    have f2b_3 := cell_kept f2b_2 hb
    have S_3 : Hid (w2.heap.size ≤ w3.heap.size) := hb.size
    have W_3 := Lib.hid ho
    clear hb ho B_2 a1_2 f2a_2 f2b_2
    have XE_W := Lib.hid hE
    clear hE
    go_wp2_with fail
    refine (T0.out _ B_3.out).mono ?_
    rintro e w4 ⟨gx0, Ex0, hE, rfl, hb, ho, hC⟩
    have B_4 := Lib.hid (below_step B_3.out hb)
    have a1_4 := cell_kept a1_3 hb
    have f2a_4 := cell_kept f2a_3 hb
    have f2b_4 := cell_kept f2b_3 hb
    have W_4 := Lib.hid (W_3.out.later hb)
    have S_4 : Hid (w3.heap.size ≤ w4.heap.size) := hb.size
    have x0_4 := Lib.hid ho
    clear hb ho B_3 a1_3 f2a_3 f2b_3 W_3
    have XE_x0 := Lib.hid hE
    have XC_x0 := Lib.hid hC
    clear hE hC
    go_wp2_with fail
    refine (T1.out _ B_4.out).mono ?_
    rintro e w5 ⟨gx1, rfl, hb, ho⟩
    have B_5 := Lib.hid (below_step B_4.out hb)
    have a1_5 := cell_kept a1_4 hb
    have f2a_5 := cell_kept f2a_4 hb
    have f2b_5 := cell_kept f2b_4 hb
    have W_5 := Lib.hid (W_4.out.later hb)
    have x0_5 := Lib.hid (x0_4.out.later hb)
    have S_5 : Hid (w4.heap.size ≤ w5.heap.size) := hb.size
    have x1_5 := Lib.hid ho
    clear hb ho B_4 a1_4 f2a_4 f2b_4 W_4 x0_4
    have hb := below_box w5 (.cells #[.slice (some ⟨gx1, 0, none⟩) n1 n1] 34)
    have hc := new_cell w5 (.slice (some ⟨gx1, 0, none⟩) n1 n1) 34
    obtain ⟨w6, hW6⟩ : ∃ W, w5.alloc (.cells #[.slice (some ⟨gx1, 0, none⟩) n1 n1] 34) = W := ⟨_, rfl⟩
    rw [hW6] at hb hc
    have B_6 := Lib.hid (below_step B_5.out hb)
    have a1_6 := cell_kept a1_5 hb
    have f2a_6 := cell_kept f2a_5 hb
    have f2b_6 := cell_kept f2b_5 hb
    have W_6 := Lib.hid (W_5.out.later hb)
    have x0_6 := Lib.hid (x0_5.out.later hb)
    have x1_6 := Lib.hid (x1_5.out.later hb)
    have S_6 : Hid (w5.heap.size ≤ w6.heap.size) := hb.size
    have bx1_6 := hc
    clear hb hc B_5 a1_5 f2a_5 f2b_5 W_5 x0_5 x1_5
    have Z_bx1 : Hid (w5.heap.size < w6.heap.size) := by show _ < _; rw [← hW6, World.size_alloc]; omega
    go_upto_region 11 with fail
    go_cut [12, 13] (fun s0 s1 wx => ∃ A c E, s0 = .slice A X.length c ∧ s1 = .int .i64 v ∧ holes E = X ∧ Below w6.heap.size w6 wx ∧ DeckAt wx w6.heap.size wx.heap.size A E)
    case first =>
      have HS : Hid (Below w6.drew.heap.size w6.drew w6.drew) := Below.refl _ _
      have HC : Hid (Below w.heap.size w w6.drew) := B_6.out.drew
      have O_x0 := Lib.hid x0_6.out.drew
      have O_x1 := Lib.hid x1_6.out.drew
      go_region_held3 (fun W => W.cell? ⟨w.heap.size, 0, none⟩ = some (.slice A1 n1 c1) ∧ W.cell? ⟨w.heap.size + 1, 0, none⟩ = some (.int .i64 a2) ∧ W.cell? ⟨w.heap.size + 1, 1, none⟩ = some (.int .i64 b2) ∧ W.cell? ⟨w5.heap.size, 0, none⟩ = some (.slice (some ⟨gx1, 0, none⟩) n1 n1))
        (first | exact ⟨cell_kept (w := w6.drew) a1_6 HS.out, cell_kept (w := w6.drew) f2a_6 HS.out, cell_kept (w := w6.drew) f2b_6 HS.out, cell_kept (w := w6.drew) bx1_6 HS.out⟩ | go_keep)
        (first
          | (go_at_call 9
             refine (toField_any a2 b2 _).mono ?_
             rintro e wz ⟨rfl, hb⟩
             have HC := Lib.hid (below_step HC.out hb)
             have HS := Lib.hid (below_step HS.out hb)
             try (have O_x0 := Lib.hid (O_x0.out.later hb))
             try (have O_x1 := Lib.hid (O_x1.out.later hb))
             clear hb)
          | (go_at_call 10
             refine (CI.out _ Ex0 _ _ _ _ _ _ HC.out XE_x0.out XC_x0.out O_x0.out O_x1.out).mono ?_
             rintro e wz ⟨AG, cG, EG, rfl, hE, hb, ho⟩
             have O_G := Lib.hid (ho.widen HS.out.size (Nat.le_refl _) (Nat.le_refl _))
             have XE_G := Lib.hid hE
             have HC := Lib.hid (below_step HC.out hb)
             have HS := Lib.hid (below_step HS.out hb)
             try (have O_x0 := Lib.hid (O_x0.out.later hb))
             try (have O_x1 := Lib.hid (O_x1.out.later hb))
             clear hb ho hE))
      all_goals (go_wp2_with fail; go_meet; exact ⟨_, _, _, rfl, rfl, XE_G.out, below_step (below_drew (Below.refl _ _)) HS.out, O_G.out⟩)
    case rest =>
      obtain ⟨AG, cG, EG, rfl, rfl, hE, hb, ho⟩ := hcut
      rename World => w7
      have B_7 := Lib.hid (below_step B_6.out hb)
      have a1_7 := cell_kept a1_6 hb
      have f2a_7 := cell_kept f2a_6 hb
      have f2b_7 := cell_kept f2b_6 hb
      have bx1_7 := cell_kept bx1_6 hb
      have W_7 := Lib.hid (W_6.out.later hb)
      have x0_7 := Lib.hid (x0_6.out.later hb)
      have x1_7 := Lib.hid (x1_6.out.later hb)
      have S_7 : Hid (w6.heap.size ≤ w7.heap.size) := hb.size
      have G_7 := Lib.hid ho
      clear hb ho B_6 a1_6 f2a_6 f2b_6 bx1_6 W_6 x0_6 x1_6
      have XE_G := Lib.hid hE
      clear hE
      go_wp2_with fail
      refine (XE.out _ EG EW _ _ _ _ XE_G.out XE_W.out G_7.out.deck W_7.out.deck).mono ?_
      rintro e w8 ⟨rfl, hb⟩
      have B_8 := Lib.hid (below_step B_7.out hb)
      have a1_8 := cell_kept a1_7 hb
      have f2a_8 := cell_kept f2a_7 hb
      have f2b_8 := cell_kept f2b_7 hb
      have bx1_8 := cell_kept bx1_7 hb
      have W_8 := Lib.hid (W_7.out.later hb)
      have x0_8 := Lib.hid (x0_7.out.later hb)
      have x1_8 := Lib.hid (x1_7.out.later hb)
      have G_8 := Lib.hid (G_7.out.later hb)
      have S_8 : Hid (w7.heap.size ≤ w8.heap.size) := hb.size
      clear hb B_7 a1_7 f2a_7 f2b_7 bx1_7 W_7 x0_7 x1_7 G_7
      go_wp2_with fail
      refine (T0.out _ B_8.out).mono ?_
      rintro e w9 ⟨gz0, Ez0, hE, rfl, hb, ho, hC⟩
      have B_9 := Lib.hid (below_step B_8.out hb)
      have a1_9 := cell_kept a1_8 hb
      have f2a_9 := cell_kept f2a_8 hb
      have f2b_9 := cell_kept f2b_8 hb
      have bx1_9 := cell_kept bx1_8 hb
      have W_9 := Lib.hid (W_8.out.later hb)
      have x0_9 := Lib.hid (x0_8.out.later hb)
      have x1_9 := Lib.hid (x1_8.out.later hb)
      have G_9 := Lib.hid (G_8.out.later hb)
      have S_9 : Hid (w8.heap.size ≤ w9.heap.size) := hb.size
      have z0_9 := Lib.hid ho
      clear hb ho B_8 a1_8 f2a_8 f2b_8 bx1_8 W_8 x0_8 x1_8 G_8
      have XE_z0 := Lib.hid hE
      clear hE hC
      go_wp2_with fail
      refine (Q0.out _ Ex0 Ez0 _ _ XE_x0.out XE_z0.out x0_9.out.deck z0_9.out.deck).mono ?_
      rintro e w10 ⟨rfl, hb⟩
      have B_10 := Lib.hid (below_step B_9.out hb)
      have a1_10 := cell_kept a1_9 hb
      have f2a_10 := cell_kept f2a_9 hb
      have f2b_10 := cell_kept f2b_9 hb
      have bx1_10 := cell_kept bx1_9 hb
      have W_10 := Lib.hid (W_9.out.later hb)
      have x0_10 := Lib.hid (x0_9.out.later hb)
      have x1_10 := Lib.hid (x1_9.out.later hb)
      have G_10 := Lib.hid (G_9.out.later hb)
      have z0_10 := Lib.hid (z0_9.out.later hb)
      have S_10 : Hid (w9.heap.size ≤ w10.heap.size) := hb.size
      clear hb B_9 a1_9 f2a_9 f2b_9 bx1_9 W_9 x0_9 x1_9 G_9 z0_9
      clear z0_10
      go_wp2
      go_region_held3 (fun W => W.cell? ⟨w5.heap.size, 0, none⟩ = some (.slice (some ⟨gx1, 0, none⟩) n1 n1) ∧ W.cell? ⟨w.heap.size, 0, none⟩ = some (.slice A1 n1 c1))
        (first | exact ⟨bx1_10, a1_10⟩ | exact ⟨bx1_11, a1_11⟩ | exact ⟨bx1_12, a1_12⟩)
        (first
          | (go_at_call 8
             refine (T1.out _ B_10.out.drew).mono ?_
             rintro e w11 ⟨gz1, rfl, hb, ho⟩
             have B_11 := Lib.hid (below_step B_10.out.drew hb)
             have a1_11 := cell_kept (w := w10.drew) a1_10 hb
             have f2a_11 := cell_kept (w := w10.drew) f2a_10 hb
             have f2b_11 := cell_kept (w := w10.drew) f2b_10 hb
             have bx1_11 := cell_kept (w := w10.drew) bx1_10 hb
             have W_11 := Lib.hid (W_10.out.drew.later hb)
             have x0_11 := Lib.hid (x0_10.out.drew.later hb)
             have x1_11 := Lib.hid (x1_10.out.drew.later hb)
             have G_11 := Lib.hid (G_10.out.drew.later hb)
             have S_11 : Hid (w10.heap.size ≤ w11.heap.size) := hb.size
             have z1_11 := Lib.hid ho
             clear hb ho)
          | (go_at_call 12
             refine (Q1.out _ _ _ x1_11.out.ints z1_11.out.ints).mono ?_
             rintro e w12 ⟨rfl, hb⟩
             have B_12 := Lib.hid (below_step B_11.out hb)
             have a1_12 := cell_kept a1_11 hb
             have f2a_12 := cell_kept f2a_11 hb
             have f2b_12 := cell_kept f2b_11 hb
             have bx1_12 := cell_kept bx1_11 hb
             have W_12 := Lib.hid (W_11.out.later hb)
             have x0_12 := Lib.hid (x0_11.out.later hb)
             have x1_12 := Lib.hid (x1_11.out.later hb)
             have G_12 := Lib.hid (G_11.out.later hb)
             have z1_12 := Lib.hid (z1_11.out.later hb)
             have S_12 : Hid (w11.heap.size ≤ w12.heap.size) := hb.size
             clear hb))
      clear B_10 a1_10 f2a_10 f2b_10 bx1_10 W_10 x0_10 x1_10 G_10 B_11 a1_11 f2a_11 f2b_11 bx1_11 W_11 x0_11 x1_11 G_11 z1_11
      clear z1_12
      go_wp2_with fail
      refine (R0.out _ Ex0 _ _ _ _ XE_x0.out kb0.1 kb0.2 x0_12.out).mono ?_
      rintro e w13 ⟨rfl, hw, hrow⟩
      have B_13 := Lib.hid (below_within B_12.out hw (by have z1 := S_1.out; have z2 := S_2.out; have z3 := S_3.out; have z4 := S_4.out; have z5 := S_5.out; have z6 := S_6.out; have z7 := S_7.out; have z8 := S_8.out; have z9 := S_9.out; have z10 := S_10.out; have z11 := S_11.out; have z12 := S_12.out; omega))
      have a1_13 := hw.cell a1_12 (by show w.heap.size < _ ∨ _ ≤ w.heap.size; have z1 := S_1.out; have z2 := S_2.out; have z3 := S_3.out; have z4 := S_4.out; have z5 := S_5.out; have z6 := S_6.out; have z7 := S_7.out; have z8 := S_8.out; have z9 := S_9.out; have z10 := S_10.out; have z11 := S_11.out; have z12 := S_12.out; omega)
      have f2a_13 := hw.cell f2a_12 (by show w.heap.size + 1 < _ ∨ _ ≤ w.heap.size + 1; have z1 := S_1.out; have z2 := S_2.out; have z3 := S_3.out; have z4 := S_4.out; have z5 := S_5.out; have z6 := S_6.out; have z7 := S_7.out; have z8 := S_8.out; have z9 := S_9.out; have z10 := S_10.out; have z11 := S_11.out; have z12 := S_12.out; omega)
      have f2b_13 := hw.cell f2b_12 (by show w.heap.size + 1 < _ ∨ _ ≤ w.heap.size + 1; have z1 := S_1.out; have z2 := S_2.out; have z3 := S_3.out; have z4 := S_4.out; have z5 := S_5.out; have z6 := S_6.out; have z7 := S_7.out; have z8 := S_8.out; have z9 := S_9.out; have z10 := S_10.out; have z11 := S_11.out; have z12 := S_12.out; omega)
      have bx1_13 := hw.cell bx1_12 (by show w5.heap.size < _ ∨ _ ≤ w5.heap.size; have zz := Z_bx1.out; have z1 := S_1.out; have z2 := S_2.out; have z3 := S_3.out; have z4 := S_4.out; have z5 := S_5.out; have z6 := S_6.out; have z7 := S_7.out; have z8 := S_8.out; have z9 := S_9.out; have z10 := S_10.out; have z11 := S_11.out; have z12 := S_12.out; omega)
      have W_13 := Lib.hid (W_12.out.within hw (Or.inl (by have z1 := S_1.out; have z2 := S_2.out; have z3 := S_3.out; have z4 := S_4.out; have z5 := S_5.out; have z6 := S_6.out; have z7 := S_7.out; have z8 := S_8.out; have z9 := S_9.out; have z10 := S_10.out; have z11 := S_11.out; have z12 := S_12.out; omega)))
      have x0_13 := Lib.hid hrow
      have x1_13 := Lib.hid (x1_12.out.within hw (Or.inr (by have z1 := S_1.out; have z2 := S_2.out; have z3 := S_3.out; have z4 := S_4.out; have z5 := S_5.out; have z6 := S_6.out; have z7 := S_7.out; have z8 := S_8.out; have z9 := S_9.out; have z10 := S_10.out; have z11 := S_11.out; have z12 := S_12.out; omega)))
      have G_13 := Lib.hid (G_12.out.within hw (Or.inr (by have z1 := S_1.out; have z2 := S_2.out; have z3 := S_3.out; have z4 := S_4.out; have z5 := S_5.out; have z6 := S_6.out; have z7 := S_7.out; have z8 := S_8.out; have z9 := S_9.out; have z10 := S_10.out; have z11 := S_11.out; have z12 := S_12.out; omega)))
      have S_13 : Hid (w12.heap.size ≤ w13.heap.size) := hw.size
      clear hw hrow B_12 a1_12 f2a_12 f2b_12 bx1_12 W_12 x0_12 x1_12 G_12
      go_wp2_with fail
      refine (R1.out _ _ _ _ _ kb1.1 kb1.2 x1_13.out).mono ?_
      rintro e w14 ⟨rfl, hw, hrow⟩
      have B_14 := Lib.hid (below_within B_13.out hw (by have z1 := S_1.out; have z2 := S_2.out; have z3 := S_3.out; have z4 := S_4.out; have z5 := S_5.out; have z6 := S_6.out; have z7 := S_7.out; have z8 := S_8.out; have z9 := S_9.out; have z10 := S_10.out; have z11 := S_11.out; have z12 := S_12.out; have z13 := S_13.out; omega))
      have a1_14 := hw.cell a1_13 (by show w.heap.size < _ ∨ _ ≤ w.heap.size; have z1 := S_1.out; have z2 := S_2.out; have z3 := S_3.out; have z4 := S_4.out; have z5 := S_5.out; have z6 := S_6.out; have z7 := S_7.out; have z8 := S_8.out; have z9 := S_9.out; have z10 := S_10.out; have z11 := S_11.out; have z12 := S_12.out; have z13 := S_13.out; omega)
      have f2a_14 := hw.cell f2a_13 (by show w.heap.size + 1 < _ ∨ _ ≤ w.heap.size + 1; have z1 := S_1.out; have z2 := S_2.out; have z3 := S_3.out; have z4 := S_4.out; have z5 := S_5.out; have z6 := S_6.out; have z7 := S_7.out; have z8 := S_8.out; have z9 := S_9.out; have z10 := S_10.out; have z11 := S_11.out; have z12 := S_12.out; have z13 := S_13.out; omega)
      have f2b_14 := hw.cell f2b_13 (by show w.heap.size + 1 < _ ∨ _ ≤ w.heap.size + 1; have z1 := S_1.out; have z2 := S_2.out; have z3 := S_3.out; have z4 := S_4.out; have z5 := S_5.out; have z6 := S_6.out; have z7 := S_7.out; have z8 := S_8.out; have z9 := S_9.out; have z10 := S_10.out; have z11 := S_11.out; have z12 := S_12.out; have z13 := S_13.out; omega)
      have bx1_14 := hw.cell bx1_13 (by show w5.heap.size < _ ∨ _ ≤ w5.heap.size; have zz := Z_bx1.out; have z1 := S_1.out; have z2 := S_2.out; have z3 := S_3.out; have z4 := S_4.out; have z5 := S_5.out; have z6 := S_6.out; have z7 := S_7.out; have z8 := S_8.out; have z9 := S_9.out; have z10 := S_10.out; have z11 := S_11.out; have z12 := S_12.out; have z13 := S_13.out; omega)
      have W_14 := Lib.hid (W_13.out.within hw (Or.inl (by have z1 := S_1.out; have z2 := S_2.out; have z3 := S_3.out; have z4 := S_4.out; have z5 := S_5.out; have z6 := S_6.out; have z7 := S_7.out; have z8 := S_8.out; have z9 := S_9.out; have z10 := S_10.out; have z11 := S_11.out; have z12 := S_12.out; have z13 := S_13.out; omega)))
      have x0_14 := Lib.hid (x0_13.out.within hw (Or.inl (by have z1 := S_1.out; have z2 := S_2.out; have z3 := S_3.out; have z4 := S_4.out; have z5 := S_5.out; have z6 := S_6.out; have z7 := S_7.out; have z8 := S_8.out; have z9 := S_9.out; have z10 := S_10.out; have z11 := S_11.out; have z12 := S_12.out; have z13 := S_13.out; omega)))
      have x1_14 := Lib.hid hrow
      have G_14 := Lib.hid (G_13.out.within hw (Or.inr (by have z1 := S_1.out; have z2 := S_2.out; have z3 := S_3.out; have z4 := S_4.out; have z5 := S_5.out; have z6 := S_6.out; have z7 := S_7.out; have z8 := S_8.out; have z9 := S_9.out; have z10 := S_10.out; have z11 := S_11.out; have z12 := S_12.out; have z13 := S_13.out; omega)))
      have S_14 : Hid (w13.heap.size ≤ w14.heap.size) := hw.size
      clear hw hrow B_13 a1_13 f2a_13 f2b_13 bx1_13 W_13 x0_13 x1_13 G_13
      go_wp2_with fail
      refine (XE.out _ EG EW _ _ _ _ XE_G.out XE_W.out G_14.out.deck W_14.out.deck).mono ?_
      rintro e w15 ⟨rfl, hb⟩
      have B_15 := Lib.hid (below_step B_14.out hb)
      have a1_15 := cell_kept a1_14 hb
      have f2a_15 := cell_kept f2a_14 hb
      have f2b_15 := cell_kept f2b_14 hb
      have bx1_15 := cell_kept bx1_14 hb
      have W_15 := Lib.hid (W_14.out.later hb)
      have x0_15 := Lib.hid (x0_14.out.later hb)
      have x1_15 := Lib.hid (x1_14.out.later hb)
      have G_15 := Lib.hid (G_14.out.later hb)
      have S_15 : Hid (w14.heap.size ≤ w15.heap.size) := hb.size
      clear hb B_14 a1_14 f2a_14 f2b_14 bx1_14 W_14 x0_14 x1_14 G_14
      clear x0_15
      clear x1_15
      go_wp2_with fail
      refine (XM.out _ _ EG _ _ _ XE_G.out G_15.out).mono ?_
      rintro e w16 ⟨rfl, hw, hrow⟩
      have B_16 := Lib.hid (below_within B_15.out hw (by have z1 := S_1.out; have z2 := S_2.out; have z3 := S_3.out; have z4 := S_4.out; have z5 := S_5.out; have z6 := S_6.out; have z7 := S_7.out; have z8 := S_8.out; have z9 := S_9.out; have z10 := S_10.out; have z11 := S_11.out; have z12 := S_12.out; have z13 := S_13.out; have z14 := S_14.out; have z15 := S_15.out; omega))
      have a1_16 := hw.cell a1_15 (by show w.heap.size < _ ∨ _ ≤ w.heap.size; have z1 := S_1.out; have z2 := S_2.out; have z3 := S_3.out; have z4 := S_4.out; have z5 := S_5.out; have z6 := S_6.out; have z7 := S_7.out; have z8 := S_8.out; have z9 := S_9.out; have z10 := S_10.out; have z11 := S_11.out; have z12 := S_12.out; have z13 := S_13.out; have z14 := S_14.out; have z15 := S_15.out; omega)
      have f2a_16 := hw.cell f2a_15 (by show w.heap.size + 1 < _ ∨ _ ≤ w.heap.size + 1; have z1 := S_1.out; have z2 := S_2.out; have z3 := S_3.out; have z4 := S_4.out; have z5 := S_5.out; have z6 := S_6.out; have z7 := S_7.out; have z8 := S_8.out; have z9 := S_9.out; have z10 := S_10.out; have z11 := S_11.out; have z12 := S_12.out; have z13 := S_13.out; have z14 := S_14.out; have z15 := S_15.out; omega)
      have f2b_16 := hw.cell f2b_15 (by show w.heap.size + 1 < _ ∨ _ ≤ w.heap.size + 1; have z1 := S_1.out; have z2 := S_2.out; have z3 := S_3.out; have z4 := S_4.out; have z5 := S_5.out; have z6 := S_6.out; have z7 := S_7.out; have z8 := S_8.out; have z9 := S_9.out; have z10 := S_10.out; have z11 := S_11.out; have z12 := S_12.out; have z13 := S_13.out; have z14 := S_14.out; have z15 := S_15.out; omega)
      have bx1_16 := hw.cell bx1_15 (by show w5.heap.size < _ ∨ _ ≤ w5.heap.size; have zz := Z_bx1.out; have z1 := S_1.out; have z2 := S_2.out; have z3 := S_3.out; have z4 := S_4.out; have z5 := S_5.out; have z6 := S_6.out; have z7 := S_7.out; have z8 := S_8.out; have z9 := S_9.out; have z10 := S_10.out; have z11 := S_11.out; have z12 := S_12.out; have z13 := S_13.out; have z14 := S_14.out; have z15 := S_15.out; omega)
      have W_16 := Lib.hid (W_15.out.within hw (Or.inl (by have z1 := S_1.out; have z2 := S_2.out; have z3 := S_3.out; have z4 := S_4.out; have z5 := S_5.out; have z6 := S_6.out; have z7 := S_7.out; have z8 := S_8.out; have z9 := S_9.out; have z10 := S_10.out; have z11 := S_11.out; have z12 := S_12.out; have z13 := S_13.out; have z14 := S_14.out; have z15 := S_15.out; omega)))
      have G_16 := Lib.hid hrow
      have S_16 : Hid (w15.heap.size ≤ w16.heap.size) := hw.size
      clear hw hrow B_15 a1_15 f2a_15 f2b_15 bx1_15 W_15 G_15
      go_wp2_with fail
      refine (XH.out _ _ EG _ _ _ XE_G.out G_16.out).mono ?_
      rintro e w17 ⟨rfl, rfl⟩
      go_upto_region 31 with fail
      go_cut [17, 18] (fun s0 s1 wx => ∃ A c E, s0 = .slice A X.length c ∧ s1 = .int .i64 v ∧ holes E = X ∧ Below w16.heap.size w16 wx ∧ DeckAt wx w16.heap.size wx.heap.size A E)
      case first =>
        have HS : Hid (Below w16.drew.heap.size w16.drew w16.drew) := Below.refl _ _
        have HC : Hid (Below w.heap.size w w16.drew) := B_16.out.drew
        go_region_held3 (fun W => W.cell? ⟨w.heap.size, 0, none⟩ = some (.slice A1 n1 c1) ∧ W.cell? ⟨w.heap.size + 1, 0, none⟩ = some (.int .i64 a2) ∧ W.cell? ⟨w.heap.size + 1, 1, none⟩ = some (.int .i64 b2))
          (first | exact ⟨cell_kept (w := w16.drew) a1_16 HS.out, cell_kept (w := w16.drew) f2a_16 HS.out, cell_kept (w := w16.drew) f2b_16 HS.out⟩ | go_keep)
          (first
            | (go_at_call 7
               refine (T0.out _ HC.out).mono ?_
               rintro e wz ⟨gv0, Ev0, hE, rfl, hb, ho, hC⟩
               have HC := Lib.hid (below_step HC.out hb)
               have HS := Lib.hid (below_step HS.out hb)
               try (have O_v1 := Lib.hid (O_v1.out.later hb))
               have O_v0 := Lib.hid ho
               have XE_v0 := Lib.hid hE
               have XC_v0 := Lib.hid hC
               clear hb ho hE hC)
            | (go_at_call 8
               refine (T1.out _ HC.out).mono ?_
               rintro e wz ⟨gv1, rfl, hb, ho⟩
               have HC := Lib.hid (below_step HC.out hb)
               have HS := Lib.hid (below_step HS.out hb)
               try (have O_v0 := Lib.hid (O_v0.out.later hb))
               have O_v1 := Lib.hid ho
               clear hb ho)
            | (go_at_call 9
               refine (toField_any a2 b2 _).mono ?_
               rintro e wz ⟨rfl, hb⟩
               have HC := Lib.hid (below_step HC.out hb)
               have HS := Lib.hid (below_step HS.out hb)
               try (have O_v0 := Lib.hid (O_v0.out.later hb))
               try (have O_v1 := Lib.hid (O_v1.out.later hb))
               clear hb)
            | (go_at_call 10
               refine (CI.out _ Ev0 _ _ _ _ _ _ HC.out XE_v0.out XC_v0.out O_v0.out O_v1.out).mono ?_
               rintro e wz ⟨AH, cH, EH, rfl, hE, hb, ho⟩
               have O_H := Lib.hid (ho.widen HS.out.size (Nat.le_refl _) (Nat.le_refl _))
               have XE_H := Lib.hid hE
               have HC := Lib.hid (below_step HC.out hb)
               have HS := Lib.hid (below_step HS.out hb)
               try (have O_v0 := Lib.hid (O_v0.out.later hb))
               try (have O_v1 := Lib.hid (O_v1.out.later hb))
               clear hb ho hE))
        all_goals (go_wp2_with fail; go_meet; exact ⟨_, _, _, rfl, rfl, XE_H.out, below_step (below_drew (Below.refl _ _)) HS.out, O_H.out⟩)
      case rest =>
        obtain ⟨AH, cH, EH, rfl, rfl, hE, hb, ho⟩ := hcut
        rename World => w17
        have B_17 := Lib.hid (below_step B_16.out hb)
        have a1_17 := cell_kept a1_16 hb
        have f2a_17 := cell_kept f2a_16 hb
        have f2b_17 := cell_kept f2b_16 hb
        have bx1_17 := cell_kept bx1_16 hb
        have W_17 := Lib.hid (W_16.out.later hb)
        have G_17 := Lib.hid (G_16.out.later hb)
        have S_17 : Hid (w16.heap.size ≤ w17.heap.size) := hb.size
        have H_17 := Lib.hid ho
        clear hb ho B_16 a1_16 f2a_16 f2b_16 bx1_16 W_16 G_16
        have XE_H := Lib.hid hE
        clear hE
        go_wp2_with fail
        refine (XE.out _ EH EW _ _ _ _ XE_H.out XE_W.out H_17.out.deck W_17.out.deck).mono ?_
        rintro e w18 ⟨rfl, hb⟩
        have B_18 := Lib.hid (below_step B_17.out hb)
        have a1_18 := cell_kept a1_17 hb
        have f2a_18 := cell_kept f2a_17 hb
        have f2b_18 := cell_kept f2b_17 hb
        have bx1_18 := cell_kept bx1_17 hb
        have W_18 := Lib.hid (W_17.out.later hb)
        have G_18 := Lib.hid (G_17.out.later hb)
        have H_18 := Lib.hid (H_17.out.later hb)
        have S_18 : Hid (w17.heap.size ≤ w18.heap.size) := hb.size
        clear hb B_17 a1_17 f2a_17 f2b_17 bx1_17 W_17 G_17 H_17
        go_wp2_with fail
        refine (XH.out _ _ EG _ _ _ XE_G.out G_18.out).mono ?_
        rintro e w19 ⟨rfl, rfl⟩
        go_wp2
        go_ret
        exact ⟨rfl, B_18.out⟩

theorem gPlaces : Tryd.prog.globalNamed "loop.example/g01012/impl.places" = some 0 := by kernel_rfl
theorem gPlacesType : (Tryd.prog.globals[0]?).map (·.type) = some 112 := by kernel_rfl
/-- What the row's list gives: each cell of the table. -/
theorem places_of {W : World} (h : laidMetH Tryd.prog Rows.fnExactInsertCardRow.laid W) : Places W := by
  have h' : laidMet Tryd.prog (("loop.example/g01012/impl.places", Lib.tabData .i8 placesL) :: []) W := h
  have ht := Lib.tabIs_of_head gPlaces gPlacesType Tryd.underlying112 Tryd.underlying111 (by kernel_rfl) (by kernel_rfl) h'
  exact fun i hi => ht.cell gPlaces i hi

theorem walk (A0 : Option Addr) (c0 : Nat) (D0 : List CardV) {y0 : World} (h0 : Deck y0 y0.heap.size A0 D0) (l0 : D0.length ≤ 9223372036854775807 ∧ ∀ d ∈ D0, d.xs.length ≤ 9223372036854775807) (A1 : Option Addr) (c1 : Nat) (X1 : List Int) {y1 : World} (h1 : Ints y1 y1.heap.size A1 X1) (l1 : X1.length ≤ 9223372036854775807) (_ : ∀ n ∈ X1, (Lit.int .i64 n).wf = true) (a2 b2 : Int) (_ : (Lit.int .i64 a2).wf = true) (_ : (Lit.int .i64 b2).wf = true) (w : World) (e0 : y0 = w) (e1 : y1 = w) (hL : laidMetH Tryd.prog Rows.fnExactInsertCardRow.laid w) :
    Calls Tryd.prog 3 #[.slice A0 D0.length c0, .agg #[.slice A1 X1.length c1], .agg #[.int .i64 a2, .int .i64 b2]] w fun e w' => e = .returned (.bool true) ∧ Below w.heap.size w w' := by
  subst e0
  subst e1
  have hP := places_of hL
  by_cases hb0 : 1048576 < (szTo D0 D0.length : Int)
  · exact walk_big0 A0 c0 D0 A1 c1 X1 a2 b2 _ h0 l0  hb0
  have hs0 : (szTo D0 D0.length : Int) ≤ 1048576 := by omega
  by_cases hb1 : 1048576 < (szTo D0 D0.length : Int) + (X1.length : Int)
  · exact walk_big1 A0 c0 D0 A1 c1 X1 a2 b2 _ h0 h1 l1 hs0 hb1
  have hs1 : (szTo D0 D0.length : Int) + (X1.length : Int) ≤ 1048576 := by omega
  have hl0 : ∀ d ∈ D0, d.xs.length ≤ 1048576 := fun d hd => by have := szTo_each D0 d hd; omega
  have hm0 : D0.length ≤ 1048576 := by have := szTo_len D0; omega
  have hm1 : X1.length ≤ 1048576 := by omega
  have hx := mergeA_length (holes D0) [X1] a2 b2
  have hxt := mergeA_total (holes D0) [X1] a2 b2
  refine walk_small A0 c0 D0 A1 c1 X1 a2 b2 (mergeA (holes D0) [X1] a2 b2) (mergeC (holes D0) [X1] a2 b2) _ h0 h1 hs1 hx hxt (fun W E0 A0 B0 A1 B1 hW hE0 hD0 hC0 hB0 hP1 hB1 => ?_) (fun W E0 A0 B0 A1 B1 hW hE0 hD0 hC0 hB0 hP1 hB1 => ?_)
  · have := specInsert_any A0 E0.length E0 B0 ⟨A1, X1.length, X1⟩ B1 a2 b2 W hD0 hP1 hB0 hB1 (by rw [holes_length hE0]; exact hm0) (holes_each hE0 hl0) hm1 (fun d hd => ⟨by rw [hC0 d hd]; exact Nat.le_refl _, by rw [hC0 d hd]; have := holes_each hE0 hl0 d hd; omega⟩) ⟨Nat.le_refl _, Nat.le_trans hm1 (by omega)⟩
    rw [hE0] at this
    exact this
  · have := implInsert_any A0 E0.length E0 B0 ⟨A1, X1.length, X1⟩ B1 a2 b2 W hD0 hP1 hB0 hB1 (by rw [holes_length hE0]; exact hm0) (holes_each hE0 hl0) hm1 (fun d hd => ⟨by rw [hC0 d hd]; exact Nat.le_refl _, by rw [hC0 d hd]; have := holes_each hE0 hl0 d hd; omega⟩) ⟨Nat.le_refl _, Nat.le_trans hm1 (by omega)⟩ (hP.below hW)
    rw [hE0] at this
    exact this

/-- The door's own heap meets the condition: three closed facts. -/
theorem door_met (os : Os) (args : Array Value) : laidMetH Tryd.prog Rows.fnExactInsertCardRow.laid ((World.doorLaid Tryd.prog 4000 os).forCall (fun _ _ => 0) ⟨#[], args, []⟩).memory :=
  laidMetH_of_parts3 (fuel := 8) (laidMet_of_run' 8 (by kernel_rfl) (by kernel_rfl)) (by kernel_rfl) (by kernel_rfl)

set_option maxRecDepth 100000 in
theorem lifted (os : Os) (started : os.Started) (H : Type) (enc : TypeId × Value → H) :
    ReturnsInHanded {} Tryd.checked os 3 .any (fun w args => (Rows.fnExactInsertCardSpec.pre enc Tryd.prog Tryd.f3 [] false w args ∧ laidMetH Tryd.prog Rows.fnExactInsertCardRow.laid w) ∧ sizedMet enc Tryd.prog Tryd.f3 (OpenSpec.ofChange Rows.fnExactInsertCardSpec) false w args)
      (Rows.fnExactInsertCardSpec.post enc Tryd.prog Tryd.f3 false true false false) := by
  refine returnsInHanded_of_change_and (C := Tryd.checked) (X := fun w _ => laidMetH Tryd.prog Rows.fnExactInsertCardRow.laid w) (fun _ _ _ hh h => h.of_heap hh) own started (by kernel_rfl) Tryd.func3
    (ChangeSpec.witness_shaped (enc := enc) (C := Tryd.checked) (os := os) (X := fun w _ => laidMetH Tryd.prog Rows.fnExactInsertCardRow.laid w) false (World.doorLaid Tryd.prog 4000 os) #[.slice none 0 0, .agg #[.slice none 0 0], .agg #[.int .i64 0, .int .i64 0]] 8 rfl (World.shaped_of_RefB (by kernel_rfl) (by kernel_rfl)) (by kernel_rfl) (by kernel_rfl) (by kernel_rfl) (door_met os _)) ?_
  intro W base args ds gs before hval0 hW _ _ hL _
  have hval : ∀ (j : Nat) t v, Tryd.f3.params[j]? = some t → args[j]? = some v → Value.okWide Tryd.prog W .any base t v := hval0
  have hW' := hW
  obtain ⟨p, q, hA0, hV, rfl, _, _⟩ := hW
  have hA : DataW.TrodAll enc Tryd.prog W 0 (fun _ => true) true Tryd.f3.params.toList args.toList ds p := hA0
  rw [Tryd.params3] at hA hval
  obtain ⟨v0, vs0, d0, ds0, p0, q0, hargs, rfl, rfl, h0, r0⟩ := trodAll_cons hA
  obtain ⟨v1, vs1, d1, ds1, p1, q1, rfl, rfl, rfl, h1, r1⟩ := trodAll_cons r0
  obtain ⟨v2, vs2, d2, ds2, p2, q2, rfl, rfl, rfl, h2, r2⟩ := trodAll_cons r1
  obtain ⟨rfl, rfl, rfl⟩ := trodAll_nil r2
  obtain rfl : args = #[v0, v1, v2] := by cases args; simp_all
  obtain ⟨g1, rfl⟩ : ∃ g1, gs = [g1] := by
    clear hL hW' hA hval
    match gs, hV with
    | [], h => exact h.elim
    | [g1], _ => exact ⟨g1, rfl⟩
    | _ :: _ :: _, ⟨_, _, _, _, _, _, _, _, _, _, h, _⟩ => exact h.elim
  obtain ⟨A0, c0, D0, rfl, i0, l0⟩ := open_deck (hval 0 22 v0 rfl rfl) h0
  obtain ⟨A1, c1, xs1, rfl, i1, l1, w1⟩ := open_card (hval 1 25 v1 rfl rfl) h1
  obtain ⟨a2, b2, rfl, w2, u2⟩ := open_field (hval 2 27 v2 rfl rfl) h2
  refine (walk A0 c0 D0 i0 l0 A1 c1 xs1 i1 l1 w1 a2 b2 w2 u2 W rfl rfl hL).mono fun e W' ⟨he, hb⟩ => ?_
  subst he
  have hread : ∀ t ∈ Tryd.f3.params.toList, Tryd.prog.readableRec t = true ∧ t < Tryd.prog.types.size := by
    intro t ht
    rw [Tryd.params3] at ht
    have ht' : t = 22 ∨ t = 25 ∨ t = 27 := by simpa using ht
    rcases ht' with rfl | rfl | rfl <;> exact ⟨by kernel_rfl, of_decide_eq_true (by kernel_rfl)⟩
  have hlt := fun x hx => hW'.lt x (List.mem_append_left q hx)
  refine ⟨_, rfl, _, [g1], _, [], _, q, hW', ?_, args_stay hread hA0 (fun x hx => hb.same (hlt x hx)) (fun x hx => by simpa using hlt x hx), ?_, ?_, fun h => by cases h⟩
  · exact trodAll_mk1 (shut_bool Tryd.underlying4 true)
  · exact Below.trodVars laidOut hb (by kernel_rfl) hV
  · exact World.keptBut_mono (fun x hx => ⟨hx, by rcases List.mem_append.1 hx with h' | h' <;> first | exact Or.inr (Or.inl h') | exact Or.inr (Or.inr h') | exact Or.inr (Or.inr (by simpa using h'))⟩) (hb.frame (· ∈ _))

theorem said : Rows.FnExactInsertCardSaid :=
  OpenClaim.holds_of_wide 3 Tryd.f3 rfl rfl rfl rfl rfl rfl rfl ⟨rfl, rfl, rfl, rfl, rfl⟩ rfl rfl rfl rfl rfl (by kernel_rfl) Tryd.func3 (by kernel_rfl)
    (of_decide_eq_true (by kernel_rfl)) (by unfold Func.isWrapper; first | (rw [if_pos (by decide +kernel)]; kernel_rfl) | (rw [if_neg (by decide +kernel)]; exact ⟨rfl, rfl⟩))
    (fun os started H enc _ => lifted os started H enc)

/-- No parameter wants a stand-in; the program's own looks are as the card says. -/
theorem plain (f : FuncId) (fn : Func) (hf : Tryd.pinned.checked.prog.funcNamed "loop.example/g01012/laws.FnExactInsertCard" = some f) (hfn : Tryd.pinned.checked.prog.funcs[f]? = some fn) :
    Rows.fnExactInsertCardCard.stood.looks = Tryd.pinned.checked.prog.looks [] ∧ ∀ (j : Nat) t, fn.params[j]? = some t → Tryd.pinned.checked.prog.wantsStandIn t = false := by
  obtain rfl : f = 3 := Option.some.inj ((show Tryd.prog.funcNamed "loop.example/g01012/laws.FnExactInsertCard" = some 3 by kernel_rfl).symm.trans hf) |>.symm
  obtain rfl : fn = Tryd.f3 := (Option.some.inj (Tryd.func3.symm.trans hfn)).symm
  refine ⟨by kernel_rfl, fun j t ht => ?_⟩
  rw [Tryd.params3] at ht
  have hm : t ∈ [22, 25, 27] := by simpa using Array.mem_of_getElem? ht
  have hall : ([22, 25, 27].all fun u => !Tryd.prog.wantsStandIn u) = true := by kernel_rfl
  exact (show Tryd.prog.wantsStandIn t = false by simpa using List.all_eq_true.1 hall t hm)

theorem proved : Rows.FnExactInsertCardCardSaid :=
  Claim7.holds_tied_plain_at .later [] _ _ _ _ said (fun _ h => by cases h) (by kernel_rfl) (fun _ h => by cases h) fnExactInsertCard_row_tie rfl ⟨rfl, rfl⟩ (by kernel_rfl) rfl plain (by kernel_rfl)
end Go.Proofs.YtamookdlbmbncabDoor.fnExactInsertCard
