/- For every list of cards, field and texts, the law FnExactSelectBetween returns true: impl.SelectBetween answers as spec.SelectBetween, in memory of its own, and leaves its argument as it was. Condition: the table of places holds what the program's text lays in it (the card ties that). -/
import Derived.Test.YtmdamciheekeoaaDoorM4
import Derived.Test.YtmdamciheekeoaaDoorLaw
import Derived.Test.YtmdamciheekeoaaDoorBoxed
import Derived.Deep.RegionHeld3
import Derived.Deep.DeepCutAuto
import Derived.Test.YtmdamciheekeoaaDoorLawDeck
import Derived.Test.YtmdamciheekeoaaDoorDeckMem
import Derived.Test.YtmdamciheekeoaaDoorPart
import Derived.Test.YtmdamciheekeoaaDoorCards
import Derived.Test.YtmdamciheekeoaaDoorTie
import Derived.LaidMore
import Derived.OpenVars
import Derived.Stop.Joined
namespace Go.Proofs.YtmdamciheekeoaaDoor.fnExactSelectBetween
open Go.ChangeShapes Go.WideShapes Go.ChangeAt Go.RowKit
open Go.ChangeMaps (open_string)

theorem walk_long2 (A0 : Option Addr) (c0 : Nat) (D0 : List CardV) (a1 b1 : Int) (s2 : ByteArray) (s3 : ByteArray) (w : World)  (hlong : 1048576 < s2.size) :
    Calls Tryd.prog 7 #[.slice A0 D0.length c0, .agg #[.int .i64 a1, .int .i64 b1], .string s2, .string s3] w fun e w' => e = .returned (.bool true) ∧ Below w.heap.size w w' := by
  have v2 : (1048576 : Int) < (s2.size : Int) := by omega
  have B0 := Lib.hid (show Below w.heap.size w (w.alloc (.cells #[.int .i64 a1, .int .i64 b1] 24)) from (below_box w _))
  go_enter Tryd.func7, Tryd.ntmps7
  go_wp2
  go_ret
  exact ⟨rfl, B0.out⟩

theorem walk_long3 (A0 : Option Addr) (c0 : Nat) (D0 : List CardV) (a1 b1 : Int) (s2 : ByteArray) (s3 : ByteArray) (w : World) (u2 : s2.size ≤ 1048576) (hlong : 1048576 < s3.size) :
    Calls Tryd.prog 7 #[.slice A0 D0.length c0, .agg #[.int .i64 a1, .int .i64 b1], .string s2, .string s3] w fun e w' => e = .returned (.bool true) ∧ Below w.heap.size w w' := by
  have v2 : ¬ (1048576 : Int) < (s2.size : Int) := by omega
  have v3 : (1048576 : Int) < (s3.size : Int) := by omega
  have B0 := Lib.hid (show Below w.heap.size w (w.alloc (.cells #[.int .i64 a1, .int .i64 b1] 24)) from (below_box w _))
  go_enter Tryd.func7, Tryd.ntmps7
  go_wp2
  go_ret
  exact ⟨rfl, B0.out⟩

theorem walk_big0 (A0 : Option Addr) (c0 : Nat) (D0 : List CardV) (a1 b1 : Int) (s2 : ByteArray) (s3 : ByteArray) (w : World) (h0 : Deck w w.heap.size A0 D0) (l0 : D0.length ≤ 9223372036854775807 ∧ ∀ d ∈ D0, d.xs.length ≤ 9223372036854775807)  (u2 : s2.size ≤ 1048576) (u3 : s3.size ≤ 1048576) (hbig : 1048576 < (szTo D0 D0.length : Int)) :
    Calls Tryd.prog 7 #[.slice A0 D0.length c0, .agg #[.int .i64 a1, .int .i64 b1], .string s2, .string s3] w fun e w' => e = .returned (.bool true) ∧ Below w.heap.size w w' := by
  have v2 : ¬ (1048576 : Int) < (s2.size : Int) := by omega
  have v3 : ¬ (1048576 : Int) < (s3.size : Int) := by omega
  have z0 := fun W (hW : Below w.heap.size w W) => szCards_big A0 c0 D0 (1048576) w.heap.size W (h0.below hW) hW.size (by omega) (by omega) l0.1 l0.2 (by omega)
  obtain ⟨t0, ht0⟩ : ∃ t, szTo D0 D0.length = t := ⟨_, rfl⟩
  rw [ht0] at hbig
  obtain ⟨n0, hn0⟩ : ∃ n, D0.length = n := ⟨_, rfl⟩
  simp only [hn0] at z0 ⊢
  have Z0 := Lib.hid z0
  clear z0 hn0 ht0 h0 l0
  go_enter Tryd.func7, Tryd.ntmps7
  go_wp2_with fail
  refine (Z0.out _ (below_box w _)).mono ?_
  rintro e w1 ⟨rfl, hb⟩
  have B_1 := Lib.hid (below_step (below_box w _) hb)
  have f1a_1 := cell_kept (p := ⟨w.heap.size, 0, none⟩) (v := .int .i64 a1) (by simp [go_sem]) hb
  have f1b_1 := cell_kept (p := ⟨w.heap.size, 1, none⟩) (v := .int .i64 b1) (by simp [go_sem]) hb
  have S_1 : Hid (w.heap.size + 1 ≤ w1.heap.size) := by show _ ≤ _; have := hb.size; simpa using this
  clear hb
  go_wp2
  go_ret
  exact ⟨rfl, B_1.out⟩

set_option maxRecDepth 100000 in
set_option maxHeartbeats 8000000 in
theorem walk_small (A0 : Option Addr) (c0 : Nat) (D0 : List CardV) (a1 b1 : Int) (s2 : ByteArray) (s3 : ByteArray) (X : List (List Int)) (v : Int) (w : World) (h0 : Deck w w.heap.size A0 D0) (hs : (szTo D0 D0.length : Int) ≤ 1048576) (hx : X.length ≤ 1048576) (hxt : totH X ≤ 1048576) (u2 : s2.size ≤ 1048576) (u3 : s3.size ≤ 1048576)
    (hv : ∀ (W : World) (E0 : List CardV) (A0 : Option Addr) (B0 : Nat), Below w.heap.size w W → holes E0 = holes D0 → Deck W B0 A0 E0 → CapsEq E0 → B0 ≤ W.heap.size → Calls Tryd.prog 32 #[.slice A0 E0.length E0.length, .agg #[.int .i64 a1, .int .i64 b1], .string s2, .string s3] W (GivesDC X v W))
    (hi : ∀ (W : World) (E0 : List CardV) (A0 : Option Addr) (B0 : Nat), Below w.heap.size w W → holes E0 = holes D0 → Deck W B0 A0 E0 → CapsEq E0 → B0 ≤ W.heap.size → Calls Tryd.prog 33 #[.slice A0 E0.length E0.length, .agg #[.int .i64 a1, .int .i64 b1], .string s2, .string s3] W (GivesDC X v W)) :
    Calls Tryd.prog 7 #[.slice A0 D0.length c0, .agg #[.int .i64 a1, .int .i64 b1], .string s2, .string s3] w fun e w' => e = .returned (.bool true) ∧ Below w.heap.size w w' := by
  have v2 : ¬ (1048576 : Int) < (s2.size : Int) := by omega
  have v3 : ¬ (1048576 : Int) < (s3.size : Int) := by omega
  have z0 := fun W (hW : Below w.heap.size w W) => szCards_small A0 c0 D0 (1048576) w.heap.size W (h0.below hW) hW.size (by omega) (by omega)
  have hl0 : ∀ d ∈ D0, d.xs.length ≤ 1048576 := fun d hd => by have := szTo_each D0 d hd; omega
  have hm0 : D0.length ≤ 1048576 := by have := szTo_len D0; omega
  have hu0 : totH (holes D0) ≤ 1048576 := by have := szTo_totH D0; omega
  have t0 := fun W (hW : Below w.heap.size w W) => toCardsAt_any A0 c0 D0 w.heap.size W (h0.below hW) hW.size hm0 hl0
  have q0 : ∀ (W : World) (E F : List CardV) (A A' : Option Addr), holes E = holes D0 → holes F = holes D0 → Deck W W.heap.size A E → Deck W W.heap.size A' F → Calls Tryd.prog 17 #[.slice A D0.length D0.length, .slice A' D0.length D0.length] W fun e w' => e = .returned (.bool true) ∧ Below W.heap.size W w' := fun W E F A A' hE hF hO hP => by
    have hEn := holes_length hE
    have hFn := holes_length hF
    have := eqCards_any A A' D0.length D0.length E F W.heap.size W.heap.size W hO hP (Nat.le_refl _) (Nat.le_refl _) (by omega) (by omega) (holes_each hE hl0) (holes_each hF hl0)
    rw [hE, hF, hEn, hFn] at this
    simpa using this
  have r0 : ∀ (W : World) (E : List CardV) (A : Option Addr) (lo hi : Nat) (k : Int), holes E = holes D0 → 0 ≤ k → k ≤ 4194304 → DeckAt W lo hi A E → Calls Tryd.prog 18 #[.slice A D0.length D0.length, .int .i64 k] W fun e w' => e = .returned (.int .i64 (k + totH (holes D0))) ∧ Within lo hi W w' ∧ DeckAt w' lo hi A (markTo E k E.length) := fun W E A lo hi k hE h0 h1 hO => by
    have := markDeck_any A D0.length E (holes D0) lo hi k W hE hO h0 h1 (by rw [holes_len]; exact hm0) hu0
    rw [holes_len] at this
    exact this
  have xe : ∀ (W : World) (E F : List CardV) (A A' : Option Addr) (c c' : Nat), holes E = X → holes F = X → Deck W W.heap.size A E → Deck W W.heap.size A' F → Calls Tryd.prog 17 #[.slice A X.length c, .slice A' X.length c'] W fun e w' => e = .returned (.bool true) ∧ Below W.heap.size W w' := fun W E F A A' c c' hE hF hO hP => by
    have hEn : E.length = X.length := by rw [← hE, holes_len]
    have hFn : F.length = X.length := by rw [← hF, holes_len]
    have := eqCards_any A A' c c' E F W.heap.size W.heap.size W hO hP (Nat.le_refl _) (Nat.le_refl _) (by omega) (by omega) (totH_deck hE hxt) (totH_deck hF hxt)
    rw [hE, hF, hEn, hFn] at this
    simpa using this
  have xm := fun A c E lo hi W (hE : holes E = X) (h : DeckAt W lo hi A E) => markDeck_any A c E X lo hi 1 W hE h (by omega) (by omega) hx hxt
  have xh := fun A c E lo hi W (hE : holes E = X) (h : DeckAt W lo hi A (markTo E 1 E.length)) => heldDeck_any A c E X lo hi 1 W hE h (by omega) (by omega) hx hxt
  have gx : ¬ 1 + (totH X : Int) < 0 := by omega
  have cv : ∀ (W : World) (E0 : List CardV) (g0 lo0 hi0 : Nat), Below w.heap.size w W → holes E0 = holes D0 → CapsEq E0 → DeckAt W lo0 hi0 (some ⟨g0, 0, none⟩) E0 → Calls Tryd.prog 32 #[.slice (some ⟨g0, 0, none⟩) D0.length D0.length, .agg #[.int .i64 a1, .int .i64 b1], .string s2, .string s3] W (GivesDC X v W) := fun W E0 g0 lo0 hi0 hW hE0 hC0 hO0 => by
    have := hv W E0 (some ⟨g0, 0, none⟩) W.heap.size hW hE0 hO0.deck hC0 (Nat.le_refl _)
    rw [holes_length hE0] at this
    exact this
  have ci : ∀ (W : World) (E0 : List CardV) (g0 lo0 hi0 : Nat), Below w.heap.size w W → holes E0 = holes D0 → CapsEq E0 → DeckAt W lo0 hi0 (some ⟨g0, 0, none⟩) E0 → Calls Tryd.prog 33 #[.slice (some ⟨g0, 0, none⟩) D0.length D0.length, .agg #[.int .i64 a1, .int .i64 b1], .string s2, .string s3] W (GivesDC X v W) := fun W E0 g0 lo0 hi0 hW hE0 hC0 hO0 => by
    have := hi W E0 (some ⟨g0, 0, none⟩) W.heap.size hW hE0 hO0.deck hC0 (Nat.le_refl _)
    rw [holes_length hE0] at this
    exact this
  have gn0 : totH (holes D0) = 0 ∨ 0 < szTo D0 D0.length := by have := szTo_totH D0; omega
  have gt0 := szTo_totH D0
  obtain ⟨s0, hs0⟩ : ∃ s, szTo D0 D0.length = s := ⟨_, rfl⟩
  simp only [hs0] at hs gn0 gt0 z0
  obtain ⟨n0, hn0⟩ : ∃ n, D0.length = n := ⟨_, rfl⟩
  simp only [hn0] at z0 gt0 t0 q0 r0 cv ci ⊢
  obtain ⟨u0, hU0⟩ : ∃ u, totH (holes D0) = u := ⟨_, rfl⟩
  simp only [hU0] at r0 gn0 gt0
  have Z0 := Lib.hid z0
  have T0 := Lib.hid t0
  have Q0 := Lib.hid q0
  have R0 := Lib.hid r0
  have XE := Lib.hid xe
  have XM := Lib.hid xm
  have XH := Lib.hid xh
  have CV := Lib.hid cv
  have CI := Lib.hid ci
  have g0 : ¬ 1048576 - (s0 : Int) < 0 := by omega
  have kb0 : 0 ≤ (1 : Int) ∧ (1 : Int) ≤ 4194304 := by omega
  have gk : ¬ 1 + (u0 : Int) < 0 := by omega
  clear cv ci hv hi xe xm xh z0 t0 q0 r0 hn0 h0 hm0 hs0 hl0 hu0 hU0 gn0 gt0
  go_enter Tryd.func7, Tryd.ntmps7
  go_wp2_with fail
  refine (Z0.out _ (below_box w _)).mono ?_
  rintro e w1 ⟨rfl, hb⟩
  have B_1 := Lib.hid (below_step (below_box w _) hb)
  have f1a_1 := cell_kept (p := ⟨w.heap.size, 0, none⟩) (v := .int .i64 a1) (by simp [go_sem]) hb
  have f1b_1 := cell_kept (p := ⟨w.heap.size, 1, none⟩) (v := .int .i64 b1) (by simp [go_sem]) hb
  have S_1 : Hid (w.heap.size + 1 ≤ w1.heap.size) := by show _ ≤ _; have := hb.size; simpa using this
  clear hb
  go_upto_region 9 with fail
  go_cut [10, 11] (fun s0 s1 wx => ∃ A c E, s0 = .slice A X.length c ∧ s1 = .int .i64 v ∧ holes E = X ∧ Below w1.heap.size w1 wx ∧ DeckAt wx w1.heap.size wx.heap.size A E)
  case first =>
    have HS : Hid (Below w1.drew.heap.size w1.drew w1.drew) := Below.refl _ _
    have HC : Hid (Below w.heap.size w w1.drew) := B_1.out.drew
    go_region_held3 (fun W => W.cell? ⟨w.heap.size, 0, none⟩ = some (.int .i64 a1) ∧ W.cell? ⟨w.heap.size, 1, none⟩ = some (.int .i64 b1))
      (first | exact ⟨cell_kept (w := w1.drew) f1a_1 HS.out, cell_kept (w := w1.drew) f1b_1 HS.out⟩ | go_keep)
      (first
        | (go_at_call 14
           refine (T0.out _ HC.out).mono ?_
           rintro e wz ⟨gw0, Ew0, hE, rfl, hb, ho, hC⟩
           have HC := Lib.hid (below_step HC.out hb)
           have HS := Lib.hid (below_step HS.out hb)
           have O_w0 := Lib.hid ho
           have XE_w0 := Lib.hid hE
           have XC_w0 := Lib.hid hC
           clear hb ho hE hC)
        | (go_at_call 15
           refine (toField_any a1 b1 _).mono ?_
           rintro e wz ⟨rfl, hb⟩
           have HC := Lib.hid (below_step HC.out hb)
           have HS := Lib.hid (below_step HS.out hb)
           try (have O_w0 := Lib.hid (O_w0.out.later hb))
           clear hb)
        | (go_at_call 32
           refine (CV.out _ Ew0 _ _ _ HC.out XE_w0.out XC_w0.out O_w0.out).mono ?_
           rintro e wz ⟨AW, cW, EW, rfl, hE, hb, ho⟩
           have O_W := Lib.hid (ho.widen HS.out.size (Nat.le_refl _) (Nat.le_refl _))
           have XE_W := Lib.hid hE
           have HC := Lib.hid (below_step HC.out hb)
           have HS := Lib.hid (below_step HS.out hb)
           try (have O_w0 := Lib.hid (O_w0.out.later hb))
           clear hb ho hE))
    all_goals (go_wp2_with fail; go_meet; exact ⟨_, _, _, rfl, rfl, XE_W.out, below_step (below_drew (Below.refl _ _)) HS.out, O_W.out⟩)
  case rest =>
    obtain ⟨AW, cW, EW, rfl, rfl, hE, hb, ho⟩ := hcut
    rename World => w2
    have B_2 := Lib.hid (below_step B_1.out hb)
    have f1a_2 := cell_kept f1a_1 hb
    have f1b_2 := cell_kept f1b_1 hb
    have S_2 : Hid (w1.heap.size ≤ w2.heap.size) := hb.size
    have W_2 := Lib.hid ho
    clear hb ho B_1 f1a_1 f1b_1
    have XE_W := Lib.hid hE
    clear hE
    go_wp2_with fail
    refine (T0.out _ B_2.out).mono ?_
    rintro e w3 ⟨gx0, Ex0, hE, rfl, hb, ho, hC⟩
    have B_3 := Lib.hid (below_step B_2.out hb)
    have f1a_3 := cell_kept f1a_2 hb
    have f1b_3 := cell_kept f1b_2 hb
    have W_3 := Lib.hid (W_2.out.later hb)
    have S_3 : Hid (w2.heap.size ≤ w3.heap.size) := hb.size
    have x0_3 := Lib.hid ho
    clear hb ho B_2 f1a_2 f1b_2 W_2
    have XE_x0 := Lib.hid hE
    have XC_x0 := Lib.hid hC
    clear hE hC
    go_wp2_with fail
    refine (toField_any a1 b1 _).mono ?_
    rintro e w4 ⟨rfl, hb⟩
    have B_4 := Lib.hid (below_step B_3.out hb)
    have f1a_4 := cell_kept f1a_3 hb
    have f1b_4 := cell_kept f1b_3 hb
    have W_4 := Lib.hid (W_3.out.later hb)
    have x0_4 := Lib.hid (x0_3.out.later hb)
    have S_4 : Hid (w3.heap.size ≤ w4.heap.size) := hb.size
    clear hb B_3 f1a_3 f1b_3 W_3 x0_3
    go_wp2_with fail
    refine (CI.out _ Ex0 _ _ _ B_4.out XE_x0.out XC_x0.out x0_4.out).mono ?_
    rintro e w5 ⟨AG, cG, EG, rfl, hE, hb, ho⟩
    have B_5 := Lib.hid (below_step B_4.out hb)
    have f1a_5 := cell_kept f1a_4 hb
    have f1b_5 := cell_kept f1b_4 hb
    have W_5 := Lib.hid (W_4.out.later hb)
    have x0_5 := Lib.hid (x0_4.out.later hb)
    have S_5 : Hid (w4.heap.size ≤ w5.heap.size) := hb.size
    have G_5 := Lib.hid ho
    clear hb ho B_4 f1a_4 f1b_4 W_4 x0_4
    have XE_G := Lib.hid hE
    clear hE
    go_wp2_with fail
    refine (XE.out _ EG EW _ _ _ _ XE_G.out XE_W.out G_5.out.deck W_5.out.deck).mono ?_
    rintro e w6 ⟨rfl, hb⟩
    have B_6 := Lib.hid (below_step B_5.out hb)
    have f1a_6 := cell_kept f1a_5 hb
    have f1b_6 := cell_kept f1b_5 hb
    have W_6 := Lib.hid (W_5.out.later hb)
    have x0_6 := Lib.hid (x0_5.out.later hb)
    have G_6 := Lib.hid (G_5.out.later hb)
    have S_6 : Hid (w5.heap.size ≤ w6.heap.size) := hb.size
    clear hb B_5 f1a_5 f1b_5 W_5 x0_5 G_5
    go_wp2_with fail
    refine (T0.out _ B_6.out).mono ?_
    rintro e w7 ⟨gz0, Ez0, hE, rfl, hb, ho, hC⟩
    have B_7 := Lib.hid (below_step B_6.out hb)
    have f1a_7 := cell_kept f1a_6 hb
    have f1b_7 := cell_kept f1b_6 hb
    have W_7 := Lib.hid (W_6.out.later hb)
    have x0_7 := Lib.hid (x0_6.out.later hb)
    have G_7 := Lib.hid (G_6.out.later hb)
    have S_7 : Hid (w6.heap.size ≤ w7.heap.size) := hb.size
    have z0_7 := Lib.hid ho
    clear hb ho B_6 f1a_6 f1b_6 W_6 x0_6 G_6
    have XE_z0 := Lib.hid hE
    clear hE hC
    go_wp2_with fail
    refine (Q0.out _ Ex0 Ez0 _ _ XE_x0.out XE_z0.out x0_7.out.deck z0_7.out.deck).mono ?_
    rintro e w8 ⟨rfl, hb⟩
    have B_8 := Lib.hid (below_step B_7.out hb)
    have f1a_8 := cell_kept f1a_7 hb
    have f1b_8 := cell_kept f1b_7 hb
    have W_8 := Lib.hid (W_7.out.later hb)
    have x0_8 := Lib.hid (x0_7.out.later hb)
    have G_8 := Lib.hid (G_7.out.later hb)
    have z0_8 := Lib.hid (z0_7.out.later hb)
    have S_8 : Hid (w7.heap.size ≤ w8.heap.size) := hb.size
    clear hb B_7 f1a_7 f1b_7 W_7 x0_7 G_7 z0_7
    clear z0_8
    go_wp2_with fail
    refine (R0.out _ Ex0 _ _ _ _ XE_x0.out kb0.1 kb0.2 x0_8.out).mono ?_
    rintro e w9 ⟨rfl, hw, hrow⟩
    have B_9 := Lib.hid (below_within B_8.out hw (by have z1 := S_1.out; have z2 := S_2.out; have z3 := S_3.out; have z4 := S_4.out; have z5 := S_5.out; have z6 := S_6.out; have z7 := S_7.out; have z8 := S_8.out; omega))
    have f1a_9 := hw.cell f1a_8 (Or.inl (by show w.heap.size < _; have z1 := S_1.out; have z2 := S_2.out; have z3 := S_3.out; have z4 := S_4.out; have z5 := S_5.out; have z6 := S_6.out; have z7 := S_7.out; have z8 := S_8.out; omega))
    have f1b_9 := hw.cell f1b_8 (Or.inl (by show w.heap.size < _; have z1 := S_1.out; have z2 := S_2.out; have z3 := S_3.out; have z4 := S_4.out; have z5 := S_5.out; have z6 := S_6.out; have z7 := S_7.out; have z8 := S_8.out; omega))
    have W_9 := Lib.hid (W_8.out.within hw (Or.inl (by have z1 := S_1.out; have z2 := S_2.out; have z3 := S_3.out; have z4 := S_4.out; have z5 := S_5.out; have z6 := S_6.out; have z7 := S_7.out; have z8 := S_8.out; omega)))
    have x0_9 := Lib.hid hrow
    have G_9 := Lib.hid (G_8.out.within hw (Or.inr (by have z1 := S_1.out; have z2 := S_2.out; have z3 := S_3.out; have z4 := S_4.out; have z5 := S_5.out; have z6 := S_6.out; have z7 := S_7.out; have z8 := S_8.out; omega)))
    have S_9 : Hid (w8.heap.size ≤ w9.heap.size) := hw.size
    clear hw hrow B_8 f1a_8 f1b_8 W_8 x0_8 G_8
    go_wp2_with fail
    refine (XE.out _ EG EW _ _ _ _ XE_G.out XE_W.out G_9.out.deck W_9.out.deck).mono ?_
    rintro e w10 ⟨rfl, hb⟩
    have B_10 := Lib.hid (below_step B_9.out hb)
    have f1a_10 := cell_kept f1a_9 hb
    have f1b_10 := cell_kept f1b_9 hb
    have W_10 := Lib.hid (W_9.out.later hb)
    have x0_10 := Lib.hid (x0_9.out.later hb)
    have G_10 := Lib.hid (G_9.out.later hb)
    have S_10 : Hid (w9.heap.size ≤ w10.heap.size) := hb.size
    clear hb B_9 f1a_9 f1b_9 W_9 x0_9 G_9
    clear x0_10
    go_wp2_with fail
    refine (XM.out _ _ EG _ _ _ XE_G.out G_10.out).mono ?_
    rintro e w11 ⟨rfl, hw, hrow⟩
    have B_11 := Lib.hid (below_within B_10.out hw (by have z1 := S_1.out; have z2 := S_2.out; have z3 := S_3.out; have z4 := S_4.out; have z5 := S_5.out; have z6 := S_6.out; have z7 := S_7.out; have z8 := S_8.out; have z9 := S_9.out; have z10 := S_10.out; omega))
    have f1a_11 := hw.cell f1a_10 (Or.inl (by show w.heap.size < _; have z1 := S_1.out; have z2 := S_2.out; have z3 := S_3.out; have z4 := S_4.out; have z5 := S_5.out; have z6 := S_6.out; have z7 := S_7.out; have z8 := S_8.out; have z9 := S_9.out; have z10 := S_10.out; omega))
    have f1b_11 := hw.cell f1b_10 (Or.inl (by show w.heap.size < _; have z1 := S_1.out; have z2 := S_2.out; have z3 := S_3.out; have z4 := S_4.out; have z5 := S_5.out; have z6 := S_6.out; have z7 := S_7.out; have z8 := S_8.out; have z9 := S_9.out; have z10 := S_10.out; omega))
    have W_11 := Lib.hid (W_10.out.within hw (Or.inl (by have z1 := S_1.out; have z2 := S_2.out; have z3 := S_3.out; have z4 := S_4.out; have z5 := S_5.out; have z6 := S_6.out; have z7 := S_7.out; have z8 := S_8.out; have z9 := S_9.out; have z10 := S_10.out; omega)))
    have G_11 := Lib.hid hrow
    have S_11 : Hid (w10.heap.size ≤ w11.heap.size) := hw.size
    clear hw hrow B_10 f1a_10 f1b_10 W_10 G_10
    go_wp2_with fail
    refine (XH.out _ _ EG _ _ _ XE_G.out G_11.out).mono ?_
    rintro e w12 ⟨rfl, rfl⟩
    go_upto_region 28 with fail
    go_cut [18, 19] (fun s0 s1 wx => ∃ A c E, s0 = .slice A X.length c ∧ s1 = .int .i64 v ∧ holes E = X ∧ Below w11.heap.size w11 wx ∧ DeckAt wx w11.heap.size wx.heap.size A E)
    case first =>
      have HS : Hid (Below w11.drew.heap.size w11.drew w11.drew) := Below.refl _ _
      have HC : Hid (Below w.heap.size w w11.drew) := B_11.out.drew
      go_region_held3 (fun W => W.cell? ⟨w.heap.size, 0, none⟩ = some (.int .i64 a1) ∧ W.cell? ⟨w.heap.size, 1, none⟩ = some (.int .i64 b1))
        (first | exact ⟨cell_kept (w := w11.drew) f1a_11 HS.out, cell_kept (w := w11.drew) f1b_11 HS.out⟩ | go_keep)
        (first
          | (go_at_call 14
             refine (T0.out _ HC.out).mono ?_
             rintro e wz ⟨gv0, Ev0, hE, rfl, hb, ho, hC⟩
             have HC := Lib.hid (below_step HC.out hb)
             have HS := Lib.hid (below_step HS.out hb)
             have O_v0 := Lib.hid ho
             have XE_v0 := Lib.hid hE
             have XC_v0 := Lib.hid hC
             clear hb ho hE hC)
          | (go_at_call 15
             refine (toField_any a1 b1 _).mono ?_
             rintro e wz ⟨rfl, hb⟩
             have HC := Lib.hid (below_step HC.out hb)
             have HS := Lib.hid (below_step HS.out hb)
             try (have O_v0 := Lib.hid (O_v0.out.later hb))
             clear hb)
          | (go_at_call 33
             refine (CI.out _ Ev0 _ _ _ HC.out XE_v0.out XC_v0.out O_v0.out).mono ?_
             rintro e wz ⟨AH, cH, EH, rfl, hE, hb, ho⟩
             have O_H := Lib.hid (ho.widen HS.out.size (Nat.le_refl _) (Nat.le_refl _))
             have XE_H := Lib.hid hE
             have HC := Lib.hid (below_step HC.out hb)
             have HS := Lib.hid (below_step HS.out hb)
             try (have O_v0 := Lib.hid (O_v0.out.later hb))
             clear hb ho hE))
      all_goals (go_wp2_with fail; go_meet; exact ⟨_, _, _, rfl, rfl, XE_H.out, below_step (below_drew (Below.refl _ _)) HS.out, O_H.out⟩)
    case rest =>
      obtain ⟨AH, cH, EH, rfl, rfl, hE, hb, ho⟩ := hcut
      rename World => w12
      have B_12 := Lib.hid (below_step B_11.out hb)
      have f1a_12 := cell_kept f1a_11 hb
      have f1b_12 := cell_kept f1b_11 hb
      have W_12 := Lib.hid (W_11.out.later hb)
      have G_12 := Lib.hid (G_11.out.later hb)
      have S_12 : Hid (w11.heap.size ≤ w12.heap.size) := hb.size
      have H_12 := Lib.hid ho
      clear hb ho B_11 f1a_11 f1b_11 W_11 G_11
      have XE_H := Lib.hid hE
      clear hE
      go_wp2_with fail
      refine (XE.out _ EH EW _ _ _ _ XE_H.out XE_W.out H_12.out.deck W_12.out.deck).mono ?_
      rintro e w13 ⟨rfl, hb⟩
      have B_13 := Lib.hid (below_step B_12.out hb)
      have f1a_13 := cell_kept f1a_12 hb
      have f1b_13 := cell_kept f1b_12 hb
      have W_13 := Lib.hid (W_12.out.later hb)
      have G_13 := Lib.hid (G_12.out.later hb)
      have H_13 := Lib.hid (H_12.out.later hb)
      have S_13 : Hid (w12.heap.size ≤ w13.heap.size) := hb.size
      clear hb B_12 f1a_12 f1b_12 W_12 G_12 H_12
      go_wp2_with fail
      refine (XH.out _ _ EG _ _ _ XE_G.out G_13.out).mono ?_
      rintro e w14 ⟨rfl, rfl⟩
      go_wp2
      go_ret
      exact ⟨rfl, B_13.out⟩

theorem gPlaces : Tryd.prog.globalNamed "loop.example/g01012/impl.places" = some 0 := by kernel_rfl
theorem gPlacesType : (Tryd.prog.globals[0]?).map (·.type) = some 131 := by kernel_rfl
/-- What the row's list gives: each cell of the table. -/
theorem places_of {W : World} (h : laidMetH Tryd.prog Rows.fnExactSelectBetweenRow.laid W) : Places W := by
  have h' : laidMet Tryd.prog (("loop.example/g01012/impl.places", Lib.tabData .i8 placesL) :: []) W := h
  have ht := Lib.tabIs_of_head gPlaces gPlacesType Tryd.underlying131 Tryd.underlying130 (by kernel_rfl) (by kernel_rfl) h'
  exact fun i hi => ht.cell gPlaces i hi

theorem walk (A0 : Option Addr) (c0 : Nat) (D0 : List CardV) {y0 : World} (h0 : Deck y0 y0.heap.size A0 D0) (l0 : D0.length ≤ 9223372036854775807 ∧ ∀ d ∈ D0, d.xs.length ≤ 9223372036854775807) (a1 b1 : Int) (_ : (Lit.int .i64 a1).wf = true) (_ : (Lit.int .i64 b1).wf = true) (s2 : ByteArray) (m2 : s2.size ≤ maxLen) (s3 : ByteArray) (m3 : s3.size ≤ maxLen) (w : World) (e0 : y0 = w) (hL : laidMetH Tryd.prog Rows.fnExactSelectBetweenRow.laid w) :
    Calls Tryd.prog 7 #[.slice A0 D0.length c0, .agg #[.int .i64 a1, .int .i64 b1], .string s2, .string s3] w fun e w' => e = .returned (.bool true) ∧ Below w.heap.size w w' := by
  subst e0
  have hP := places_of hL
  by_cases hu2 : 1048576 < s2.size
  · exact walk_long2 A0 c0 D0 a1 b1 s2 s3 _  hu2
  have u2 : s2.size ≤ 1048576 := by omega
  by_cases hu3 : 1048576 < s3.size
  · exact walk_long3 A0 c0 D0 a1 b1 s2 s3 _ u2 hu3
  have u3 : s3.size ≤ 1048576 := by omega
  by_cases hb0 : 1048576 < (szTo D0 D0.length : Int)
  · exact walk_big0 A0 c0 D0 a1 b1 s2 s3 _ h0 l0  u2 u3 hb0
  have hs0 : (szTo D0 D0.length : Int) ≤ 1048576 := by omega
  have hl0 : ∀ d ∈ D0, d.xs.length ≤ 1048576 := fun d hd => by have := szTo_each D0 d hd; omega
  have hm0 : D0.length ≤ 1048576 := by have := szTo_len D0; omega
  have hx := betA_length (holes D0) a1 b1 s2 s3
  have hxt := betA_total (holes D0) a1 b1 s2 s3
  refine walk_small A0 c0 D0 a1 b1 s2 s3 (betA (holes D0) a1 b1 s2 s3) (askC (holes D0) a1 b1 [s2, s3]) _ h0 hs0 hx hxt u2 u3 (fun W E0 A0 B0 hW hE0 hD0 hC0 hB0 => ?_) (fun W E0 A0 B0 hW hE0 hD0 hC0 hB0 => ?_)
  · have := specBetween_any A0 E0.length E0 B0 a1 b1 W hD0 hB0 (by rw [holes_length hE0]; exact hm0) (holes_each hE0 hl0) (fun d hd => ⟨by rw [hC0 d hd]; exact Nat.le_refl _, by rw [hC0 d hd]; have := holes_each hE0 hl0 d hd; omega⟩) s2 s3 u2 u3
    rwa [hE0] at this
  · have := implBetween_any A0 E0.length E0 B0 a1 b1 W hD0 hB0 (by rw [holes_length hE0]; exact hm0) (holes_each hE0 hl0) (fun d hd => ⟨by rw [hC0 d hd]; exact Nat.le_refl _, by rw [hC0 d hd]; have := holes_each hE0 hl0 d hd; omega⟩) (hP.below hW) s2 s3 u2 u3
    rwa [hE0] at this

/-- The door's own heap meets the condition: three closed facts. -/
theorem door_met (os : Os) (args : Array Value) : laidMetH Tryd.prog Rows.fnExactSelectBetweenRow.laid ((World.doorLaid Tryd.prog 4000 os).forCall (fun _ _ => 0) ⟨#[], args, []⟩).memory :=
  laidMetH_of_parts3 (fuel := 8) (laidMet_of_run' 8 (by kernel_rfl) (by kernel_rfl)) (by kernel_rfl) (by kernel_rfl)

set_option maxRecDepth 100000 in
theorem lifted (os : Os) (started : os.Started) (H : Type) (enc : TypeId × Value → H) :
    ReturnsInHanded {} Tryd.checked os 7 .any (fun w args => (Rows.fnExactSelectBetweenSpec.pre enc Tryd.prog Tryd.f7 [] false w args ∧ laidMetH Tryd.prog Rows.fnExactSelectBetweenRow.laid w) ∧ sizedMet enc Tryd.prog Tryd.f7 (OpenSpec.ofChange Rows.fnExactSelectBetweenSpec) false w args)
      (Rows.fnExactSelectBetweenSpec.post enc Tryd.prog Tryd.f7 false true false false) := by
  refine returnsInHanded_of_change_and (C := Tryd.checked) (X := fun w _ => laidMetH Tryd.prog Rows.fnExactSelectBetweenRow.laid w) (fun _ _ _ hh h => h.of_heap hh) own started (by kernel_rfl) Tryd.func7
    (ChangeSpec.witness_shaped (enc := enc) (C := Tryd.checked) (os := os) (X := fun w _ => laidMetH Tryd.prog Rows.fnExactSelectBetweenRow.laid w) false (World.doorLaid Tryd.prog 4000 os) #[.slice none 0 0, .agg #[.int .i64 0, .int .i64 0], .string ByteArray.empty, .string ByteArray.empty] 8 rfl (World.shaped_of_RefB (by kernel_rfl) (by kernel_rfl)) (by kernel_rfl) (by kernel_rfl) (by kernel_rfl) (door_met os _)) ?_
  intro W base args ds gs before hval0 hW _ _ hL _
  have hval : ∀ (j : Nat) t v, Tryd.f7.params[j]? = some t → args[j]? = some v → Value.okWide Tryd.prog W .any base t v := hval0
  have hW' := hW
  obtain ⟨p, q, hA0, hV, rfl, _, _⟩ := hW
  have hA : DataW.TrodAll enc Tryd.prog W 0 (fun _ => true) true Tryd.f7.params.toList args.toList ds p := hA0
  rw [Tryd.params7] at hA hval
  obtain ⟨v0, vs0, d0, ds0, p0, q0, hargs, rfl, rfl, h0, r0⟩ := trodAll_cons hA
  obtain ⟨v1, vs1, d1, ds1, p1, q1, rfl, rfl, rfl, h1, r1⟩ := trodAll_cons r0
  obtain ⟨v2, vs2, d2, ds2, p2, q2, rfl, rfl, rfl, h2, r2⟩ := trodAll_cons r1
  obtain ⟨v3, vs3, d3, ds3, p3, q3, rfl, rfl, rfl, h3, r3⟩ := trodAll_cons r2
  obtain ⟨rfl, rfl, rfl⟩ := trodAll_nil r3
  obtain rfl : args = #[v0, v1, v2, v3] := by cases args; simp_all
  obtain ⟨g1, rfl⟩ : ∃ g1, gs = [g1] := by
    clear hL hW' hA hval
    match gs, hV with
    | [], h => exact h.elim
    | [g1], _ => exact ⟨g1, rfl⟩
    | _ :: _ :: _, ⟨_, _, _, _, _, _, _, _, _, _, h, _⟩ => exact h.elim
  obtain ⟨A0, c0, D0, rfl, i0, l0⟩ := open_deck (hval 0 22 v0 rfl rfl) h0
  obtain ⟨a1, b1, rfl, w1, u1⟩ := open_field (hval 1 24 v1 rfl rfl) h1
  obtain ⟨s2, rfl, rfl, rfl, hs2⟩ := open_string Tryd.underlying9 (hval 2 9 v2 rfl rfl) h2
  obtain ⟨s3, rfl, rfl, rfl, hs3⟩ := open_string Tryd.underlying9 (hval 3 9 v3 rfl rfl) h3
  refine (walk A0 c0 D0 i0 l0 a1 b1 w1 u1 s2 hs2 s3 hs3 W rfl hL).mono fun e W' ⟨he, hb⟩ => ?_
  subst he
  have hread : ∀ t ∈ Tryd.f7.params.toList, Tryd.prog.readableRec t = true ∧ t < Tryd.prog.types.size := by
    intro t ht
    rw [Tryd.params7] at ht
    have ht' : t = 22 ∨ t = 24 ∨ t = 9 ∨ t = 9 := by simpa using ht
    rcases ht' with rfl | rfl | rfl | rfl <;> exact ⟨by kernel_rfl, of_decide_eq_true (by kernel_rfl)⟩
  have hlt := fun x hx => hW'.lt x (List.mem_append_left q hx)
  refine ⟨_, rfl, _, [g1], _, [], _, q, hW', ?_, args_stay hread hA0 (fun x hx => hb.same (hlt x hx)) (fun x hx => by simpa using hlt x hx), ?_, ?_, fun h => by cases h⟩
  · exact trodAll_mk1 (shut_bool Tryd.underlying4 true)
  · exact Below.trodVars laidOut hb (by kernel_rfl) hV
  · exact World.keptBut_mono (fun x hx => ⟨hx, by rcases List.mem_append.1 hx with h' | h' <;> first | exact Or.inr (Or.inl h') | exact Or.inr (Or.inr h') | exact Or.inr (Or.inr (by simpa using h'))⟩) (hb.frame (· ∈ _))

theorem said : Rows.FnExactSelectBetweenSaid :=
  OpenClaim.holds_of_wide 7 Tryd.f7 rfl rfl rfl rfl rfl rfl rfl ⟨rfl, rfl, rfl, rfl, rfl⟩ rfl rfl rfl rfl rfl (by kernel_rfl) Tryd.func7 (by kernel_rfl)
    (of_decide_eq_true (by kernel_rfl)) (by unfold Func.isWrapper; first | (rw [if_pos (by decide +kernel)]; kernel_rfl) | (rw [if_neg (by decide +kernel)]; exact ⟨rfl, rfl⟩))
    (fun os started H enc _ => lifted os started H enc)

/-- No parameter wants a stand-in; the program's own looks are as the card says. -/
theorem plain (f : FuncId) (fn : Func) (hf : Tryd.pinned.checked.prog.funcNamed "loop.example/g01012/laws.FnExactSelectBetween" = some f) (hfn : Tryd.pinned.checked.prog.funcs[f]? = some fn) :
    Rows.fnExactSelectBetweenCard.stood.looks = Tryd.pinned.checked.prog.looks [] ∧ ∀ (j : Nat) t, fn.params[j]? = some t → Tryd.pinned.checked.prog.wantsStandIn t = false := by
  obtain rfl : f = 7 := Option.some.inj ((show Tryd.prog.funcNamed "loop.example/g01012/laws.FnExactSelectBetween" = some 7 by kernel_rfl).symm.trans hf) |>.symm
  obtain rfl : fn = Tryd.f7 := (Option.some.inj (Tryd.func7.symm.trans hfn)).symm
  refine ⟨by kernel_rfl, fun j t ht => ?_⟩
  rw [Tryd.params7] at ht
  have hm : t ∈ [22, 24, 9, 9] := by simpa using Array.mem_of_getElem? ht
  have hall : ([22, 24, 9, 9].all fun u => !Tryd.prog.wantsStandIn u) = true := by kernel_rfl
  exact (show Tryd.prog.wantsStandIn t = false by simpa using List.all_eq_true.1 hall t hm)

theorem proved : Rows.FnExactSelectBetweenCardSaid :=
  Claim7.holds_tied_plain_at .later [] _ _ _ _ said (fun _ h => by cases h) (by kernel_rfl) (fun _ h => by cases h) fnExactSelectBetween_row_tie rfl ⟨rfl, rfl⟩ (by kernel_rfl) rfl plain (by kernel_rfl)
end Go.Proofs.YtmdamciheekeoaaDoor.fnExactSelectBetween
