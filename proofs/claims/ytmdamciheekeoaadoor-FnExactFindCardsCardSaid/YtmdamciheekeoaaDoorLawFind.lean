/- For every list of cards, field and text, the law FnExactFindCards returns true: impl.FindCards answers as spec.FindCards and leaves its argument as it was. Condition: the table of places holds what the program's text lays in it (the card ties that). -/
import Derived.Test.YtmdamciheekeoaaDoorF4
import Derived.Test.YtmdamciheekeoaaDoorLaw
import Derived.Deep.RegionHeld3
import Derived.Deep.DeepCutAuto
import Derived.Test.YtmdamciheekeoaaDoorBoxed
import Derived.Test.YtmdamciheekeoaaDoorLawDeck
import Derived.Test.YtmdamciheekeoaaDoorDeckMem
import Derived.Test.YtmdamciheekeoaaDoorPart
import Derived.Test.YtmdamciheekeoaaDoorCards
import Derived.Test.YtmdamciheekeoaaDoorTie
import Derived.LaidMore
import Derived.OpenVars
import Derived.Stop.Joined
namespace Go.Proofs.YtmdamciheekeoaaDoor.fnExactFindCards
open Go.ChangeShapes Go.WideShapes Go.ChangeAt Go.RowKit
open Go.ChangeMaps (open_string)

theorem walk_long2 (A0 : Option Addr) (c0 : Nat) (D0 : List CardV) (a1 b1 : Int) (s2 : ByteArray) (w : World)  (hlong : 1048576 < s2.size) :
    Calls Tryd.prog 11 #[.slice A0 D0.length c0, .agg #[.int .i64 a1, .int .i64 b1], .string s2] w fun e w' => e = .returned (.bool true) ∧ Below w.heap.size w w' := by
  have v2_ : (1048576 : Int) < (s2.size : Int) := by omega
  have B0 := Lib.hid (show Below w.heap.size w (w.alloc (.cells #[.int .i64 a1, .int .i64 b1] 24)) from (below_box w _))
  go_enter Tryd.func11, Tryd.ntmps11
  go_wp2
  go_ret
  exact ⟨rfl, B0.out⟩

theorem walk_big0 (A0 : Option Addr) (c0 : Nat) (D0 : List CardV) (a1 b1 : Int) (s2 : ByteArray) (w : World) (h0 : Deck w w.heap.size A0 D0) (l0 : D0.length ≤ 9223372036854775807 ∧ ∀ d ∈ D0, d.xs.length ≤ 9223372036854775807)  (u2 : s2.size ≤ 1048576) (hbig : 1048576 < (szTo D0 D0.length : Int)) :
    Calls Tryd.prog 11 #[.slice A0 D0.length c0, .agg #[.int .i64 a1, .int .i64 b1], .string s2] w fun e w' => e = .returned (.bool true) ∧ Below w.heap.size w w' := by
  have v2_ : ¬ (1048576 : Int) < (s2.size : Int) := by omega
  have z0 := fun W (hW : Below w.heap.size w W) => szCards_big A0 c0 D0 (1048576) w.heap.size W (h0.below hW) hW.size (by omega) (by omega) l0.1 l0.2 (by omega)
  obtain ⟨t0, ht0⟩ : ∃ t, szTo D0 D0.length = t := ⟨_, rfl⟩
  obtain ⟨n0, hn0⟩ : ∃ n, D0.length = n := ⟨_, rfl⟩
  rw [ht0] at hbig
  simp only [hn0] at z0 ⊢
  have Z0 := Lib.hid z0
  clear z0 hn0 ht0 h0 l0
  go_enter Tryd.func11, Tryd.ntmps11
  go_wp2_with fail
  refine (Z0.out _ (below_box w _)).mono ?_
  rintro e w1 ⟨rfl, hb⟩
  have B_1 := Lib.hid (below_step (below_box w _) hb)
  have f1a_1 := cell_kept (p := ⟨w.heap.size, 0, none⟩) (v := .int .i64 a1) (by simp [go_sem]) hb
  have f1b_1 := cell_kept (p := ⟨w.heap.size, 1, none⟩) (v := .int .i64 b1) (by simp [go_sem]) hb
  have S_1 : Hid (w.heap.size + 1 ≤ w1.heap.size) := by show _ ≤ _; have := hb.size; simpa using this
  clear hb
  go_wp2
  go_ret
  exact ⟨rfl, B_1.out⟩

set_option maxRecDepth 100000 in
set_option maxHeartbeats 4000000 in
theorem walk_small (A0 : Option Addr) (c0 : Nat) (D0 : List CardV) (a1 b1 : Int) (s2 : ByteArray) (v1 : Int) (v2 : Int) (v3 : Int) (w : World) (h0 : Deck w w.heap.size A0 D0) (hs : (szTo D0 D0.length : Int) ≤ 1048576) (u2 : s2.size ≤ 1048576)
    (hv : ∀ (W : World) (E0 : List CardV) (A0 : Option Addr) (B0 : Nat), Below w.heap.size w W → holes E0 = holes D0 → Deck W B0 A0 E0 → CapsEq E0 → B0 ≤ W.heap.size → Calls Tryd.prog 44 #[.slice A0 E0.length E0.length, .agg #[.int .i64 a1, .int .i64 b1], .string s2] W fun e w' => e = .returned (.tuple #[.int .i64 v1, .int .i64 v2, .int .i64 v3]) ∧ Below W.heap.size W w')
    (hi : ∀ (W : World) (E0 : List CardV) (A0 : Option Addr) (B0 : Nat), Below w.heap.size w W → holes E0 = holes D0 → Deck W B0 A0 E0 → CapsEq E0 → B0 ≤ W.heap.size → Calls Tryd.prog 45 #[.slice A0 E0.length E0.length, .agg #[.int .i64 a1, .int .i64 b1], .string s2] W fun e w' => e = .returned (.tuple #[.int .i64 v1, .int .i64 v2, .int .i64 v3]) ∧ Below W.heap.size W w') :
    Calls Tryd.prog 11 #[.slice A0 D0.length c0, .agg #[.int .i64 a1, .int .i64 b1], .string s2] w fun e w' => e = .returned (.bool true) ∧ Below w.heap.size w w' := by
  have v2_ : ¬ (1048576 : Int) < (s2.size : Int) := by omega
  have hl0 : ∀ d ∈ D0, d.xs.length ≤ 1048576 := fun d hd => by have := szTo_each D0 d hd; omega
  have hm0 : D0.length ≤ 1048576 := by have := szTo_len D0; omega
  have z0 := fun W (hW : Below w.heap.size w W) => szCards_small A0 c0 D0 (1048576) w.heap.size W (h0.below hW) hW.size (by omega) (by omega)
  have t0 := fun W (hW : Below w.heap.size w W) => toCardsAt_any A0 c0 D0 w.heap.size W (h0.below hW) hW.size hm0 hl0
  have q0 : ∀ (W : World) (E F : List CardV) (A A' : Option Addr), holes E = holes D0 → holes F = holes D0 → Deck W W.heap.size A E → Deck W W.heap.size A' F → Calls Tryd.prog 17 #[.slice A D0.length D0.length, .slice A' D0.length D0.length] W fun e w' => e = .returned (.bool true) ∧ Below W.heap.size W w' := fun W E F A A' hE hF hO hP => by
    have hEn := holes_length hE
    have hFn := holes_length hF
    have := eqCards_any A A' D0.length D0.length E F W.heap.size W.heap.size W hO hP (Nat.le_refl _) (Nat.le_refl _) (by omega) (by omega) (holes_each hE hl0) (holes_each hF hl0)
    rw [hE, hF, hEn, hFn] at this
    simpa using this
  have cv : ∀ (W : World) (E0 : List CardV) (g0 lo0 hi0 : Nat), Below w.heap.size w W → holes E0 = holes D0 → CapsEq E0 → DeckAt W lo0 hi0 (some ⟨g0, 0, none⟩) E0 → Calls Tryd.prog 44 #[.slice (some ⟨g0, 0, none⟩) D0.length D0.length, .agg #[.int .i64 a1, .int .i64 b1], .string s2] W fun e w' => e = .returned (.tuple #[.int .i64 v1, .int .i64 v2, .int .i64 v3]) ∧ Below W.heap.size W w' := fun W E0 g0 lo0 hi0 hW hE0 hC0 hO0 => by
    have := hv W E0 (some ⟨g0, 0, none⟩) W.heap.size hW hE0 hO0.deck hC0 (Nat.le_refl _)
    rw [holes_length hE0] at this
    exact this
  have ci : ∀ (W : World) (E0 : List CardV) (g0 lo0 hi0 : Nat), Below w.heap.size w W → holes E0 = holes D0 → CapsEq E0 → DeckAt W lo0 hi0 (some ⟨g0, 0, none⟩) E0 → Calls Tryd.prog 45 #[.slice (some ⟨g0, 0, none⟩) D0.length D0.length, .agg #[.int .i64 a1, .int .i64 b1], .string s2] W fun e w' => e = .returned (.tuple #[.int .i64 v1, .int .i64 v2, .int .i64 v3]) ∧ Below W.heap.size W w' := fun W E0 g0 lo0 hi0 hW hE0 hC0 hO0 => by
    have := hi W E0 (some ⟨g0, 0, none⟩) W.heap.size hW hE0 hO0.deck hC0 (Nat.le_refl _)
    rw [holes_length hE0] at this
    exact this
  obtain ⟨s0, hs0⟩ : ∃ s, szTo D0 D0.length = s := ⟨_, rfl⟩
  simp only [hs0] at hs z0
  obtain ⟨n0, hn0⟩ : ∃ n, D0.length = n := ⟨_, rfl⟩
  simp only [hn0] at z0 t0 q0 cv ci ⊢
  have Z0 := Lib.hid z0
  have T0 := Lib.hid t0
  have Q0 := Lib.hid q0
  have CV := Lib.hid cv
  have CI := Lib.hid ci
  have g0 : ¬ 1048576 - (s0 : Int) < 0 := by omega
  clear cv ci hv hi z0 t0 q0 hn0 h0 hm0 hs0 hl0
  go_enter Tryd.func11, Tryd.ntmps11
  go_wp2_with fail
  refine (Z0.out _ (below_box w _)).mono ?_
  rintro e w1 ⟨rfl, hb⟩
  have B_1 := Lib.hid (below_step (below_box w _) hb)
  have f1a_1 := cell_kept (p := ⟨w.heap.size, 0, none⟩) (v := .int .i64 a1) (by simp [go_sem]) hb
  have f1b_1 := cell_kept (p := ⟨w.heap.size, 1, none⟩) (v := .int .i64 b1) (by simp [go_sem]) hb
  have S_1 : Hid (w.heap.size + 1 ≤ w1.heap.size) := by show _ ≤ _; have := hb.size; simpa using this
  clear hb
  go_upto_region 7 with fail
  go_cut [8, 9, 10] (fun s0 s1 s2 wx => s0 = .int .i64 v1 ∧ s1 = .int .i64 v2 ∧ s2 = .int .i64 v3 ∧ Below w1.heap.size w1 wx)
  case first =>
    have HS : Hid (Below w1.drew.heap.size w1.drew w1.drew) := Below.refl _ _
    have HC : Hid (Below w.heap.size w w1.drew) := B_1.out.drew
    go_region_held3 (fun W => W.cell? ⟨w.heap.size, 0, none⟩ = some (.int .i64 a1) ∧ W.cell? ⟨w.heap.size, 1, none⟩ = some (.int .i64 b1))
      (first | exact ⟨cell_kept (w := w1.drew) f1a_1 HS.out, cell_kept (w := w1.drew) f1b_1 HS.out⟩ | go_keep)
      (first
        | (go_at_call 14
           refine (T0.out _ HC.out).mono ?_
           rintro e wz ⟨gw0, Ew0, hE, rfl, hb, ho, hC⟩
           have HC := Lib.hid (below_step HC.out hb)
           have HS := Lib.hid (below_step HS.out hb)
           have O_w0 := Lib.hid ho
           have XE_w0 := Lib.hid hE
           have XC_w0 := Lib.hid hC
           clear hb ho hE hC)
        | (go_at_call 15
           refine (toField_any a1 b1 _).mono ?_
           rintro e wz ⟨rfl, hb⟩
           have HC := Lib.hid (below_step HC.out hb)
           have HS := Lib.hid (below_step HS.out hb)
           try (have O_w0 := Lib.hid (O_w0.out.later hb))
           clear hb)
        | (go_at_call 44
           refine (CV.out _ Ew0 _ _ _ HC.out XE_w0.out XC_w0.out O_w0.out).mono ?_
           rintro e wz ⟨rfl, hb⟩
           have HC := Lib.hid (below_step HC.out hb)
           have HS := Lib.hid (below_step HS.out hb)
           try (have O_w0 := Lib.hid (O_w0.out.later hb))
           clear hb))
    all_goals (go_wp2_with fail; go_meet; exact ⟨rfl, rfl, rfl, below_step (below_drew (Below.refl _ _)) HS.out⟩)
  case rest =>
    obtain ⟨rfl, rfl, rfl, hb⟩ := hcut
    rename World => w2
    have B_2 := Lib.hid (below_step B_1.out hb)
    have f1a_2 := cell_kept f1a_1 hb
    have f1b_2 := cell_kept f1b_1 hb
    have S_2 : Hid (w1.heap.size ≤ w2.heap.size) := hb.size
    clear hb B_1 f1a_1 f1b_1
    go_wp2_with fail
    refine (T0.out _ B_2.out).mono ?_
    rintro e w3 ⟨gx0, Ex0, hE, rfl, hb, ho, hC⟩
    have B_3 := Lib.hid (below_step B_2.out hb)
    have f1a_3 := cell_kept f1a_2 hb
    have f1b_3 := cell_kept f1b_2 hb
    have S_3 : Hid (w2.heap.size ≤ w3.heap.size) := hb.size
    have x0_3 := Lib.hid ho
    clear hb ho B_2 f1a_2 f1b_2
    have XE_x0 := Lib.hid hE
    have XC_x0 := Lib.hid hC
    clear hE hC
    go_wp2_with fail
    refine (toField_any a1 b1 _).mono ?_
    rintro e w4 ⟨rfl, hb⟩
    have B_4 := Lib.hid (below_step B_3.out hb)
    have f1a_4 := cell_kept f1a_3 hb
    have f1b_4 := cell_kept f1b_3 hb
    have x0_4 := Lib.hid (x0_3.out.later hb)
    have S_4 : Hid (w3.heap.size ≤ w4.heap.size) := hb.size
    clear hb B_3 f1a_3 f1b_3 x0_3
    go_wp2_with fail
    refine (CI.out _ Ex0 _ _ _ B_4.out XE_x0.out XC_x0.out x0_4.out).mono ?_
    rintro e w5 ⟨rfl, hb⟩
    have B_5 := Lib.hid (below_step B_4.out hb)
    have f1a_5 := cell_kept f1a_4 hb
    have f1b_5 := cell_kept f1b_4 hb
    have x0_5 := Lib.hid (x0_4.out.later hb)
    have S_5 : Hid (w4.heap.size ≤ w5.heap.size) := hb.size
    clear hb B_4 f1a_4 f1b_4 x0_4
    go_wp2_with fail
    refine (T0.out _ B_5.out).mono ?_
    rintro e w6 ⟨gz0, Ez0, hE, rfl, hb, ho, hC⟩
    have B_6 := Lib.hid (below_step B_5.out hb)
    have f1a_6 := cell_kept f1a_5 hb
    have f1b_6 := cell_kept f1b_5 hb
    have x0_6 := Lib.hid (x0_5.out.later hb)
    have S_6 : Hid (w5.heap.size ≤ w6.heap.size) := hb.size
    have z0_6 := Lib.hid ho
    clear hb ho B_5 f1a_5 f1b_5 x0_5
    have XE_z0 := Lib.hid hE
    clear hE hC
    go_wp2_with fail
    refine (Q0.out _ Ex0 Ez0 _ _ XE_x0.out XE_z0.out x0_6.out.deck z0_6.out.deck).mono ?_
    rintro e w7 ⟨rfl, hb⟩
    have B_7 := Lib.hid (below_step B_6.out hb)
    have f1a_7 := cell_kept f1a_6 hb
    have f1b_7 := cell_kept f1b_6 hb
    have x0_7 := Lib.hid (x0_6.out.later hb)
    have z0_7 := Lib.hid (z0_6.out.later hb)
    have S_7 : Hid (w6.heap.size ≤ w7.heap.size) := hb.size
    clear hb B_6 f1a_6 f1b_6 x0_6 z0_6
    go_wp2
    go_ret
    exact ⟨rfl, B_7.out⟩

theorem gPlaces : Tryd.prog.globalNamed "loop.example/g01012/impl.places" = some 0 := by kernel_rfl
theorem gPlacesType : (Tryd.prog.globals[0]?).map (·.type) = some 131 := by kernel_rfl
/-- What the row's list gives: each cell of the table. -/
theorem places_of {W : World} (h : laidMetH Tryd.prog Rows.fnExactFindCardsRow.laid W) : Places W := by
  have h' : laidMet Tryd.prog (("loop.example/g01012/impl.places", Lib.tabData .i8 placesL) :: []) W := h
  have ht := Lib.tabIs_of_head gPlaces gPlacesType Tryd.underlying131 Tryd.underlying130 (by kernel_rfl) (by kernel_rfl) h'
  exact fun i hi => ht.cell gPlaces i hi

theorem walk (A0 : Option Addr) (c0 : Nat) (D0 : List CardV) {y0 : World} (h0 : Deck y0 y0.heap.size A0 D0) (l0 : D0.length ≤ 9223372036854775807 ∧ ∀ d ∈ D0, d.xs.length ≤ 9223372036854775807) (a1 b1 : Int) (_ : (Lit.int .i64 a1).wf = true) (_ : (Lit.int .i64 b1).wf = true) (s2 : ByteArray) (m2 : s2.size ≤ maxLen) (w : World) (e0 : y0 = w) (hL : laidMetH Tryd.prog Rows.fnExactFindCardsRow.laid w) :
    Calls Tryd.prog 11 #[.slice A0 D0.length c0, .agg #[.int .i64 a1, .int .i64 b1], .string s2] w fun e w' => e = .returned (.bool true) ∧ Below w.heap.size w w' := by
  subst e0
  have hP := places_of hL
  by_cases hu2 : 1048576 < s2.size
  · exact walk_long2 A0 c0 D0 a1 b1 s2 _  hu2
  have u2 : s2.size ≤ 1048576 := by omega
  by_cases hb0 : 1048576 < (szTo D0 D0.length : Int)
  · exact walk_big0 A0 c0 D0 a1 b1 s2 _ h0 l0  u2 hb0
  have hs0 : (szTo D0 D0.length : Int) ≤ 1048576 := by omega
  have hl0 : ∀ d ∈ D0, d.xs.length ≤ 1048576 := fun d hd => by have := szTo_each D0 d hd; omega
  have hm0 : D0.length ≤ 1048576 := by have := szTo_len D0; omega
  refine walk_small A0 c0 D0 a1 b1 s2 (findL (holes D0) a1 b1 s2) (findN (holes D0) a1 b1 s2) (findC (holes D0) a1 b1 s2) _ h0 hs0 u2 (fun W E0 A0 B0 hW hE0 hD0 hC0 hB0 => ?_) (fun W E0 A0 B0 hW hE0 hD0 hC0 hB0 => ?_)
  · have := specFind_any A0 E0.length E0 B0 a1 b1 W hD0 hB0 (by rw [holes_length hE0]; exact hm0) (holes_each hE0 hl0) (fun d hd => ⟨by rw [hC0 d hd]; exact Nat.le_refl _, by rw [hC0 d hd]; have := holes_each hE0 hl0 d hd; omega⟩) s2 u2
    rwa [hE0] at this
  · have := implFind_any A0 E0.length E0 B0 a1 b1 W hD0 hB0 (by rw [holes_length hE0]; exact hm0) (holes_each hE0 hl0) (fun d hd => ⟨by rw [hC0 d hd]; exact Nat.le_refl _, by rw [hC0 d hd]; have := holes_each hE0 hl0 d hd; omega⟩) (hP.below hW) s2 u2
    rwa [hE0] at this

/-- The door's own heap meets the condition: three closed facts. -/
theorem door_met (os : Os) (args : Array Value) : laidMetH Tryd.prog Rows.fnExactFindCardsRow.laid ((World.doorLaid Tryd.prog 4000 os).forCall (fun _ _ => 0) ⟨#[], args, []⟩).memory :=
  laidMetH_of_parts3 (fuel := 8) (laidMet_of_run' 8 (by kernel_rfl) (by kernel_rfl)) (by kernel_rfl) (by kernel_rfl)

set_option maxRecDepth 100000 in
theorem lifted (os : Os) (started : os.Started) (H : Type) (enc : TypeId × Value → H) :
    ReturnsInHanded {} Tryd.checked os 11 .any (fun w args => (Rows.fnExactFindCardsSpec.pre enc Tryd.prog Tryd.f11 [] false w args ∧ laidMetH Tryd.prog Rows.fnExactFindCardsRow.laid w) ∧ sizedMet enc Tryd.prog Tryd.f11 (OpenSpec.ofChange Rows.fnExactFindCardsSpec) false w args)
      (Rows.fnExactFindCardsSpec.post enc Tryd.prog Tryd.f11 false true false false) := by
  refine returnsInHanded_of_change_and (C := Tryd.checked) (X := fun w _ => laidMetH Tryd.prog Rows.fnExactFindCardsRow.laid w) (fun _ _ _ hh h => h.of_heap hh) own started (by kernel_rfl) Tryd.func11
    (ChangeSpec.witness_shaped (enc := enc) (C := Tryd.checked) (os := os) (X := fun w _ => laidMetH Tryd.prog Rows.fnExactFindCardsRow.laid w) false (World.doorLaid Tryd.prog 4000 os) #[.slice none 0 0, .agg #[.int .i64 0, .int .i64 0], .string ByteArray.empty] 8 rfl (World.shaped_of_RefB (by kernel_rfl) (by kernel_rfl)) (by kernel_rfl) (by kernel_rfl) (by kernel_rfl) (door_met os _)) ?_
  intro W base args ds gs before hval0 hW _ _ hL _
  have hval : ∀ (j : Nat) t v, Tryd.f11.params[j]? = some t → args[j]? = some v → Value.okWide Tryd.prog W .any base t v := hval0
  have hW' := hW
  obtain ⟨p, q, hA0, hV, rfl, _, _⟩ := hW
  have hA : DataW.TrodAll enc Tryd.prog W 0 (fun _ => true) true Tryd.f11.params.toList args.toList ds p := hA0
  rw [Tryd.params11] at hA hval
  obtain ⟨v0, vs0, d0, ds0, p0, q0, hargs, rfl, rfl, h0, r0⟩ := trodAll_cons hA
  obtain ⟨v1, vs1, d1, ds1, p1, q1, rfl, rfl, rfl, h1, r1⟩ := trodAll_cons r0
  obtain ⟨v2, vs2, d2, ds2, p2, q2, rfl, rfl, rfl, h2, r2⟩ := trodAll_cons r1
  obtain ⟨rfl, rfl, rfl⟩ := trodAll_nil r2
  obtain rfl : args = #[v0, v1, v2] := by cases args; simp_all
  obtain ⟨g1, rfl⟩ : ∃ g1, gs = [g1] := by
    clear hL hW' hA hval
    match gs, hV with
    | [], h => exact h.elim
    | [g1], _ => exact ⟨g1, rfl⟩
    | _ :: _ :: _, ⟨_, _, _, _, _, _, _, _, _, _, h, _⟩ => exact h.elim
  obtain ⟨A0, c0, D0, rfl, i0, l0⟩ := open_deck (hval 0 22 v0 rfl rfl) h0
  obtain ⟨a1, b1, rfl, w1, u1⟩ := open_field (hval 1 24 v1 rfl rfl) h1
  obtain ⟨s2, rfl, rfl, rfl, hs2⟩ := open_string Tryd.underlying9 (hval 2 9 v2 rfl rfl) h2
  refine (walk A0 c0 D0 i0 l0 a1 b1 w1 u1 s2 hs2 W rfl hL).mono fun e W' ⟨he, hb⟩ => ?_
  subst he
  have hread : ∀ t ∈ Tryd.f11.params.toList, Tryd.prog.readableRec t = true ∧ t < Tryd.prog.types.size := by
    intro t ht
    rw [Tryd.params11] at ht
    have ht' : t = 22 ∨ t = 24 ∨ t = 9 := by simpa using ht
    rcases ht' with rfl | rfl | rfl <;> exact ⟨by kernel_rfl, of_decide_eq_true (by kernel_rfl)⟩
  have hlt := fun x hx => hW'.lt x (List.mem_append_left q hx)
  refine ⟨_, rfl, _, [g1], _, [], _, q, hW', ?_, args_stay hread hA0 (fun x hx => hb.same (hlt x hx)) (fun x hx => by simpa using hlt x hx), ?_, ?_, fun h => by cases h⟩
  · exact trodAll_mk1 (shut_bool Tryd.underlying4 true)
  · exact Below.trodVars laidOut hb (by kernel_rfl) hV
  · exact World.keptBut_mono (fun x hx => ⟨hx, by rcases List.mem_append.1 hx with h' | h' <;> first | exact Or.inr (Or.inl h') | exact Or.inr (Or.inr h') | exact Or.inr (Or.inr (by simpa using h'))⟩) (hb.frame (· ∈ _))

theorem said : Rows.FnExactFindCardsSaid :=
  OpenClaim.holds_of_wide 11 Tryd.f11 rfl rfl rfl rfl rfl rfl rfl ⟨rfl, rfl, rfl, rfl, rfl⟩ rfl rfl rfl rfl rfl (by kernel_rfl) Tryd.func11 (by kernel_rfl)
    (of_decide_eq_true (by kernel_rfl)) (by unfold Func.isWrapper; first | (rw [if_pos (by decide +kernel)]; kernel_rfl) | (rw [if_neg (by decide +kernel)]; exact ⟨rfl, rfl⟩))
    (fun os started H enc _ => lifted os started H enc)

/-- No parameter wants a stand-in; the program's own looks are as the card says. -/
theorem plain (f : FuncId) (fn : Func) (hf : Tryd.pinned.checked.prog.funcNamed "loop.example/g01012/laws.FnExactFindCards" = some f) (hfn : Tryd.pinned.checked.prog.funcs[f]? = some fn) :
    Rows.fnExactFindCardsCard.stood.looks = Tryd.pinned.checked.prog.looks [] ∧ ∀ (j : Nat) t, fn.params[j]? = some t → Tryd.pinned.checked.prog.wantsStandIn t = false := by
  obtain rfl : f = 11 := Option.some.inj ((show Tryd.prog.funcNamed "loop.example/g01012/laws.FnExactFindCards" = some 11 by kernel_rfl).symm.trans hf) |>.symm
  obtain rfl : fn = Tryd.f11 := (Option.some.inj (Tryd.func11.symm.trans hfn)).symm
  refine ⟨by kernel_rfl, fun j t ht => ?_⟩
  rw [Tryd.params11] at ht
  have hm : t ∈ [22, 24, 9] := by simpa using Array.mem_of_getElem? ht
  have hall : ([22, 24, 9].all fun u => !Tryd.prog.wantsStandIn u) = true := by kernel_rfl
  exact (show Tryd.prog.wantsStandIn t = false by simpa using List.all_eq_true.1 hall t hm)

theorem proved : Rows.FnExactFindCardsCardSaid :=
  Claim7.holds_tied_plain_at .later [] _ _ _ _ said (fun _ h => by cases h) (by kernel_rfl) (fun _ h => by cases h) fnExactFindCards_row_tie rfl ⟨rfl, rfl⟩ (by kernel_rfl) rfl plain (by kernel_rfl)
end Go.Proofs.YtmdamciheekeoaaDoor.fnExactFindCards
