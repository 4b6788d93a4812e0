/- For every deck and field, the law FnExactIsSorted returns true: impl.IsSorted answers as spec.IsSorted and leaves its argument as it was. Condition: the table of places holds what the program's text lays in it (the card ties that). -/
import Derived.Test.YtjfogadcedgndacDoorSortFirst
import Derived.Test.YtjfogadcedgndacDoorLawDeck
import Derived.Test.YtjfogadcedgndacDoorLaw
import Derived.Test.YtjfogadcedgndacDoorBoxed
import Derived.Deep.RegionHeld3
import Derived.Deep.DeepCutAuto
import Derived.Test.YtjfogadcedgndacDoorCards
import Derived.Test.YtjfogadcedgndacDoorTie
import Derived.LaidMore
import Derived.OpenVars
import Derived.Stop.Joined
namespace Go.Proofs.YtjfogadcedgndacDoor.fnExactIsSorted
open Go.ChangeShapes Go.WideShapes Go.ChangeAt Go.RowKit

theorem caps_own {w : World} {g n : Nat} {E : List CardV} (h : OwnDeck w g E n) (hl : ∀ d ∈ E, d.xs.length ≤ 1048576) : CapsOk E := fun d hd => by
  obtain ⟨_, _, _, hc, _⟩ := h.each d hd
  have := hl d hd
  exact ⟨by omega, by omega⟩

theorem walk_big (A : Option Addr) (c : Nat) (D : List CardV) (a b : Int) (w : World) (h : Deck w w.heap.size A D) (hn : D.length ≤ 9223372036854775807) (hl : ∀ d ∈ D, d.xs.length ≤ 9223372036854775807) (hbig : (1048576 : Int) < (szTo D D.length : Int)) :
    Calls Tryd.prog 5 #[.slice A D.length c, .agg #[.int .i64 a, .int .i64 b]] w fun e w' => e = .returned (.bool true) ∧ Below w.heap.size w w' := by
  have HS := Lib.hid (szCards_big A c D 1048576 w.heap.size _ (h.alloc (Nat.le_refl _) (.cells #[.int .i64 a, .int .i64 b] 24)) (by simp) (by omega) (by omega) hn hl hbig)
  obtain ⟨n, hN⟩ : ∃ n, D.length = n := ⟨_, rfl⟩
  rw [hN] at HS
  rw [hN]
  clear h hn hl hbig hN
  go_enter Tryd.func5, Tryd.ntmps5
  go_wp2_with fail
  refine HS.out.mono ?_
  rintro e w1 ⟨rfl, hb1⟩
  have B1 := Lib.hid (below_step (below_box w _) hb1)
  clear hb1
  go_wp2
  go_ret
  exact ⟨rfl, B1.out⟩

set_option maxRecDepth 100000 in
set_option maxHeartbeats 4000000 in
theorem walk_small (A : Option Addr) (c : Nat) (D : List CardV) (a b : Int) (v1 : Bool) (v2 : Int) (w : World) (h : Deck w w.heap.size A D) (hs : (szTo D D.length : Int) ≤ 1048576)
    (hv : ∀ (W : World) (E : List CardV) (A : Option Addr) (B : Nat), holes E = holes D → Deck W B A E → CapsOk E → B ≤ W.heap.size → Calls Tryd.prog 19 #[.slice A E.length E.length, .agg #[.int .i64 a, .int .i64 b]] W fun e w' => e = .returned (.tuple #[.bool v1, .int .i64 v2]) ∧ Below W.heap.size W w')
    (hi : ∀ (W : World) (E : List CardV) (A : Option Addr) (B : Nat), Below w.heap.size w W → holes E = holes D → Deck W B A E → CapsOk E → B ≤ W.heap.size → Calls Tryd.prog 20 #[.slice A E.length E.length, .agg #[.int .i64 a, .int .i64 b]] W fun e w' => e = .returned (.tuple #[.bool v1, .int .i64 v2]) ∧ Below W.heap.size W w') :
    Calls Tryd.prog 5 #[.slice A D.length c, .agg #[.int .i64 a, .int .i64 b]] w fun e w' => e = .returned (.bool true) ∧ Below w.heap.size w w' := by
  have HS := Lib.hid (szCards_small A c D 1048576 w.heap.size _ (h.alloc (Nat.le_refl _) (.cells #[.int .i64 a, .int .i64 b] 24)) (by simp) (by omega) hs)
  obtain ⟨n, hN⟩ : ∃ n, D.length = n := ⟨_, rfl⟩
  obtain ⟨t, ht⟩ : ∃ t, szTo D D.length = t := ⟨_, rfl⟩
  have hn : n ≤ 1048576 := by have := szTo_len D; omega
  have hl : ∀ d ∈ D, d.xs.length ≤ 1048576 := fun d hd => by have := szTo_each D d hd; omega
  rw [ht] at HS hs
  have hge : ¬ (1048576 - (t : Int)) < 0 := by omega
  have HT : Hid (∀ W : World, w.heap.size ≤ W.heap.size → Deck W w.heap.size A D → Calls Tryd.prog 8 #[.slice A n c] W fun e w' => ∃ g E, holes E = holes D ∧ e = .returned (.slice (some ⟨g, 0, none⟩) n n) ∧ W.heap.size ≤ g ∧ Below W.heap.size W w' ∧ OwnDeck w' g E n) := fun W hW hD => by
    have := toCards_any A c D w.heap.size W hD hW (by omega) hl
    rw [hN] at this
    refine this.mono ?_
    rintro e w' ⟨he, E, hE, _, hb, ho⟩
    exact ⟨_, E, hE, he, Nat.le_refl _, hb, ho⟩
  have HV : Hid (∀ (W : World) (E : List CardV) (g : Nat), holes E = holes D → OwnDeck W g E n → Calls Tryd.prog 19 #[.slice (some ⟨g, 0, none⟩) n n, .agg #[.int .i64 a, .int .i64 b]] W fun e w' => e = .returned (.tuple #[.bool v1, .int .i64 v2]) ∧ Below W.heap.size W w') := fun W E g hE hO => by
    have hEn : E.length = n := (holes_length hE).trans hN
    have := hv W E (some ⟨g, 0, none⟩) W.heap.size hE (hO.deck' hEn) (caps_own hO (holes_each hE hl)) (Nat.le_refl _)
    rwa [hEn] at this
  have HI : Hid (∀ (W : World) (E : List CardV) (g : Nat), Below w.heap.size w W → holes E = holes D → OwnDeck W g E n → Calls Tryd.prog 20 #[.slice (some ⟨g, 0, none⟩) n n, .agg #[.int .i64 a, .int .i64 b]] W fun e w' => e = .returned (.tuple #[.bool v1, .int .i64 v2]) ∧ Below W.heap.size W w') := fun W E g hW hE hO => by
    have hEn : E.length = n := (holes_length hE).trans hN
    have := hi W E (some ⟨g, 0, none⟩) W.heap.size hW hE (hO.deck' hEn) (caps_own hO (holes_each hE hl)) (Nat.le_refl _)
    rwa [hEn] at this
  have HE : Hid (∀ (W : World) (E F : List CardV) (g f : Nat), holes E = holes D → holes F = holes D → OwnDeck W g E n → OwnDeck W f F n → Calls Tryd.prog 12 #[.slice (some ⟨g, 0, none⟩) n n, .slice (some ⟨f, 0, none⟩) n n] W fun e w' => e = .returned (.bool true) ∧ Below W.heap.size W w') := fun W E F g f hE hF hO hP => by
    have hEn : E.length = n := (holes_length hE).trans hN
    have hFn : F.length = n := (holes_length hF).trans hN
    have := eqCards_any (some ⟨g, 0, none⟩) (some ⟨f, 0, none⟩) n n E F W.heap.size W.heap.size W (hO.deck' hEn) (hP.deck' hFn) (Nat.le_refl _) (Nat.le_refl _) (by omega) (by omega) (holes_each hE hl) (holes_each hF hl)
    rw [hE, hF, hEn, hFn] at this
    simpa using this
  rw [hN] at HS
  rw [hN]
  have H := Lib.hid h
  clear h hN ht hl hn hv hi
  go_enter Tryd.func5, Tryd.ntmps5
  go_wp2_with fail
  refine (HS.out).mono ?_
  rintro e w1 ⟨rfl, hb⟩
  have B_1 := Lib.hid (below_step (below_box w _) hb)
  have fa_1 := cell_kept (p := ⟨w.heap.size, 0, none⟩) (v := .int .i64 a) (by simp [go_sem]) hb
  have fb_1 := cell_kept (p := ⟨w.heap.size, 1, none⟩) (v := .int .i64 b) (by simp [go_sem]) hb
  clear hb
  go_upto_region 5 with fail
  go_cut [6, 7] (fun s0 s1 wx => s0 = .bool v1 ∧ s1 = .int .i64 v2 ∧ Below w1.heap.size w1 wx)
  case first =>
    have K0 := Lib.hid (below_drew (Below.refl w1.heap.size w1))
    go_region_held3 (fun W => W.cell? ⟨w.heap.size, 0, none⟩ = some (.int .i64 a) ∧ W.cell? ⟨w.heap.size, 1, none⟩ = some (.int .i64 b))
      (first | exact ⟨fa_1, fb_1⟩ | exact ⟨cell_kept fa_1 K0.out, cell_kept fb_1 K0.out⟩ | exact ⟨cell_kept fa_1 K1.out, cell_kept fb_1 K1.out⟩ | exact ⟨cell_kept fa_1 K2.out, cell_kept fb_1 K2.out⟩ | exact ⟨cell_kept fa_1 K3.out, cell_kept fb_1 K3.out⟩ | go_keep)
      (first
        | (go_at_call 8
           refine (HT.out _ ?_ ?_).mono ?_
           · first | exact B_1.out.drew.size
           · first | exact H.out.below B_1.out.drew
           rintro e w1_1 ⟨ga, Ea, hE, rfl, hg, hb, hrow⟩
           have X_Da := Lib.hid hE
           clear hE
           have K1 : Hid (Below w1.heap.size w1 w1_1) := below_step K0.out hb
           have Da_r1 := Lib.hid hrow
           clear hb hrow hg)
        | (go_at_call 9
           refine (toField_any a b _).mono ?_
           rintro e w1_2 ⟨rfl, hb⟩
           have K2 : Hid (Below w1.heap.size w1 w1_2) := below_step K1.out hb
           have Da_r2 := Lib.hid (Da_r1.out.later hb)
           clear hb)
        | (go_at_call 19
           refine (HV.out _ Ea _ X_Da.out ?_).mono ?_
           · first | exact Da_r2.out
           rintro e w1_3 ⟨rfl, hb⟩
           have K3 : Hid (Below w1.heap.size w1 w1_3) := below_step K2.out hb
           clear hb))
    all_goals (go_wp2_with fail; go_meet; exact ⟨rfl, rfl, K3.out⟩)
  case rest =>
    obtain ⟨rfl, rfl, hb⟩ := hcut
    rename World => w2
    have B_2 := Lib.hid (below_step B_1.out hb)
    have fa_2 := cell_kept fa_1 hb
    have fb_2 := cell_kept fb_1 hb
    clear hb fa_1 fb_1 B_1
    go_wp2_with fail
    refine (HT.out _ B_2.out.size (H.out.below B_2.out)).mono ?_
    rintro e w3 ⟨gx, Ex, hE, rfl, hg, hb, hrow⟩
    have B_3 := Lib.hid (below_step B_2.out hb)
    have fa_3 := cell_kept fa_2 hb
    have fb_3 := cell_kept fb_2 hb
    have Dx_3 := Lib.hid hrow
    clear hb hrow hg fa_2 fb_2 B_2
    have X_Dx := Lib.hid hE
    clear hE
    go_wp2_with fail
    refine (toField_any a b _).mono ?_
    rintro e w4 ⟨rfl, hb⟩
    have B_4 := Lib.hid (below_step B_3.out hb)
    have fa_4 := cell_kept fa_3 hb
    have fb_4 := cell_kept fb_3 hb
    have Dx_4 := Lib.hid (Dx_3.out.later hb)
    clear hb fa_3 fb_3 Dx_3 B_3
    go_wp2_with fail
    refine (HI.out _ Ex _ B_4.out X_Dx.out Dx_4.out).mono ?_
    rintro e w5 ⟨rfl, hb⟩
    have B_5 := Lib.hid (below_step B_4.out hb)
    have fa_5 := cell_kept fa_4 hb
    have fb_5 := cell_kept fb_4 hb
    have Dx_5 := Lib.hid (Dx_4.out.later hb)
    clear hb fa_4 fb_4 Dx_4 B_4
    cases v1
    all_goals
      go_wp2_with fail
      refine (HT.out _ B_5.out.size (H.out.below B_5.out)).mono ?_
      rintro e w6 ⟨gz, Ez, hE, rfl, hg, hb, hrow⟩
      have B_6 := Lib.hid (below_step B_5.out hb)
      have fa_6 := cell_kept fa_5 hb
      have fb_6 := cell_kept fb_5 hb
      have Dx_6 := Lib.hid (Dx_5.out.later hb)
      have Dz_6 := Lib.hid hrow
      clear hb hrow hg fa_5 fb_5 Dx_5 B_5
      have X_Dz := Lib.hid hE
      clear hE
      go_wp2_with fail
      refine (HE.out _ Ex Ez _ _ X_Dx.out X_Dz.out Dx_6.out Dz_6.out).mono ?_
      rintro e w7 ⟨rfl, hb⟩
      have B_7 := Lib.hid (below_step B_6.out hb)
      have fa_7 := cell_kept fa_6 hb
      have fb_7 := cell_kept fb_6 hb
      have Dx_7 := Lib.hid (Dx_6.out.later hb)
      have Dz_7 := Lib.hid (Dz_6.out.later hb)
      clear hb fa_6 fb_6 Dx_6 Dz_6 B_6
      go_wp2
      go_ret
      exact ⟨rfl, B_7.out⟩


theorem gPlaces : Tryd.prog.globalNamed "loop.example/g01012/impl.places" = some 0 := by kernel_rfl
theorem gPlacesType : (Tryd.prog.globals[0]?).map (·.type) = some 100 := by kernel_rfl
/-- What the row's list gives: each cell of the table. -/
theorem places_of {W : World} (h : laidMetH Tryd.prog Rows.fnExactIsSortedRow.laid W) : Places W := by
  have h' : laidMet Tryd.prog (("loop.example/g01012/impl.places", Lib.tabData .i8 placesL) :: []) W := h
  have ht := Lib.tabIs_of_head gPlaces gPlacesType Tryd.underlying100 Tryd.underlying99 (by kernel_rfl) (by kernel_rfl) h'
  exact fun i hi => ht.cell gPlaces i hi

theorem walk (A : Option Addr) (c : Nat) (D : List CardV) {w : World} (h : Deck w w.heap.size A D) (hl : D.length ≤ 9223372036854775807 ∧ ∀ d ∈ D, d.xs.length ≤ 9223372036854775807)
    (a b : Int) (_ : (Lit.int .i64 a).wf = true) (_ : (Lit.int .i64 b).wf = true) (w1 : World) (e1 : w = w1) (hL : laidMetH Tryd.prog Rows.fnExactIsSortedRow.laid w1) :
    Calls Tryd.prog 5 #[.slice A D.length c, .agg #[.int .i64 a, .int .i64 b]] w1 fun e w' => e = .returned (.bool true) ∧ Below w1.heap.size w1 w' := by
  subst e1
  have hP := places_of hL
  by_cases hn : (szTo D D.length : Int) ≤ 1048576
  · have hD : D.length ≤ 1048576 := by have := szTo_len D; omega
    have hd : ∀ d ∈ D, d.xs.length ≤ 1048576 := fun d hd => by have := szTo_each D d hd; omega
    refine walk_small A c D a b (sortedA (holes D) a b) (keysC (holes D) a b) w h hn (fun W E A B hE hK hC hB => ?_) (fun W E A B hW hE hK hC hB => ?_)
    · have := specIsSorted_any A E.length E B a b W hK hB (by rw [holes_length hE]; exact hD) (holes_each hE hd) hC
      rwa [hE] at this
    · have := implIsSorted_any A E.length E B a b W hK hB (by rw [holes_length hE]; exact hD) (holes_each hE hd) hC (hP.below hW)
      rwa [hE] at this
  · exact walk_big A c D a b w h hl.1 hl.2 (by omega)

/-- The door's own heap meets the condition: three closed facts. -/
theorem door_met (os : Os) (args : Array Value) : laidMetH Tryd.prog Rows.fnExactIsSortedRow.laid ((World.doorLaid Tryd.prog 4000 os).forCall (fun _ _ => 0) ⟨#[], args, []⟩).memory :=
  laidMetH_of_parts3 (fuel := 8) (laidMet_of_run' 8 (by kernel_rfl) (by kernel_rfl)) (by kernel_rfl) (by kernel_rfl)

set_option maxRecDepth 100000 in
theorem lifted (os : Os) (started : os.Started) (H : Type) (enc : TypeId × Value → H) :
    ReturnsInHanded {} Tryd.checked os 5 .any (fun w args => (Rows.fnExactIsSortedSpec.pre enc Tryd.prog Tryd.f5 [] false w args ∧ laidMetH Tryd.prog Rows.fnExactIsSortedRow.laid w) ∧ sizedMet enc Tryd.prog Tryd.f5 (OpenSpec.ofChange Rows.fnExactIsSortedSpec) false w args)
      (Rows.fnExactIsSortedSpec.post enc Tryd.prog Tryd.f5 false true false false) := by
  refine returnsInHanded_of_change_and (C := Tryd.checked) (X := fun w _ => laidMetH Tryd.prog Rows.fnExactIsSortedRow.laid w) (fun _ _ _ hh h => h.of_heap hh) own started (by kernel_rfl) Tryd.func5
    (ChangeSpec.witness_shaped (enc := enc) (C := Tryd.checked) (os := os) (X := fun w _ => laidMetH Tryd.prog Rows.fnExactIsSortedRow.laid w) false (World.doorLaid Tryd.prog 4000 os) #[.slice none 0 0, .agg #[.int .i64 0, .int .i64 0]] 8 rfl (World.shaped_of_RefB (by kernel_rfl) (by kernel_rfl)) (by kernel_rfl) (by kernel_rfl) (by kernel_rfl) (door_met os _)) ?_
  intro W base args ds gs before hval0 hW _ _ hL _
  have hval : ∀ (j : Nat) t v, Tryd.f5.params[j]? = some t → args[j]? = some v → Value.okWide Tryd.prog W .any base t v := hval0
  have hW' := hW
  obtain ⟨p, q, hA0, hV, rfl, _, _⟩ := hW
  have hA : DataW.TrodAll enc Tryd.prog W 0 (fun _ => true) true Tryd.f5.params.toList args.toList ds p := hA0
  rw [Tryd.params5] at hA hval
  obtain ⟨v0, vs0, d0, ds0, p0, q0, hargs, rfl, rfl, h0, r0⟩ := trodAll_cons hA
  obtain ⟨v1, vs1, d1, ds1, p1, q1, rfl, rfl, rfl, h1, r1⟩ := trodAll_cons r0
  obtain ⟨rfl, rfl, rfl⟩ := trodAll_nil r1
  obtain rfl : args = #[v0, v1] := by cases args; simp_all
  obtain ⟨g1, rfl⟩ : ∃ g1, gs = [g1] := by
    clear hL hW' hA hval
    match gs, hV with
    | [], h => exact h.elim
    | [g1], _ => exact ⟨g1, rfl⟩
    | _ :: _ :: _, ⟨_, _, _, _, _, _, _, _, _, _, h, _⟩ => exact h.elim
  obtain ⟨A0, c0, D0, rfl, i0, l0⟩ := open_deck (hval 0 22 v0 rfl rfl) h0
  obtain ⟨a1, b1, rfl, w1, u1⟩ := open_field (hval 1 24 v1 rfl rfl) h1
  refine (walk A0 c0 D0 i0 l0 a1 b1 w1 u1 W rfl hL).mono fun e W' ⟨he, hb⟩ => ?_
  subst he
  have hread : ∀ t ∈ Tryd.f5.params.toList, Tryd.prog.readableRec t = true ∧ t < Tryd.prog.types.size := by
    intro t ht
    rw [Tryd.params5] at ht
    have ht' : t = 22 ∨ t = 24 := by simpa using ht
    rcases ht' with rfl | rfl <;> exact ⟨by kernel_rfl, of_decide_eq_true (by kernel_rfl)⟩
  have hlt := fun x hx => hW'.lt x (List.mem_append_left q hx)
  refine ⟨_, rfl, _, [g1], _, [], _, q, hW', ?_, args_stay hread hA0 (fun x hx => hb.same (hlt x hx)) (fun x hx => by simpa using hlt x hx), ?_, ?_, fun h => by cases h⟩
  · exact trodAll_mk1 (shut_bool Tryd.underlying4 true)
  · exact Below.trodVars laidOut hb (by kernel_rfl) hV
  · exact World.keptBut_mono (fun x hx => ⟨hx, by rcases List.mem_append.1 hx with h' | h' <;> first | exact Or.inr (Or.inl h') | exact Or.inr (Or.inr h') | exact Or.inr (Or.inr (by simpa using h'))⟩) (hb.frame (· ∈ _))

theorem said : Rows.FnExactIsSortedSaid :=
  OpenClaim.holds_of_wide 5 Tryd.f5 rfl rfl rfl rfl rfl rfl rfl ⟨rfl, rfl, rfl, rfl, rfl⟩ rfl rfl rfl rfl rfl (by kernel_rfl) Tryd.func5 (by kernel_rfl)
    (of_decide_eq_true (by kernel_rfl)) (by unfold Func.isWrapper; first | (rw [if_pos (by decide +kernel)]; kernel_rfl) | (rw [if_neg (by decide +kernel)]; exact ⟨rfl, rfl⟩))
    (fun os started H enc _ => lifted os started H enc)

/-- No parameter wants a stand-in; the program's own looks are as the card says. -/
theorem plain (f : FuncId) (fn : Func) (hf : Tryd.pinned.checked.prog.funcNamed "loop.example/g01012/laws.FnExactIsSorted" = some f) (hfn : Tryd.pinned.checked.prog.funcs[f]? = some fn) :
    Rows.fnExactIsSortedCard.stood.looks = Tryd.pinned.checked.prog.looks [] ∧ ∀ (j : Nat) t, fn.params[j]? = some t → Tryd.pinned.checked.prog.wantsStandIn t = false := by
  obtain rfl : f = 5 := Option.some.inj ((show Tryd.prog.funcNamed "loop.example/g01012/laws.FnExactIsSorted" = some 5 by kernel_rfl).symm.trans hf) |>.symm
  obtain rfl : fn = Tryd.f5 := (Option.some.inj (Tryd.func5.symm.trans hfn)).symm
  refine ⟨by kernel_rfl, fun j t ht => ?_⟩
  rw [Tryd.params5] at ht
  have hm : t ∈ [22, 24] := by simpa using Array.mem_of_getElem? ht
  have hall : ([22, 24].all fun u => !Tryd.prog.wantsStandIn u) = true := by kernel_rfl
  exact (show Tryd.prog.wantsStandIn t = false by simpa using List.all_eq_true.1 hall t hm)

theorem proved : Rows.FnExactIsSortedCardSaid :=
  Claim7.holds_tied_plain_at .later [] _ _ _ _ said (fun _ h => by cases h) (by kernel_rfl) (fun _ h => by cases h) fnExactIsSorted_row_tie rfl ⟨rfl, rfl⟩ (by kernel_rfl) rfl plain (by kernel_rfl)
end Go.Proofs.YtjfogadcedgndacDoor.fnExactIsSorted
