/- For every text, the law FnExactReadCounter returns true: impl.ReadCounter answers as spec.ReadCounter, in memory of its own. Condition: the two errors hold what the program's text lays in them (the card ties that). -/
import Derived.Test.YtkiphejkgpfjjabDoorCntRead
import Derived.Test.YtkiphejkgpfjjabDoorCntLaid
import Derived.Test.YtkiphejkgpfjjabDoorCounter
import Derived.Test.YtkiphejkgpfjjabDoorLaw
import Derived.Test.YtkiphejkgpfjjabDoorBoxed
import Derived.Test.YtkiphejkgpfjjabDoorCardAt
import Derived.Test.YtkiphejkgpfjjabDoorCards
import Derived.Test.YtkiphejkgpfjjabDoorTie
import Derived.LaidMore
import Derived.OpenVars
import Derived.Stop.Joined
import Derived.Laws.NewDeep
namespace Go.Proofs.YtkiphejkgpfjjabDoor.fnExactReadCounter
open Go.ChangeShapes Go.WideShapes Go.ChangeAt Go.RowKit
open Go.ChangeMaps (open_string)

theorem walk_big (s : ByteArray) (w : World) (hl : s.size ≤ 9223372036854775807) (hbig : 1048576 < s.size) :
    Calls Tryd.prog 3 #[.string s] w fun e w' => e = .returned (.bool true) ∧ Below w.heap.size w w' := by
  have h1 : (1048576 : Int) < (s.size : Int) := by omega
  go_enter Tryd.func3, Tryd.ntmps3
  go_wp2
  go_ret
  exact ⟨rfl, Below.refl _ _⟩

set_option maxRecDepth 100000 in
set_option maxHeartbeats 4000000 in
theorem walk_small (s : ByteArray) (X : List Int) (u : Bool) (w : World) (hs : s.size ≤ 1048576) (hx : X.length ≤ 1048576)
    (hv : ∀ W, Below w.heap.size w W → Calls Tryd.prog 5 #[.string s] W (GivesKO X u W))
    (hi : ∀ W, Below w.heap.size w W → Calls Tryd.prog 6 #[.string s] W (GivesKO X u W)) :
    Calls Tryd.prog 3 #[.string s] w fun e w' => e = .returned (.bool true) ∧ Below w.heap.size w w' := by
  have xe := fun A A' c c' W h h' => eqCardAt_any A A' c c' X W h h' hx
  have xm := fun A c lo hi W (h : IAt W lo hi A X) => markCardAt_any A c X lo hi 1 W h (by omega) (by omega) hx
  have xh := fun A c lo hi W (h : IAt W lo hi A (marks 1 X.length)) => heldCardAt_any A c X lo hi 1 W h (by omega) (by omega) hx
  have gx : ¬ 1 + (X.length : Int) < 0 := by omega
  have h1 : ¬ (1048576 : Int) < (s.size : Int) := by omega
  unfold GivesKO at hv hi
  obtain ⟨nX, hnX⟩ : ∃ n, X.length = n := ⟨_, rfl⟩
  simp only [hnX] at xe xm xh gx hv hi
  have XE := Lib.hid xe
  have XM := Lib.hid xm
  have XH := Lib.hid xh
  have CV := Lib.hid hv
  have CI := Lib.hid hi
  have B_0 : Hid (Below w.heap.size w w) := Below.refl _ _
  clear xe xm xh hv hi hnX hx
  go_enter Tryd.func3, Tryd.ntmps3
  go_wp2_with fail
  refine (CV.out _ B_0.out).mono ?_
  rintro e w1 ⟨AW, cW, rfl, hb, ho⟩
  have B_1 := Lib.hid (below_step B_0.out hb)
  have S_1 : Hid (w.heap.size ≤ w1.heap.size) := hb.size
  have W_1 := Lib.hid ho
  clear hb ho B_0
  have hb := below_box w1 (.cells #[.slice AW nX cW] 24)
  have hc := new_cell w1 (.slice AW nX cW) 24
  obtain ⟨w2, hW2⟩ : ∃ W, w1.alloc (.cells #[.slice AW nX cW] 24) = W := ⟨_, rfl⟩
  rw [hW2] at hb hc
  have B_2 := Lib.hid (below_step B_1.out hb)
  have W_2 := Lib.hid (W_1.out.later hb)
  have S_2 : Hid (w1.heap.size ≤ w2.heap.size) := hb.size
  have bW_2 := hc
  clear hb hc B_1 W_1
  have Z_bW : Hid (w1.heap.size < w2.heap.size) := by show _ < _; rw [← hW2, World.size_alloc]; omega
  go_wp2_with fail
  refine (CI.out _ B_2.out).mono ?_
  rintro e w3 ⟨AG, cG, rfl, hb, ho⟩
  have B_3 := Lib.hid (below_step B_2.out hb)
  have bW_3 := cell_kept bW_2 hb
  have W_3 := Lib.hid (W_2.out.later hb)
  have S_3 : Hid (w2.heap.size ≤ w3.heap.size) := hb.size
  have G_3 := Lib.hid ho
  clear hb ho B_2 bW_2 W_2
  have hb := below_box w3 (.cells #[.slice AG nX cG] 24)
  have hc := new_cell w3 (.slice AG nX cG) 24
  obtain ⟨w4, hW4⟩ : ∃ W, w3.alloc (.cells #[.slice AG nX cG] 24) = W := ⟨_, rfl⟩
  rw [hW4] at hb hc
  have B_4 := Lib.hid (below_step B_3.out hb)
  have bW_4 := cell_kept bW_3 hb
  have W_4 := Lib.hid (W_3.out.later hb)
  have G_4 := Lib.hid (G_3.out.later hb)
  have S_4 : Hid (w3.heap.size ≤ w4.heap.size) := hb.size
  have bG_4 := hc
  clear hb hc B_3 bW_3 W_3 G_3
  have Z_bG : Hid (w3.heap.size < w4.heap.size) := by show _ < _; rw [← hW4, World.size_alloc]; omega
  go_wp2_with fail
  refine (XE.out _ _ _ _ _ G_4.out.ints W_4.out.ints).mono ?_
  rintro e w5 ⟨rfl, hb⟩
  have B_5 := Lib.hid (below_step B_4.out hb)
  have bW_5 := cell_kept bW_4 hb
  have bG_5 := cell_kept bG_4 hb
  have W_5 := Lib.hid (W_4.out.later hb)
  have G_5 := Lib.hid (G_4.out.later hb)
  have S_5 : Hid (w4.heap.size ≤ w5.heap.size) := hb.size
  clear hb B_4 bW_4 bG_4 W_4 G_4
  go_wp2_with fail
  refine (XM.out _ _ _ _ _ G_5.out).mono ?_
  rintro e w6 ⟨rfl, hw, hrow⟩
  have B_6 := Lib.hid (below_within B_5.out hw (by have z1 := S_1.out; have z2 := S_2.out; have z3 := S_3.out; have z4 := S_4.out; have z5 := S_5.out; omega))
  have bW_6 := hw.cell bW_5 (by show w1.heap.size < _ ∨ _ ≤ w1.heap.size; have zz := Z_bW.out; have z1 := S_1.out; have z2 := S_2.out; have z3 := S_3.out; have z4 := S_4.out; have z5 := S_5.out; omega)
  have bG_6 := hw.cell bG_5 (by show w3.heap.size < _ ∨ _ ≤ w3.heap.size; have zz := Z_bG.out; have z1 := S_1.out; have z2 := S_2.out; have z3 := S_3.out; have z4 := S_4.out; have z5 := S_5.out; omega)
  have W_6 := Lib.hid (W_5.out.within hw (Or.inl (by have z1 := S_1.out; have z2 := S_2.out; have z3 := S_3.out; have z4 := S_4.out; have z5 := S_5.out; omega)))
  have G_6 := Lib.hid hrow
  have S_6 : Hid (w5.heap.size ≤ w6.heap.size) := hw.size
  clear hw hrow B_5 bW_5 bG_5 W_5 G_5
  go_wp2_with fail
  refine (XH.out _ _ _ _ _ G_6.out).mono ?_
  rintro e w7 ⟨rfl, hb⟩
  have B_7 := Lib.hid (below_step B_6.out hb)
  have bW_7 := cell_kept bW_6 hb
  have bG_7 := cell_kept bG_6 hb
  have W_7 := Lib.hid (W_6.out.later hb)
  have G_7 := Lib.hid (G_6.out.later hb)
  have S_7 : Hid (w6.heap.size ≤ w7.heap.size) := hb.size
  clear hb B_6 bW_6 bG_6 W_6 G_6
  go_wp2_with fail
  refine (CI.out _ B_7.out).mono ?_
  rintro e w8 ⟨AH, cH, rfl, hb, ho⟩
  have B_8 := Lib.hid (below_step B_7.out hb)
  have bW_8 := cell_kept bW_7 hb
  have bG_8 := cell_kept bG_7 hb
  have W_8 := Lib.hid (W_7.out.later hb)
  have G_8 := Lib.hid (G_7.out.later hb)
  have S_8 : Hid (w7.heap.size ≤ w8.heap.size) := hb.size
  have H_8 := Lib.hid ho
  clear hb ho B_7 bW_7 bG_7 W_7 G_7
  have hb := below_box w8 (.cells #[.slice AH nX cH] 24)
  have hc := new_cell w8 (.slice AH nX cH) 24
  obtain ⟨w9, hW9⟩ : ∃ W, w8.alloc (.cells #[.slice AH nX cH] 24) = W := ⟨_, rfl⟩
  rw [hW9] at hb hc
  have B_9 := Lib.hid (below_step B_8.out hb)
  have bW_9 := cell_kept bW_8 hb
  have bG_9 := cell_kept bG_8 hb
  have W_9 := Lib.hid (W_8.out.later hb)
  have G_9 := Lib.hid (G_8.out.later hb)
  have H_9 := Lib.hid (H_8.out.later hb)
  have S_9 : Hid (w8.heap.size ≤ w9.heap.size) := hb.size
  have bH_9 := hc
  clear hb hc B_8 bW_8 bG_8 W_8 G_8 H_8
  have Z_bH : Hid (w8.heap.size < w9.heap.size) := by show _ < _; rw [← hW9, World.size_alloc]; omega
  go_wp2_with fail
  refine (XE.out _ _ _ _ _ H_9.out.ints W_9.out.ints).mono ?_
  rintro e w10 ⟨rfl, hb⟩
  have B_10 := Lib.hid (below_step B_9.out hb)
  have bW_10 := cell_kept bW_9 hb
  have bG_10 := cell_kept bG_9 hb
  have bH_10 := cell_kept bH_9 hb
  have W_10 := Lib.hid (W_9.out.later hb)
  have G_10 := Lib.hid (G_9.out.later hb)
  have H_10 := Lib.hid (H_9.out.later hb)
  have S_10 : Hid (w9.heap.size ≤ w10.heap.size) := hb.size
  clear hb B_9 bW_9 bG_9 bH_9 W_9 G_9 H_9
  go_wp2_with fail
  refine (XH.out _ _ _ _ _ G_10.out).mono ?_
  rintro e w11 ⟨rfl, hb⟩
  have B_11 := Lib.hid (below_step B_10.out hb)
  have bW_11 := cell_kept bW_10 hb
  have bG_11 := cell_kept bG_10 hb
  have bH_11 := cell_kept bH_10 hb
  have W_11 := Lib.hid (W_10.out.later hb)
  have G_11 := Lib.hid (G_10.out.later hb)
  have H_11 := Lib.hid (H_10.out.later hb)
  have S_11 : Hid (w10.heap.size ≤ w11.heap.size) := hb.size
  clear hb B_10 bW_10 bG_10 bH_10 W_10 G_10 H_10
  go_wp2
  go_ret
  exact ⟨rfl, B_11.out⟩

theorem walk (s : ByteArray) (hl : s.size ≤ maxLen) (w : World) (hL : laidMetH Tryd.prog Rows.fnExactReadCounterRow.laid w) :
    Calls Tryd.prog 3 #[.string s] w fun e w' => e = .returned (.bool true) ∧ Below w.heap.size w w' := by
  obtain ⟨aW, aS, hD⟩ := dial_errs (show laidMet Tryd.prog Rows.fnExactReadCounterRow.laid w from hL)
  unfold maxLen at hl
  by_cases hm : s.size ≤ 1048576
  · exact walk_small s (readA s) (readB s) w hm (readA_length s hm) (fun W _ => specRead_any s hm W) (fun W hW => implRead_any s hm aW aS W (hD.below hW))
  · exact walk_big s w (by omega) (by omega)

/-- The door's own heap meets the condition: three closed facts. -/
theorem door_met (os : Os) (args : Array Value) : laidMetH Tryd.prog Rows.fnExactReadCounterRow.laid ((World.doorLaid Tryd.prog 4000 os).forCall (fun _ _ => 0) ⟨#[], args, []⟩).memory :=
  laidMetH_of_parts3 (fuel := 8) (laidMet_of_run' 8 (by kernel_rfl) (by kernel_rfl)) (by kernel_rfl) (by kernel_rfl)

set_option maxRecDepth 100000 in
theorem lifted (os : Os) (started : os.Started) (H : Type) (enc : TypeId × Value → H) :
    ReturnsInHanded {} Tryd.checked os 3 .any (fun w args => (Rows.fnExactReadCounterSpec.pre enc Tryd.prog Tryd.f3 [] false w args ∧ laidMetH Tryd.prog Rows.fnExactReadCounterRow.laid w) ∧ sizedMet enc Tryd.prog Tryd.f3 (OpenSpec.ofChange Rows.fnExactReadCounterSpec) false w args)
      (Rows.fnExactReadCounterSpec.post enc Tryd.prog Tryd.f3 false true false false) := by
  refine returnsInHanded_of_change_and (C := Tryd.checked) (X := fun w _ => laidMetH Tryd.prog Rows.fnExactReadCounterRow.laid w) (fun _ _ _ hh h => h.of_heap hh) own started (by kernel_rfl) Tryd.func3
    (ChangeSpec.witness_shaped (enc := enc) (C := Tryd.checked) (os := os) (X := fun w _ => laidMetH Tryd.prog Rows.fnExactReadCounterRow.laid w) false (World.doorLaid Tryd.prog 4000 os) #[.string ByteArray.empty] 8 rfl (World.shaped_of_RefB (by kernel_rfl) (by kernel_rfl)) (by kernel_rfl) (by kernel_rfl) (by kernel_rfl) (door_met os _)) ?_
  intro W base args ds gs before hval0 hW _ _ hL _
  have hval : ∀ (j : Nat) t v, Tryd.f3.params[j]? = some t → args[j]? = some v → Value.okWide Tryd.prog W .any base t v := hval0
  have hW' := hW
  obtain ⟨p, q, hA0, hV, rfl, _, _⟩ := hW
  have hA : DataW.TrodAll enc Tryd.prog W 0 (fun _ => true) true Tryd.f3.params.toList args.toList ds p := hA0
  rw [Tryd.params3] at hA hval
  obtain ⟨v0, vs0, d0, ds0, p0, q0, hargs, rfl, rfl, h0, r0⟩ := trodAll_cons hA
  obtain ⟨rfl, rfl, rfl⟩ := trodAll_nil r0
  obtain rfl : args = #[v0] := by cases args; simp_all
  obtain ⟨g1, g2, rfl⟩ : ∃ g1 g2, gs = [g1, g2] := by
    clear hL hW' hA hval
    match gs, hV with
    | [], h => exact h.elim
    | [_], ⟨_, _, _, _, _, _, _, _, _, _, h, _⟩ => exact h.elim
    | [g1, g2], _ => exact ⟨g1, g2, rfl⟩
    | _ :: _ :: _ :: _, ⟨_, _, _, _, _, _, _, _, _, _, ⟨_, _, _, _, _, _, _, _, _, _, h, _⟩, _⟩ => exact h.elim
  obtain ⟨s0, rfl, rfl, rfl, hs0⟩ := open_string Tryd.underlying9 (hval 0 9 v0 rfl rfl) h0
  refine (walk s0 hs0 W hL).mono fun e W' ⟨he, hb⟩ => ?_
  subst he
  have hread : ∀ t ∈ Tryd.f3.params.toList, Tryd.prog.readableRec t = true ∧ t < Tryd.prog.types.size := by
    intro t ht
    rw [Tryd.params3] at ht
    obtain rfl : t = 9 := by simpa using ht
    exact ⟨by kernel_rfl, of_decide_eq_true (by kernel_rfl)⟩
  have hlt := fun x hx => hW'.lt x (List.mem_append_left q hx)
  refine ⟨_, rfl, _, [g1, g2], _, [], _, q, hW', ?_, args_stay hread hA0 (fun x hx => hb.same (hlt x hx)) (fun x hx => by simpa using hlt x hx), ?_, ?_, fun h => by cases h⟩
  · exact trodAll_mk1 (shut_bool Tryd.underlying4 true)
  · exact Below.trodVars laidOut hb (by kernel_rfl) hV
  · exact World.keptBut_mono (fun x hx => ⟨hx, by rcases List.mem_append.1 hx with h' | h' <;> first | exact Or.inr (Or.inl h') | exact Or.inr (Or.inr h') | exact Or.inr (Or.inr (by simpa using h'))⟩) (hb.frame (· ∈ _))

theorem said : Rows.FnExactReadCounterSaid :=
  OpenClaim.holds_of_wide 3 Tryd.f3 rfl rfl rfl rfl rfl rfl rfl ⟨rfl, rfl, rfl, rfl, rfl⟩ rfl rfl rfl rfl rfl (by kernel_rfl) Tryd.func3 (by kernel_rfl)
    (of_decide_eq_true (by kernel_rfl)) (by unfold Func.isWrapper; first | (rw [if_pos (by decide +kernel)]; kernel_rfl) | (rw [if_neg (by decide +kernel)]; exact ⟨rfl, rfl⟩))
    (fun os started H enc _ => lifted os started H enc)

/-- No parameter wants a stand-in; the program's own looks are as the card says. -/
theorem plain (f : FuncId) (fn : Func) (hf : Tryd.pinned.checked.prog.funcNamed "loop.example/g01012/laws.FnExactReadCounter" = some f) (hfn : Tryd.pinned.checked.prog.funcs[f]? = some fn) :
    Rows.fnExactReadCounterCard.stood.looks = Tryd.pinned.checked.prog.looks [] ∧ ∀ (j : Nat) t, fn.params[j]? = some t → Tryd.pinned.checked.prog.wantsStandIn t = false := by
  obtain rfl : f = 3 := Option.some.inj ((show Tryd.prog.funcNamed "loop.example/g01012/laws.FnExactReadCounter" = some 3 by kernel_rfl).symm.trans hf) |>.symm
  obtain rfl : fn = Tryd.f3 := (Option.some.inj (Tryd.func3.symm.trans hfn)).symm
  refine ⟨by kernel_rfl, fun j t ht => ?_⟩
  rw [Tryd.params3] at ht
  have hm : t ∈ [9] := by simpa using Array.mem_of_getElem? ht
  have hall : ([9].all fun u => !Tryd.prog.wantsStandIn u) = true := by kernel_rfl
  exact (show Tryd.prog.wantsStandIn t = false by simpa using List.all_eq_true.1 hall t hm)

theorem proved : Rows.FnExactReadCounterCardSaid :=
  Claim7.holds_tied_plain_at .later [] _ _ _ _ said (fun _ h => by cases h) (by kernel_rfl) (fun _ h => by cases h) fnExactReadCounter_row_tie rfl ⟨rfl, rfl⟩ (by kernel_rfl) rfl plain (by kernel_rfl)
end Go.Proofs.YtkiphejkgpfjjabDoor.fnExactReadCounter
