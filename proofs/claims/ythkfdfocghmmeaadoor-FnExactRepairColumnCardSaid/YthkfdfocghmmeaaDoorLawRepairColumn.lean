/- For every number, the law FnExactRepairColumn returns true: impl.RepairColumn answers as spec.RepairColumn. Condition: the package-level table of places holds what the program's text lays in it (the card ties that). -/
import Derived.Test.YthkfdfocghmmeaaDoorNearest
import Derived.Test.YthkfdfocghmmeaaDoorCards
import Derived.Test.YthkfdfocghmmeaaDoorTie
import Derived.Test.YthkfdfocghmmeaaDoorLaw
import Derived.LaidMore
import Derived.OpenVars
import Derived.Stop.Joined
namespace Go.Proofs.YthkfdfocghmmeaaDoor.fnExactRepairColumn
open Go.ChangeShapes Go.WideShapes Go.ChangeAt Go.RowKit

theorem gPlaces : Tryd.prog.globalNamed "loop.example/g01012/impl.places" = some 0 := by kernel_rfl
theorem gPlacesType : (Tryd.prog.globals[0]?).map (·.type) = some 70 := by kernel_rfl

/-- What the row's list gives: each cell of the table. -/
theorem places_of {W : World} (h : laidMetH Tryd.prog Rows.fnExactRepairColumnRow.laid W) : Places W := by
  have h' : laidMet Tryd.prog (("loop.example/g01012/impl.places", Lib.tabData .i8 placesL) :: []) W := h
  have ht := Lib.tabIs_of_head gPlaces gPlacesType Tryd.underlying70 Tryd.underlying69 (by kernel_rfl) (by kernel_rfl) h'
  exact fun i hi => ht.cell gPlaces i hi

theorem walk (m : Int) (_ : (Lit.int .i64 m).wf = true) (w : World) (hL : laidMetH Tryd.prog Rows.fnExactRepairColumnRow.laid w) :
    Calls Tryd.prog 3 #[.int .i64 m] w fun e w' => e = .returned (.bool true) ∧ Below w.heap.size w w' := by
  have hp := places_of hL
  have hs := fun W => specRepairColumn_any m W
  have hi := implRepairColumn_any m w hp
  obtain ⟨a, ha⟩ : ∃ a, (if inB m 0 4095 = true then charR (nearK m) else 0) = a := ⟨_, rfl⟩
  obtain ⟨b, hb⟩ : ∃ b, (if inB m 0 4095 = true then (df m (codeS (charR (nearK m))) : Int) else 0) = b := ⟨_, rfl⟩
  obtain ⟨c, hc⟩ : ∃ c, (if inB m 0 4095 = true then (0 : Int) else 2) = c := ⟨_, rfl⟩
  rw [ha, hb, hc] at hs hi
  have HS := Lib.hid hs
  have HI := Lib.hid hi
  clear hs hi ha hb hc hp hL
  go_enter Tryd.func3, Tryd.ntmps3
  go_wp2_with (first | (go_at_call 5; refine (HS.out _).mono ?_; rintro e w' ⟨rfl, rfl⟩) | fail)
  refine HI.out.mono ?_
  rintro e w1 ⟨rfl, hb⟩
  have B1 := Lib.hid hb
  clear hb
  go_wp2
  go_ret
  exact ⟨rfl, B1.out⟩

/-- The door's own heap meets the condition: three closed facts. -/
theorem door_met (os : Os) (args : Array Value) : laidMetH Tryd.prog Rows.fnExactRepairColumnRow.laid ((World.doorLaid Tryd.prog 4000 os).forCall (fun _ _ => 0) ⟨#[], args, []⟩).memory :=
  laidMetH_of_parts3 (fuel := 8) (laidMet_of_run' 8 (by kernel_rfl) (by kernel_rfl)) (by kernel_rfl) (by kernel_rfl)

set_option maxRecDepth 100000 in
theorem lifted (os : Os) (started : os.Started) (H : Type) (enc : TypeId × Value → H) :
    ReturnsInHanded {} Tryd.checked os 3 .any (fun w args => (Rows.fnExactRepairColumnSpec.pre enc Tryd.prog Tryd.f3 [] false w args ∧ laidMetH Tryd.prog Rows.fnExactRepairColumnRow.laid w) ∧ sizedMet enc Tryd.prog Tryd.f3 (OpenSpec.ofChange Rows.fnExactRepairColumnSpec) false w args)
      (Rows.fnExactRepairColumnSpec.post enc Tryd.prog Tryd.f3 false true false false) := by
  refine returnsInHanded_of_change_and (C := Tryd.checked) (X := fun w _ => laidMetH Tryd.prog Rows.fnExactRepairColumnRow.laid w) (fun _ _ _ hh h => h.of_heap hh) own started (by kernel_rfl) Tryd.func3
    (ChangeSpec.witness_shaped (enc := enc) (C := Tryd.checked) (os := os) (X := fun w _ => laidMetH Tryd.prog Rows.fnExactRepairColumnRow.laid w) false (World.doorLaid Tryd.prog 4000 os) #[.int .i64 0] 8 rfl (World.shaped_of_RefB (by kernel_rfl) (by kernel_rfl)) (by kernel_rfl) (by kernel_rfl) (by kernel_rfl) (door_met os _)) ?_
  intro W base args ds gs before hval0 hW _ _ hL _
  have hval : ∀ (j : Nat) t v, Tryd.f3.params[j]? = some t → args[j]? = some v → Value.okWide Tryd.prog W .any base t v := hval0
  have hW' := hW
  obtain ⟨p, q, hA0, hV, rfl, _, _⟩ := hW
  have hA : DataW.TrodAll enc Tryd.prog W 0 (fun _ => true) true Tryd.f3.params.toList args.toList ds p := hA0
  rw [Tryd.params3] at hA hval
  obtain ⟨v0, vs0, d0, ds0, p0, q0, hargs, rfl, rfl, h0, r0⟩ := trodAll_cons hA
  obtain ⟨rfl, rfl, rfl⟩ := trodAll_nil r0
  obtain rfl : args = #[v0] := by cases args; simp_all
  obtain ⟨g1, rfl⟩ : ∃ g1, gs = [g1] := by
    clear hL hW' hA hval
    match gs, hV with
    | [], h => exact h.elim
    | [g1], _ => exact ⟨g1, rfl⟩
    | _ :: _ :: _, ⟨_, _, _, _, _, _, _, _, _, _, h, _⟩ => exact h.elim
  obtain ⟨a0, rfl, rfl, rfl, w0⟩ := open_int Tryd.underlying2 (hval 0 2 v0 rfl rfl) h0
  refine (walk a0 w0 W hL).mono fun e W' ⟨he, hb⟩ => ?_
  subst he
  have hread : ∀ t ∈ Tryd.f3.params.toList, Tryd.prog.readableRec t = true ∧ t < Tryd.prog.types.size := by
    intro t ht
    rw [Tryd.params3] at ht
    obtain rfl : t = 2 := by simpa using ht
    exact ⟨by kernel_rfl, of_decide_eq_true (by kernel_rfl)⟩
  have hlt := fun x hx => hW'.lt x (List.mem_append_left q hx)
  refine ⟨_, rfl, _, [g1], _, [], _, q, hW', ?_, args_stay hread hA0 (fun x hx => hb.same (hlt x hx)) (fun x hx => by simpa using hlt x hx), ?_, ?_, fun h => by cases h⟩
  · exact trodAll_mk1 (shut_bool Tryd.underlying4 true)
  · exact Below.trodVars laidOut hb (by kernel_rfl) hV
  · exact World.keptBut_mono (fun x hx => by first | exact ⟨hx, Or.inr (Or.inr (by simpa using hx))⟩ | exact ⟨hx, Or.inr (Or.inl hx)⟩) (hb.frame (· ∈ _))

theorem said : Rows.FnExactRepairColumnSaid :=
  OpenClaim.holds_of_wide 3 Tryd.f3 rfl rfl rfl rfl rfl rfl rfl ⟨rfl, rfl, rfl, rfl, rfl⟩ rfl rfl rfl rfl rfl (by kernel_rfl) Tryd.func3 (by kernel_rfl)
    (of_decide_eq_true (by kernel_rfl)) (by unfold Func.isWrapper; first | (rw [if_pos (by decide +kernel)]; kernel_rfl) | (rw [if_neg (by decide +kernel)]; exact ⟨rfl, rfl⟩))
    (fun os started H enc _ => lifted os started H enc)

/-- No parameter wants a stand-in; the program's own looks are as the card says. -/
theorem plain (f : FuncId) (fn : Func) (hf : Tryd.pinned.checked.prog.funcNamed "loop.example/g01012/laws.FnExactRepairColumn" = some f) (hfn : Tryd.pinned.checked.prog.funcs[f]? = some fn) :
    Rows.fnExactRepairColumnCard.stood.looks = Tryd.pinned.checked.prog.looks [] ∧ ∀ (j : Nat) t, fn.params[j]? = some t → Tryd.pinned.checked.prog.wantsStandIn t = false := by
  obtain rfl : f = 3 := Option.some.inj ((show Tryd.prog.funcNamed "loop.example/g01012/laws.FnExactRepairColumn" = some 3 by kernel_rfl).symm.trans hf) |>.symm
  obtain rfl : fn = Tryd.f3 := (Option.some.inj (Tryd.func3.symm.trans hfn)).symm
  refine ⟨by kernel_rfl, fun j t ht => ?_⟩
  rw [Tryd.params3] at ht
  have hm : t ∈ [2] := by simpa using Array.mem_of_getElem? ht
  have hall : ([2].all fun u => !Tryd.prog.wantsStandIn u) = true := by kernel_rfl
  exact (show Tryd.prog.wantsStandIn t = false by simpa using List.all_eq_true.1 hall t hm)

theorem proved : Rows.FnExactRepairColumnCardSaid :=
  Claim7.holds_tied_plain_at .later [] _ _ _ _ said (fun _ h => by cases h) (by kernel_rfl) (fun _ h => by cases h) fnExactRepairColumn_row_tie rfl ⟨rfl, rfl⟩ (by kernel_rfl) rfl plain (by kernel_rfl)
end Go.Proofs.YthkfdfocghmmeaaDoor.fnExactRepairColumn
