/- For every counter, the law FnExactCounterText returns true: impl.CounterText gives the text that spec.CounterText gives and leaves its argument as it was. Condition: the library's table of powers of ten holds what the program's text lays in it (the card ties that). -/
import Derived.Test.YtkiphejkgpfjjaaDoorCntText
import Derived.Test.YtkiphejkgpfjjaaDoorBoxed
import Derived.Deep.DeepCutAuto
import Derived.Test.YtkiphejkgpfjjaaDoorCards
import Derived.Test.YtkiphejkgpfjjaaDoorTie
import Derived.LaidMore
import Derived.OpenVars
import Derived.Stop.Joined
import Derived.Stop.LaidErr
import Derived.Test.YtkiphejkgpfjjaaDoorCounter
import Derived.Test.YtkiphejkgpfjjaaDoorLaw
import Derived.Deep.RegionHeld3
namespace Go.Proofs.YtkiphejkgpfjjaaDoor.fnExactCounterText
open Go.ChangeShapes Go.WideShapes Go.ChangeAt Go.RowKit

theorem walk_big (A : Option Addr) (c n : Nat) (w : World) (hn : n ≤ 9223372036854775807) (hbig : 1048576 < n) :
    Calls Tryd.prog 8 #[.agg #[.slice A n c]] w fun e w' => e = .returned (.bool true) ∧ Below w.heap.size w w' := by
  have hs := fun W => szCard_any A n c 1048576 W (by omega) (by omega) hn
  have e : (if (1048576 : Int) < (n : Int) then (-1 : Int) else 1048576 - n) = -1 := if_pos (by omega)
  rw [e] at hs
  have HS := Lib.hid hs
  clear hs e
  go_enter Tryd.func8, Tryd.ntmps8
  go_wp2_with fail
  refine (HS.out _).mono ?_
  rintro e w1 ⟨rfl, hb1⟩
  have B1 := Lib.hid (below_step (below_box w _) hb1)
  clear hb1
  go_wp2
  go_ret
  exact ⟨rfl, B1.out⟩

theorem walk_small (A : Option Addr) (c : Nat) (xs : List Int) (w : World) (h : Ints w w.heap.size A xs) (hn : xs.length ≤ 1048576) (hP : Pow10 w) :
    Calls Tryd.prog 8 #[.agg #[.slice A xs.length c]] w fun e w' => e = .returned (.bool true) ∧ Below w.heap.size w w' := by
  have hs := fun W => szCard_any A xs.length c 1048576 W (by omega) (by omega) (by omega)
  have e : (if (1048576 : Int) < (xs.length : Int) then (-1 : Int) else 1048576 - xs.length) = 1048576 - xs.length := if_neg (by omega)
  rw [e] at hs
  have HS := Lib.hid hs
  have H := Lib.hid h
  clear hs e h
  obtain ⟨r, hr⟩ : ∃ r, textA xs = r := ⟨_, rfl⟩
  have HR := Lib.hid hr
  have HP := Lib.hid hP
  clear hr hP
  go_enter Tryd.func8, Tryd.ntmps8
  go_wp2_with fail
  refine (HS.out _).mono ?_
  rintro e w1 ⟨rfl, hb⟩
  have B1 := Lib.hid (below_step (below_box w _) hb)
  have c1 := cell_kept (p := ⟨w.heap.size, 0, none⟩) (v := .slice A xs.length c) (by simp) hb
  clear hb HS
  go_wp2_with fail
  refine (toCard_any A c xs w.heap.size _ (H.out.below B1.out) (B1.out.size) hn).mono ?_
  rintro e w2 ⟨g2, rfl, hg2, hb, hrow⟩
  have B2 := Lib.hid (below_step B1.out hb)
  have R2 := Lib.hid hrow
  have c2 := cell_kept c1 hb
  clear hb hrow c1 B1 hg2
  go_wp2_with fail
  refine (specText_any (some ⟨g2, 0, none⟩) xs.length xs (g2 + 1) _ R2.out.ints R2.out.lt hn).mono ?_
  rw [HR.out]
  rintro e w3 ⟨rfl, hb⟩
  have B3 := Lib.hid (below_step B2.out hb)
  have c3 := cell_kept c2 hb
  clear hb c2 B2 R2
  go_wp2_with fail
  refine (toCard_any A c xs w.heap.size _ (H.out.below B3.out) (B3.out.size) hn).mono ?_
  rintro e w4 ⟨g4, rfl, hg4, hb, hrow⟩
  have B4 := Lib.hid (below_step B3.out hb)
  have R4 := Lib.hid hrow
  have c4 := cell_kept c3 hb
  clear hb hrow c3 B3 hg4
  go_wp2_with fail
  refine (implText_any (some ⟨g4, 0, none⟩) xs.length xs (g4 + 1) _ (R4.out.alloc _).ints (R4.out.alloc _).lt hn (HP.out.below (below_step B4.out (below_box w4 _)))).mono ?_
  rw [HR.out]
  rintro e w5 ⟨rfl, hb⟩
  have B5 := Lib.hid (below_step (below_step B4.out (below_box w4 _)) hb)
  have R5 := Lib.hid ((R4.out.alloc _).later hb)
  have c5 := cell_kept (p := ⟨w.heap.size, 0, none⟩) (v := .slice A xs.length c) (by rw [World.cell?_alloc_lt _ _ _ (World.block_lt_of_cell? _ _ c4)]; exact c4) hb
  have d5 := cell_kept (p := ⟨w4.heap.size, 0, none⟩) (v := .slice (some ⟨g4, 0, none⟩) xs.length xs.length) (by simp) hb
  clear hb c4 B4 R4 HR HP
  all_goals
    go_wp2
    go_region_held3 (fun W => W.cell? ⟨w.heap.size, 0, none⟩ = some (.slice A xs.length c) ∧ W.cell? ⟨w4.heap.size, 0, none⟩ = some (.slice (some ⟨g4, 0, none⟩) xs.length xs.length))
      (first | exact ⟨c5, d5⟩ | exact ⟨c6, d6⟩ | exact ⟨c7, d7⟩)
      (first
        | (go_at_call 16
           refine (toCard_any A c xs w.heap.size _ ?_ ?_ hn).mono ?_
           · exact H.out.below B5.out.drew
           · exact B5.out.drew.size
           rintro e w6 ⟨g6, rfl, hg6, hb, hrow⟩
           have B6 := Lib.hid (below_step B5.out.drew hb)
           have c6 := cell_kept (w := w5.drew) c5 hb
           have d6 := cell_kept (w := w5.drew) d5 hb
           have R6 := Lib.hid (R5.out.drew.later hb)
           have N6 := Lib.hid hrow
           clear hb hrow hg6)
        | (go_at_call 11
           refine (eqCard_any (some ⟨g4, 0, none⟩) (some ⟨g6, 0, none⟩) _ _ xs xs (g4 + 1) (g6 + 1) _ ?_ ?_ ?_ ?_ hn ?_).mono ?_
           · exact R6.out.ints
           · exact N6.out.ints
           · exact R6.out.lt
           · exact N6.out.lt
           · omega
           rintro e w7 ⟨rfl, hb⟩
           have B7 := Lib.hid (below_step B6.out hb)
           have c7 := cell_kept c6 hb
           have d7 := cell_kept d6 hb
           clear hb))
    go_wp2
    go_ret
    exact ⟨rfl, B7.out⟩

theorem laid_list {W : World} (h : laidMetH Tryd.prog Rows.fnExactCounterTextRow.laid W) : laidMet Tryd.prog (("math/bits.deBruijn32tab", Rows.laid_math_bits_deBruijn32tab) :: ("math/bits.deBruijn64tab", Rows.laid_math_bits_deBruijn64tab) :: ("internal/strconv.uint64pow10", Lib.tabData .u64 Lib.pow10Tab) :: []) W := h
theorem gPow : Tryd.prog.globalNamed "internal/strconv.uint64pow10" = some 3 := by kernel_rfl
theorem gPowType : (Tryd.prog.globals[3]?).map (·.type) = some 139 := by kernel_rfl
theorem pow_of {W : World} (h : laidMetH Tryd.prog Rows.fnExactCounterTextRow.laid W) : Pow10 W :=
  Lib.tabIs_of_head (k := .u64) (zs := Lib.pow10Tab) gPow gPowType Tryd.underlying139 Tryd.underlying104 (by kernel_rfl) (by kernel_rfl) (laidMet.tail (laidMet.tail (laid_list h)))

theorem walk (A : Option Addr) (c : Nat) (xs : List Int) {w : World} (h : Ints w w.heap.size A xs) (hl : xs.length ≤ 9223372036854775807) (_ : ∀ n ∈ xs, (Lit.int .i64 n).wf = true) (w1 : World) (e1 : w = w1) (hL : laidMetH Tryd.prog Rows.fnExactCounterTextRow.laid w1) :
    Calls Tryd.prog 8 #[.agg #[.slice A xs.length c]] w1 fun e w' => e = .returned (.bool true) ∧ Below w1.heap.size w1 w' := by
  subst e1
  by_cases hn : xs.length ≤ 1048576
  · exact walk_small A c xs w h hn (pow_of hL)
  · exact walk_big A c xs.length w hl (by omega)

/-- The door's own heap meets the condition: three closed facts. -/
theorem door_met (os : Os) (args : Array Value) : laidMetH Tryd.prog Rows.fnExactCounterTextRow.laid ((World.doorLaid Tryd.prog 4000 os).forCall (fun _ _ => 0) ⟨#[], args, []⟩).memory :=
  laidMetH_of_parts3 (fuel := 8) (laidMet_of_run' 8 (by kernel_rfl) (by kernel_rfl)) (by kernel_rfl) (by kernel_rfl)

set_option maxRecDepth 100000 in
theorem lifted (os : Os) (started : os.Started) (H : Type) (enc : TypeId × Value → H) :
    ReturnsInHanded {} Tryd.checked os 8 .any (fun w args => (Rows.fnExactCounterTextSpec.pre enc Tryd.prog Tryd.f8 [] false w args ∧ laidMetH Tryd.prog Rows.fnExactCounterTextRow.laid w) ∧ sizedMet enc Tryd.prog Tryd.f8 (OpenSpec.ofChange Rows.fnExactCounterTextSpec) false w args)
      (Rows.fnExactCounterTextSpec.post enc Tryd.prog Tryd.f8 false true false false) := by
  refine returnsInHanded_of_change_and (C := Tryd.checked) (X := fun w _ => laidMetH Tryd.prog Rows.fnExactCounterTextRow.laid w) (fun _ _ _ hh h => h.of_heap hh) own started (by kernel_rfl) Tryd.func8
    (ChangeSpec.witness_shaped (enc := enc) (C := Tryd.checked) (os := os) (X := fun w _ => laidMetH Tryd.prog Rows.fnExactCounterTextRow.laid w) false (World.doorLaid Tryd.prog 4000 os) #[.agg #[.slice none 0 0]] 8 rfl (World.shaped_of_RefB (by kernel_rfl) (by kernel_rfl)) (by kernel_rfl) (by kernel_rfl) (by kernel_rfl) (door_met os _)) ?_
  intro W base args ds gs before hval0 hW _ _ hL _
  have hval : ∀ (j : Nat) t v, Tryd.f8.params[j]? = some t → args[j]? = some v → Value.okWide Tryd.prog W .any base t v := hval0
  have hW' := hW
  obtain ⟨p, q, hA0, hV, rfl, _, _⟩ := hW
  have hA : DataW.TrodAll enc Tryd.prog W 0 (fun _ => true) true Tryd.f8.params.toList args.toList ds p := hA0
  rw [Tryd.params8] at hA hval
  obtain ⟨v0, vs0, d0, ds0, p0, q0, hargs, rfl, rfl, h0, r0⟩ := trodAll_cons hA
  obtain ⟨rfl, rfl, rfl⟩ := trodAll_nil r0
  obtain rfl : args = #[v0] := by cases args; simp_all
  obtain ⟨rfl, rfl⟩ := trodVars_none hV
  obtain ⟨A0, c0, xs0, rfl, i0, l0, w0⟩ := open_card (hval 0 30 v0 rfl rfl) h0
  refine (walk A0 c0 xs0 i0 l0 w0 W rfl hL).mono fun e W' ⟨he, hb⟩ => ?_
  subst he
  refine ⟨_, rfl, law_post hW' rfl rfl ?_ rfl rfl rfl hb⟩
  intro t ht
  rw [Tryd.params8] at ht
  obtain rfl : t = 30 := by simpa using ht
  exact ⟨by kernel_rfl, of_decide_eq_true (by kernel_rfl)⟩

theorem said : Rows.FnExactCounterTextSaid :=
  OpenClaim.holds_of_wide 8 Tryd.f8 rfl rfl rfl rfl rfl rfl rfl ⟨rfl, rfl, rfl, rfl, rfl⟩ rfl rfl rfl rfl rfl (by kernel_rfl) Tryd.func8 (by kernel_rfl)
    (of_decide_eq_true (by kernel_rfl)) (by unfold Func.isWrapper; first | (rw [if_pos (by decide +kernel)]; kernel_rfl) | (rw [if_neg (by decide +kernel)]; exact ⟨rfl, rfl⟩))
    (fun os started H enc _ => lifted os started H enc)

/-- No parameter wants a stand-in; the program's own looks are as the card says. -/
theorem plain (f : FuncId) (fn : Func) (hf : Tryd.pinned.checked.prog.funcNamed "loop.example/g01012/laws.FnExactCounterText" = some f) (hfn : Tryd.pinned.checked.prog.funcs[f]? = some fn) :
    Rows.fnExactCounterTextCard.stood.looks = Tryd.pinned.checked.prog.looks [] ∧ ∀ (j : Nat) t, fn.params[j]? = some t → Tryd.pinned.checked.prog.wantsStandIn t = false := by
  obtain rfl : f = 8 := Option.some.inj ((show Tryd.prog.funcNamed "loop.example/g01012/laws.FnExactCounterText" = some 8 by kernel_rfl).symm.trans hf) |>.symm
  obtain rfl : fn = Tryd.f8 := (Option.some.inj (Tryd.func8.symm.trans hfn)).symm
  refine ⟨by kernel_rfl, fun j t ht => ?_⟩
  rw [Tryd.params8] at ht
  have hm : t ∈ [30] := by simpa using Array.mem_of_getElem? ht
  have hall : ([30].all fun u => !Tryd.prog.wantsStandIn u) = true := by kernel_rfl
  exact (show Tryd.prog.wantsStandIn t = false by simpa using List.all_eq_true.1 hall t hm)

theorem proved : Rows.FnExactCounterTextCardSaid :=
  Claim7.holds_tied_plain_at .later [] _ _ _ _ said (fun _ h => by cases h) (by kernel_rfl) (fun _ h => by cases h) fnExactCounterText_row_tie rfl ⟨rfl, rfl⟩ (by kernel_rfl) rfl plain (by kernel_rfl)
end Go.Proofs.YtkiphejkgpfjjaaDoor.fnExactCounterText
