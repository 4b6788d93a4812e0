/- For every counter and number, the law FnExactCarriesOf returns true: impl.CarriesOf answers as spec.CarriesOf and leaves its argument as it was. Condition: the library's table of powers of ten and the two errors of impl.dial hold what the program's text lays in them (the card ties that). -/
import Derived.Test.YtkiphejkgpfjjaaDoorCntCarI
import Derived.Test.YtkiphejkgpfjjaaDoorCntLaid
import Derived.Test.YtkiphejkgpfjjaaDoorBoxed
import Derived.Deep.DeepCutAuto
import Derived.Test.YtkiphejkgpfjjaaDoorCards
import Derived.Test.YtkiphejkgpfjjaaDoorTie
import Derived.LaidMore
import Derived.OpenVars
import Derived.Stop.Joined
import Derived.Stop.LaidErr
import Derived.Test.YtkiphejkgpfjjaaDoorCounter
import Derived.Test.YtkiphejkgpfjjaaDoorLaw
import Derived.Deep.RegionHeld3
namespace Go.Proofs.YtkiphejkgpfjjaaDoor.fnExactCarriesOf
open Go.ChangeShapes Go.WideShapes Go.ChangeAt Go.RowKit

theorem walk_big (A : Option Addr) (c n : Nat) (x : Int) (w : World) (hn : n ≤ 9223372036854775807) (hbig : 1048576 < n) :
    Calls Tryd.prog 6 #[.agg #[.slice A n c], .int .i64 x] w fun e w' => e = .returned (.bool true) ∧ Below w.heap.size w w' := by
  have hs := fun W => szCard_any A n c 1048576 W (by omega) (by omega) hn
  have e : (if (1048576 : Int) < (n : Int) then (-1 : Int) else 1048576 - n) = -1 := if_pos (by omega)
  rw [e] at hs
  have HS := Lib.hid hs
  clear hs e
  go_enter Tryd.func6, Tryd.ntmps6
  go_wp2_with fail
  refine (HS.out _).mono ?_
  rintro e w1 ⟨rfl, hb1⟩
  have B1 := Lib.hid (below_step (below_box w _) hb1)
  clear hb1
  go_wp2
  go_ret
  exact ⟨rfl, B1.out⟩

theorem walk_small (A : Option Addr) (c : Nat) (xs : List Int) (x : Int) (w : World) (h : Ints w w.heap.size A xs) (hn : xs.length ≤ 1048576) (aW aS : Addr) (hD : DialErrs w aW aS) (hP : Pow10 w) (hx0 : -9223372036854775808 ≤ x) (hx1 : x ≤ 9223372036854775807) :
    Calls Tryd.prog 6 #[.agg #[.slice A xs.length c], .int .i64 x] w fun e w' => e = .returned (.bool true) ∧ Below w.heap.size w w' := by
  have hs := fun W => szCard_any A xs.length c 1048576 W (by omega) (by omega) (by omega)
  have e : (if (1048576 : Int) < (xs.length : Int) then (-1 : Int) else 1048576 - xs.length) = 1048576 - xs.length := if_neg (by omega)
  rw [e] at hs
  have HS := Lib.hid hs
  have H := Lib.hid h
  clear hs e h
  obtain ⟨r, hr⟩ : ∃ r, carM xs x = r := ⟨_, rfl⟩
  obtain ⟨k, hk⟩ : ∃ k, numC xs x = k := ⟨_, rfl⟩
  have HR := Lib.hid hr
  have HK := Lib.hid hk
  have HP := Lib.hid hP
  have HD := Lib.hid hD
  clear hr hk hP hD
  go_enter Tryd.func6, Tryd.ntmps6
  go_wp2_with fail
  refine (HS.out _).mono ?_
  rintro e w1 ⟨rfl, hb⟩
  have B1 := Lib.hid (below_step (below_box w _) hb)
  have c1 := cell_kept (p := ⟨w.heap.size, 0, none⟩) (v := .slice A xs.length c) (by simp) hb
  clear hb HS
  go_wp2_with fail
  refine (toCard_any A c xs w.heap.size _ (H.out.below B1.out) (B1.out.size) hn).mono ?_
  rintro e w2 ⟨g2, rfl, hg2, hb, hrow⟩
  have B2 := Lib.hid (below_step B1.out hb)
  have R2 := Lib.hid hrow
  have c2 := cell_kept c1 hb
  clear hb hrow c1 B1 hg2
  go_wp2_with fail
  refine (specCarries_any (some ⟨g2, 0, none⟩) xs.length xs (g2 + 1) x _ R2.out.ints R2.out.lt hn).mono ?_
  rw [HR.out, HK.out]
  rintro e w3 ⟨rfl, hb⟩
  have B3 := Lib.hid (below_step B2.out hb)
  have c3 := cell_kept c2 hb
  clear hb c2 B2 R2
  go_wp2_with fail
  refine (toCard_any A c xs w.heap.size _ (H.out.below B3.out) (B3.out.size) hn).mono ?_
  rintro e w4 ⟨g4, rfl, hg4, hb, hrow⟩
  have B4 := Lib.hid (below_step B3.out hb)
  have R4 := Lib.hid hrow
  have c4 := cell_kept c3 hb
  clear hb hrow c3 B3 hg4
  go_wp2_with fail
  refine (implCarries_any (some ⟨g4, 0, none⟩) xs.length xs (g4 + 1) x _ (R4.out.alloc _).ints (R4.out.alloc _).lt hn aW aS (HD.out.below (below_step B4.out (below_box w4 _))) (HP.out.below (below_step B4.out (below_box w4 _))) hx0 hx1).mono ?_
  rw [HR.out, HK.out]
  rintro e w5 ⟨rfl, hb⟩
  have B5 := Lib.hid (below_step (below_step B4.out (below_box w4 _)) hb)
  have R5 := Lib.hid ((R4.out.alloc _).later hb)
  have c5 := cell_kept (p := ⟨w.heap.size, 0, none⟩) (v := .slice A xs.length c) (by rw [World.cell?_alloc_lt _ _ _ (World.block_lt_of_cell? _ _ c4)]; exact c4) hb
  have d5 := cell_kept (p := ⟨w4.heap.size, 0, none⟩) (v := .slice (some ⟨g4, 0, none⟩) xs.length xs.length) (by simp) hb
  clear hb c4 B4 R4 HR HK HP HD
  all_goals
    go_wp2
    go_region_held3 (fun W => W.cell? ⟨w.heap.size, 0, none⟩ = some (.slice A xs.length c) ∧ W.cell? ⟨w4.heap.size, 0, none⟩ = some (.slice (some ⟨g4, 0, none⟩) xs.length xs.length))
      (first | exact ⟨c5, d5⟩ | exact ⟨c6, d6⟩ | exact ⟨c7, d7⟩)
      (first
        | (go_at_call 16
           refine (toCard_any A c xs w.heap.size _ ?_ ?_ hn).mono ?_
           · exact H.out.below B5.out.drew
           · exact B5.out.drew.size
           rintro e w6 ⟨g6, rfl, hg6, hb, hrow⟩
           have B6 := Lib.hid (below_step B5.out.drew hb)
           have c6 := cell_kept (w := w5.drew) c5 hb
           have d6 := cell_kept (w := w5.drew) d5 hb
           have R6 := Lib.hid (R5.out.drew.later hb)
           have N6 := Lib.hid hrow
           clear hb hrow hg6)
        | (go_at_call 11
           refine (eqCard_any (some ⟨g4, 0, none⟩) (some ⟨g6, 0, none⟩) _ _ xs xs (g4 + 1) (g6 + 1) _ ?_ ?_ ?_ ?_ hn ?_).mono ?_
           · exact R6.out.ints
           · exact N6.out.ints
           · exact R6.out.lt
           · exact N6.out.lt
           · omega
           rintro e w7 ⟨rfl, hb⟩
           have B7 := Lib.hid (below_step B6.out hb)
           have c7 := cell_kept c6 hb
           have d7 := cell_kept d6 hb
           clear hb))
    go_wp2
    go_ret
    exact ⟨rfl, B7.out⟩

theorem tail2_of {W : World} (h : laidMetH Tryd.prog Rows.fnExactCarriesOfRow.laid W) : laidMet Tryd.prog (("internal/strconv.uint64pow10", Lib.tabData .u64 Lib.pow10Tab) :: ("loop.example/g01012/impl.errWheels", Rows.laid_loop_example_g01012_impl_errWheels) :: ("loop.example/g01012/impl.errSign", Rows.laid_loop_example_g01012_impl_errSign) :: []) W :=
  laidMet.tail (laidMet.tail (show laidMet Tryd.prog (("math/bits.deBruijn32tab", Rows.laid_math_bits_deBruijn32tab) :: ("math/bits.deBruijn64tab", Rows.laid_math_bits_deBruijn64tab) :: ("internal/strconv.uint64pow10", Lib.tabData .u64 Lib.pow10Tab) :: ("loop.example/g01012/impl.errWheels", Rows.laid_loop_example_g01012_impl_errWheels) :: ("loop.example/g01012/impl.errSign", Rows.laid_loop_example_g01012_impl_errSign) :: []) W from h))
theorem gPow : Tryd.prog.globalNamed "internal/strconv.uint64pow10" = some 3 := by kernel_rfl
theorem gPowType : (Tryd.prog.globals[3]?).map (·.type) = some 139 := by kernel_rfl
theorem pow_of {W : World} (h : laidMetH Tryd.prog Rows.fnExactCarriesOfRow.laid W) : Pow10 W :=
  Lib.tabIs_of_head (k := .u64) (zs := Lib.pow10Tab) gPow gPowType Tryd.underlying139 Tryd.underlying104 (by kernel_rfl) (by kernel_rfl) (tail2_of h)

theorem walk (A : Option Addr) (c : Nat) (xs : List Int) {w : World} (h : Ints w w.heap.size A xs) (hl : xs.length ≤ 9223372036854775807) (_ : ∀ n ∈ xs, (Lit.int .i64 n).wf = true) (x : Int) (hx : (Lit.int .i64 x).wf = true) (w1 : World) (e1 : w = w1) (hL : laidMetH Tryd.prog Rows.fnExactCarriesOfRow.laid w1) :
    Calls Tryd.prog 6 #[.agg #[.slice A xs.length c], .int .i64 x] w1 fun e w' => e = .returned (.bool true) ∧ Below w1.heap.size w1 w' := by
  subst e1
  obtain ⟨aW, aS, hD⟩ := dial_errs (laidMet.tail (tail2_of hL))
  have hb : -9223372036854775808 ≤ x ∧ x ≤ 9223372036854775807 := by
    simpa [Lit.wf, IntKind.min, IntKind.max, IntKind.signed, IntKind.bits] using hx
  by_cases hn : xs.length ≤ 1048576
  · exact walk_small A c xs x w h hn aW aS hD (pow_of hL) hb.1 hb.2
  · exact walk_big A c xs.length x w hl (by omega)

/-- The door's own heap meets the condition: three closed facts. -/
theorem door_met (os : Os) (args : Array Value) : laidMetH Tryd.prog Rows.fnExactCarriesOfRow.laid ((World.doorLaid Tryd.prog 4000 os).forCall (fun _ _ => 0) ⟨#[], args, []⟩).memory :=
  laidMetH_of_parts3 (fuel := 8) (laidMet_of_run' 8 (by kernel_rfl) (by kernel_rfl)) (by kernel_rfl) (by kernel_rfl)

set_option maxRecDepth 100000 in
theorem lifted (os : Os) (started : os.Started) (H : Type) (enc : TypeId × Value → H) :
    ReturnsInHanded {} Tryd.checked os 6 .any (fun w args => (Rows.fnExactCarriesOfSpec.pre enc Tryd.prog Tryd.f6 [] false w args ∧ laidMetH Tryd.prog Rows.fnExactCarriesOfRow.laid w) ∧ sizedMet enc Tryd.prog Tryd.f6 (OpenSpec.ofChange Rows.fnExactCarriesOfSpec) false w args)
      (Rows.fnExactCarriesOfSpec.post enc Tryd.prog Tryd.f6 false true false false) := by
  refine returnsInHanded_of_change_and (C := Tryd.checked) (X := fun w _ => laidMetH Tryd.prog Rows.fnExactCarriesOfRow.laid w) (fun _ _ _ hh h => h.of_heap hh) own started (by kernel_rfl) Tryd.func6
    (ChangeSpec.witness_shaped (enc := enc) (C := Tryd.checked) (os := os) (X := fun w _ => laidMetH Tryd.prog Rows.fnExactCarriesOfRow.laid w) false (World.doorLaid Tryd.prog 4000 os) #[.agg #[.slice none 0 0], .int .i64 0] 8 rfl (World.shaped_of_RefB (by kernel_rfl) (by kernel_rfl)) (by kernel_rfl) (by kernel_rfl) (by kernel_rfl) (door_met os _)) ?_
  intro W base args ds gs before hval0 hW _ _ hL _
  have hval : ∀ (j : Nat) t v, Tryd.f6.params[j]? = some t → args[j]? = some v → Value.okWide Tryd.prog W .any base t v := hval0
  have hW' := hW
  obtain ⟨p, q, hA0, hV, rfl, _, _⟩ := hW
  have hA : DataW.TrodAll enc Tryd.prog W 0 (fun _ => true) true Tryd.f6.params.toList args.toList ds p := hA0
  rw [Tryd.params6] at hA hval
  obtain ⟨v0, vs0, d0, ds0, p0, q0, hargs, rfl, rfl, h0, r0⟩ := trodAll_cons hA
  obtain ⟨v1, vs1, d1, ds1, p1, q1, rfl, rfl, rfl, h1, r1⟩ := trodAll_cons r0
  obtain ⟨rfl, rfl, rfl⟩ := trodAll_nil r1
  obtain rfl : args = #[v0, v1] := by cases args; simp_all
  obtain ⟨g1, g2, rfl⟩ : ∃ g1 g2, gs = [g1, g2] := by
    clear hL hW' hA hval
    match gs, hV with
    | [], h => exact h.elim
    | [_], ⟨_, _, _, _, _, _, _, _, _, _, h, _⟩ => exact h.elim
    | [g1, g2], _ => exact ⟨g1, g2, rfl⟩
    | _ :: _ :: _ :: _, ⟨_, _, _, _, _, _, _, _, _, _, ⟨_, _, _, _, _, _, _, _, _, _, h, _⟩, _⟩ => exact h.elim
  obtain ⟨A0, c0, xs0, rfl, i0, l0, w0⟩ := open_card (hval 0 30 v0 rfl rfl) h0
  obtain ⟨a1, rfl, rfl, rfl, w1⟩ := open_int Tryd.underlying2 (hval 1 2 v1 rfl rfl) h1
  refine (walk A0 c0 xs0 i0 l0 w0 a1 w1 W rfl hL).mono fun e W' ⟨he, hb⟩ => ?_
  subst he
  have hread : ∀ t ∈ Tryd.f6.params.toList, Tryd.prog.readableRec t = true ∧ t < Tryd.prog.types.size := by
    intro t ht
    rw [Tryd.params6] at ht
    have ht' : t = 30 ∨ t = 2 := by simpa using ht
    rcases ht' with rfl | rfl <;> exact ⟨by kernel_rfl, of_decide_eq_true (by kernel_rfl)⟩
  have hlt := fun x hx => hW'.lt x (List.mem_append_left q hx)
  refine ⟨_, rfl, _, [g1, g2], _, [], _, q, hW', ?_, args_stay hread hA0 (fun x hx => hb.same (hlt x hx)) (fun x hx => by simpa using hlt x hx), ?_, ?_, fun h => by cases h⟩
  · exact trodAll_mk1 (shut_bool Tryd.underlying4 true)
  · exact Below.trodVars laidOut hb (by kernel_rfl) hV
  · exact World.keptBut_mono (fun x hx => ⟨hx, by rcases List.mem_append.1 hx with h' | h' <;> first | exact Or.inr (Or.inl h') | exact Or.inr (Or.inr h') | exact Or.inr (Or.inr (by simpa using h'))⟩) (hb.frame (· ∈ _))

theorem said : Rows.FnExactCarriesOfSaid :=
  OpenClaim.holds_of_wide 6 Tryd.f6 rfl rfl rfl rfl rfl rfl rfl ⟨rfl, rfl, rfl, rfl, rfl⟩ rfl rfl rfl rfl rfl (by kernel_rfl) Tryd.func6 (by kernel_rfl)
    (of_decide_eq_true (by kernel_rfl)) (by unfold Func.isWrapper; first | (rw [if_pos (by decide +kernel)]; kernel_rfl) | (rw [if_neg (by decide +kernel)]; exact ⟨rfl, rfl⟩))
    (fun os started H enc _ => lifted os started H enc)

/-- No parameter wants a stand-in; the program's own looks are as the card says. -/
theorem plain (f : FuncId) (fn : Func) (hf : Tryd.pinned.checked.prog.funcNamed "loop.example/g01012/laws.FnExactCarriesOf" = some f) (hfn : Tryd.pinned.checked.prog.funcs[f]? = some fn) :
    Rows.fnExactCarriesOfCard.stood.looks = Tryd.pinned.checked.prog.looks [] ∧ ∀ (j : Nat) t, fn.params[j]? = some t → Tryd.pinned.checked.prog.wantsStandIn t = false := by
  obtain rfl : f = 6 := Option.some.inj ((show Tryd.prog.funcNamed "loop.example/g01012/laws.FnExactCarriesOf" = some 6 by kernel_rfl).symm.trans hf) |>.symm
  obtain rfl : fn = Tryd.f6 := (Option.some.inj (Tryd.func6.symm.trans hfn)).symm
  refine ⟨by kernel_rfl, fun j t ht => ?_⟩
  rw [Tryd.params6] at ht
  have hm : t ∈ [30, 2] := by simpa using Array.mem_of_getElem? ht
  have hall : ([30, 2].all fun u => !Tryd.prog.wantsStandIn u) = true := by kernel_rfl
  exact (show Tryd.prog.wantsStandIn t = false by simpa using List.all_eq_true.1 hall t hm)

theorem proved : Rows.FnExactCarriesOfCardSaid :=
  Claim7.holds_tied_plain_at .later [] _ _ _ _ said (fun _ h => by cases h) (by kernel_rfl) (fun _ h => by cases h) fnExactCarriesOf_row_tie rfl ⟨rfl, rfl⟩ (by kernel_rfl) rfl plain (by kernel_rfl)
end Go.Proofs.YtkiphejkgpfjjaaDoor.fnExactCarriesOf
