/- For every list of copies, the law FnExactCopiesText returns true: impl.CopiesText answers as spec.CopiesText and leaves its argument as it was. Condition: the library's table of powers of ten holds what the program's text lays in it (the card ties that). -/
import Derived.Test.YtamookdlbmbncaaDoorCopyText
import Derived.Test.YtamookdlbmbncaaDoorCopyMem
import Derived.Test.YtamookdlbmbncaaDoorPost
import Derived.Test.YtamookdlbmbncaaDoorCards
import Derived.Test.YtamookdlbmbncaaDoorTie
import Derived.LaidMore
import Derived.OpenVars
import Derived.Stop.Joined
import Derived.Stop.LaidErr
namespace Go.Proofs.YtamookdlbmbncaaDoor.fnExactCopiesText
open Go.ChangeShapes Go.WideShapes Go.ChangeAt Go.RowKit

theorem gPow : Tryd.prog.globalNamed "internal/strconv.uint64pow10" = some 3 := by kernel_rfl
theorem gPowType : (Tryd.prog.globals[3]?).map (·.type) = some 171 := by kernel_rfl

theorem laid_list {W : World} (h : laidMetH Tryd.prog Rows.fnExactCopiesTextRow.laid W) : laidMet Tryd.prog (("math/bits.deBruijn32tab", Rows.laid_math_bits_deBruijn32tab) :: ("math/bits.deBruijn64tab", Rows.laid_math_bits_deBruijn64tab) :: ("internal/strconv.uint64pow10", Lib.tabData .u64 Lib.pow10Tab) :: []) W := h
/-- What the row's list gives: the powers of ten. -/
theorem pow_of {W : World} (h : laidMetH Tryd.prog Rows.fnExactCopiesTextRow.laid W) : Pow10 W :=
  Lib.tabIs_of_head (k := .u64) (zs := Lib.pow10Tab) gPow gPowType Tryd.underlying171 Tryd.underlying93 (by kernel_rfl) (by kernel_rfl) (laidMet.tail (laidMet.tail (laid_list h)))

theorem walk_big (A : Option Addr) (n c : Nat) (w : World) (hn : n ≤ 9223372036854775807) (hbig : 1048576 < n) :
    Calls Tryd.prog 4 #[.slice A n c] w fun e w' => e = .returned (.bool true) ∧ Below w.heap.size w w' := by
  have hs := fun W => szCopies_any A n c 1048576 W (by omega) (by omega) hn
  have e : (if (1048576 : Int) < (n : Int) then (-1 : Int) else 1048576 - n) = -1 := if_pos (by omega)
  rw [e] at hs
  have HS := Lib.hid hs
  clear hs e
  go_enter Tryd.func4, Tryd.ntmps4
  go_wp2_with fail
  refine (HS.out _).mono ?_
  rintro e w1 ⟨rfl, rfl⟩
  go_wp2
  go_ret
  exact ⟨rfl, Below.refl _ _⟩

set_option maxRecDepth 100000 in
set_option maxHeartbeats 4000000 in
theorem walk_small (A : Option Addr) (c : Nat) (P : List (Int × Int)) (T : ByteArray) (w : World) (h : Copies w w.heap.size A P) (hn : P.length ≤ 1048576)
    (hs : ∀ (W : World) (A : Option Addr) (B c : Nat), Copies W B A P → B ≤ W.heap.size → Calls Tryd.prog 15 #[.slice A P.length c] W fun e w' => e = .returned (.string T) ∧ Below W.heap.size W w')
    (hi : ∀ (W : World) (A : Option Addr) (B c : Nat), Below w.heap.size w W → Copies W B A P → B ≤ W.heap.size → Calls Tryd.prog 17 #[.slice A P.length c] W fun e w' => e = .returned (.string T) ∧ Below W.heap.size W w') :
    Calls Tryd.prog 4 #[.slice A P.length c] w fun e w' => e = .returned (.bool true) ∧ Below w.heap.size w w' := by
  have hz := fun W => szCopies_any A P.length c 1048576 W (by omega) (by omega) (by omega)
  have e : (if (1048576 : Int) < (P.length : Int) then (-1 : Int) else 1048576 - P.length) = 1048576 - P.length := if_neg (by omega)
  rw [e] at hz
  have ht := fun W (hW : Below w.heap.size w W) => toCopies_any A c P w.heap.size W (h.below hW) hW.size hn
  have he := fun A A' c c' B B' W (h : Copies W B A P) (h' : Copies W B' A' P) hB hB' => eqCopies_same A A' c c' P B B' W h h' hB hB' hn
  obtain ⟨n, hN⟩ : ∃ n, P.length = n := ⟨_, rfl⟩
  simp only [hN] at hz ht he hs hi hn ⊢
  have HZ := Lib.hid hz
  have HT := Lib.hid ht
  have HE := Lib.hid he
  have HS := Lib.hid hs
  have HI := Lib.hid hi
  have hge : ¬ (1048576 - (n : Int)) < 0 := by omega
  clear hz e ht he hs hi h hN
  go_enter Tryd.func4, Tryd.ntmps4
  go_wp2_with fail
  refine (HZ.out _).mono ?_
  rintro e w1 ⟨rfl, rfl⟩
  go_wp2_with fail
  refine (HT.out _ (Below.refl _ _)).mono ?_
  rintro e w1 ⟨g1, rfl, hg, hb, hrow⟩
  have B1 := Lib.hid hb
  have R1 := Lib.hid hrow
  clear hg hb hrow
  go_wp2_with fail
  refine (HS.out _ _ (g1 + 1) _ R1.out.copies R1.out.lt).mono ?_
  rintro e w2 ⟨rfl, hb⟩
  have B2 := Lib.hid (below_step B1.out hb)
  clear hb R1 B1
  go_wp2_with fail
  refine (HT.out _ B2.out).mono ?_
  rintro e w3 ⟨g2, rfl, hg, hb, hrow⟩
  have B3 := Lib.hid (below_step B2.out hb)
  have R3 := Lib.hid hrow
  clear hg hb hrow B2
  go_wp2_with fail
  refine (HI.out _ _ (g2 + 1) _ B3.out R3.out.copies R3.out.lt).mono ?_
  rintro e w4 ⟨rfl, hb⟩
  have B4 := Lib.hid (below_step B3.out hb)
  have R4 := Lib.hid (R3.out.later hb)
  clear hb R3 B3
  go_wp2_with fail
  refine (HT.out _ B4.out).mono ?_
  rintro e w5 ⟨g3, rfl, hg, hb, hrow⟩
  have B5 := Lib.hid (below_step B4.out hb)
  have R5 := Lib.hid (R4.out.later hb)
  have Q5 := Lib.hid hrow
  clear hg hb hrow R4 B4
  go_wp2_with fail
  refine (HE.out _ _ _ _ (g2 + 1) (g3 + 1) _ R5.out.copies Q5.out.copies R5.out.lt Q5.out.lt).mono ?_
  rintro e w6 ⟨rfl, hb⟩
  have B6 := Lib.hid (below_step B5.out hb)
  clear hb
  go_wp2
  go_ret
  exact ⟨rfl, B6.out⟩

theorem walk (A : Option Addr) (c : Nat) (P : List (Int × Int)) {w : World} (h : Copies w w.heap.size A P) (hl : P.length ≤ 9223372036854775807) (hw : ∀ d ∈ P, (Lit.int .i64 d.1).wf = true) (w1 : World) (e1 : w = w1) (hL : laidMetH Tryd.prog Rows.fnExactCopiesTextRow.laid w1) :
    Calls Tryd.prog 4 #[.slice A P.length c] w1 fun e w' => e = .returned (.bool true) ∧ Below w1.heap.size w1 w' := by
  subst e1
  have hP := pow_of hL
  by_cases hn : P.length ≤ 1048576
  · exact walk_small A c P (copT P) w h hn (fun W A B c hI hB => specCopiesText_any A c P B W hI hB hn) (fun W A B c hW hI hB => implCopiesText_any A c P B W hI hB hn (hP.below hW))
  · exact walk_big A P.length c w hl (by omega)
/-- The door's own heap meets the condition: three closed facts. -/
theorem door_met (os : Os) (args : Array Value) : laidMetH Tryd.prog Rows.fnExactCopiesTextRow.laid ((World.doorLaid Tryd.prog 4000 os).forCall (fun _ _ => 0) ⟨#[], args, []⟩).memory :=
  laidMetH_of_parts3 (fuel := 8) (laidMet_of_run' 8 (by kernel_rfl) (by kernel_rfl)) (by kernel_rfl) (by kernel_rfl)

set_option maxRecDepth 100000 in
theorem lifted (os : Os) (started : os.Started) (H : Type) (enc : TypeId × Value → H) :
    ReturnsInHanded {} Tryd.checked os 4 .any (fun w args => (Rows.fnExactCopiesTextSpec.pre enc Tryd.prog Tryd.f4 [] false w args ∧ laidMetH Tryd.prog Rows.fnExactCopiesTextRow.laid w) ∧ sizedMet enc Tryd.prog Tryd.f4 (OpenSpec.ofChange Rows.fnExactCopiesTextSpec) false w args)
      (Rows.fnExactCopiesTextSpec.post enc Tryd.prog Tryd.f4 false true false false) := by
  refine returnsInHanded_of_change_and (C := Tryd.checked) (X := fun w _ => laidMetH Tryd.prog Rows.fnExactCopiesTextRow.laid w) (fun _ _ _ hh h => h.of_heap hh) own started (by kernel_rfl) Tryd.func4
    (ChangeSpec.witness_shaped (enc := enc) (C := Tryd.checked) (os := os) (X := fun w _ => laidMetH Tryd.prog Rows.fnExactCopiesTextRow.laid w) false (World.doorLaid Tryd.prog 4000 os) #[.slice none 0 0] 8 rfl (World.shaped_of_RefB (by kernel_rfl) (by kernel_rfl)) (by kernel_rfl) (by kernel_rfl) (by kernel_rfl) (door_met os _)) ?_
  intro W base args ds gs before hval0 hW _ _ hL _
  have hval : ∀ (j : Nat) t v, Tryd.f4.params[j]? = some t → args[j]? = some v → Value.okWide Tryd.prog W .any base t v := hval0
  have hW' := hW
  obtain ⟨p, q, hA0, hV, rfl, _, _⟩ := hW
  have hA : DataW.TrodAll enc Tryd.prog W 0 (fun _ => true) true Tryd.f4.params.toList args.toList ds p := hA0
  rw [Tryd.params4] at hA hval
  obtain ⟨v0, vs0, d0, ds0, p0, q0, hargs, rfl, rfl, h0, r0⟩ := trodAll_cons hA
  obtain ⟨rfl, rfl, rfl⟩ := trodAll_nil r0
  obtain rfl : args = #[v0] := by cases args; simp_all
  obtain ⟨rfl, rfl⟩ := trodVars_none hV
  obtain ⟨A0, c0, P0, rfl, i0, l0, z0⟩ := open_copies (hval 0 35 v0 rfl rfl) h0
  refine (walk A0 c0 P0 i0 l0 z0 W rfl hL).mono fun e W' ⟨he, hb⟩ => ?_
  subst he
  refine ⟨_, rfl, law_post hW' rfl rfl ?_ rfl rfl rfl hb⟩
  intro t ht
  rw [Tryd.params4] at ht
  obtain rfl : t = 35 := by simpa using ht
  exact ⟨by kernel_rfl, of_decide_eq_true (by kernel_rfl)⟩

theorem said : Rows.FnExactCopiesTextSaid :=
  OpenClaim.holds_of_wide 4 Tryd.f4 rfl rfl rfl rfl rfl rfl rfl ⟨rfl, rfl, rfl, rfl, rfl⟩ rfl rfl rfl rfl rfl (by kernel_rfl) Tryd.func4 (by kernel_rfl)
    (of_decide_eq_true (by kernel_rfl)) (by unfold Func.isWrapper; first | (rw [if_pos (by decide +kernel)]; kernel_rfl) | (rw [if_neg (by decide +kernel)]; exact ⟨rfl, rfl⟩))
    (fun os started H enc _ => lifted os started H enc)

/-- No parameter wants a stand-in; the program's own looks are as the card says. -/
theorem plain (f : FuncId) (fn : Func) (hf : Tryd.pinned.checked.prog.funcNamed "loop.example/g01012/laws.FnExactCopiesText" = some f) (hfn : Tryd.pinned.checked.prog.funcs[f]? = some fn) :
    Rows.fnExactCopiesTextCard.stood.looks = Tryd.pinned.checked.prog.looks [] ∧ ∀ (j : Nat) t, fn.params[j]? = some t → Tryd.pinned.checked.prog.wantsStandIn t = false := by
  obtain rfl : f = 4 := Option.some.inj ((show Tryd.prog.funcNamed "loop.example/g01012/laws.FnExactCopiesText" = some 4 by kernel_rfl).symm.trans hf) |>.symm
  obtain rfl : fn = Tryd.f4 := (Option.some.inj (Tryd.func4.symm.trans hfn)).symm
  refine ⟨by kernel_rfl, fun j t ht => ?_⟩
  rw [Tryd.params4] at ht
  have hm : t ∈ [35] := by simpa using Array.mem_of_getElem? ht
  have hall : ([35].all fun u => !Tryd.prog.wantsStandIn u) = true := by kernel_rfl
  exact (show Tryd.prog.wantsStandIn t = false by simpa using List.all_eq_true.1 hall t hm)

theorem proved : Rows.FnExactCopiesTextCardSaid :=
  Claim7.holds_tied_plain_at .later [] _ _ _ _ said (fun _ h => by cases h) (by kernel_rfl) (fun _ h => by cases h) fnExactCopiesText_row_tie rfl ⟨rfl, rfl⟩ (by kernel_rfl) rfl plain (by kernel_rfl)
end Go.Proofs.YtamookdlbmbncaaDoor.fnExactCopiesText
