/- For every field, the law FnExactDigitPlan returns true: impl.DigitPlan answers as spec.DigitPlan, in memory of its own. Conditions: none. -/
import Derived.Test.YtfffdlmpiglojaaPlanDig
import Derived.Test.YtfffdlmpiglojaaPart
import Derived.Test.YtfffdlmpiglojaaLaw
namespace Go.Proofs.Ytfffdlmpiglojaa.fnExactDigitPlan
open Go.ChangeShapes Go.WideShapes Go.ChangeAt Go.RowKit

set_option maxHeartbeats 1000000 in
theorem walk (a b : Int) (_ : (Lit.int .i64 a).wf = true) (_ : (Lit.int .i64 b).wf = true) (w : World) :
    Calls Try.prog 4 #[.agg #[.int .i64 a, .int .i64 b]] w fun e w' => e = .returned (.bool true) ∧ Below w.heap.size w w' := by
  have hs := fun W => specDigitPlan_any a b W
  have hi := fun W => implDigitPlan_any a b W
  have hl : (digF a b).length ≤ 1048576 := by have := digF_length a b; omega
  obtain ⟨P, hP⟩ : ∃ P, digF a b = P := ⟨_, rfl⟩
  obtain ⟨v, hv⟩ : ∃ v, fieldC a b = v := ⟨_, rfl⟩
  simp only [hP, hv] at hs hi
  rw [hP] at hl
  have he := fun A A' c c' B B' W h h' hB hB' => eqPasses_same A A' c c' P B B' W h h' hB hB' hl
  have hm := fun A c lo hi W (h : PAt W lo hi A P) => markPasses_any A c P lo hi 1 W h (by omega) (by omega) hl
  have hh := fun A c lo hi W (h : PAt W lo hi A (pmk P 1 P.length)) => heldPasses_any A c P lo hi 1 W h (by omega) (by omega) hl
  have HS := Lib.hid hs
  have HI := Lib.hid hi
  have HE := Lib.hid he
  have HM := Lib.hid hm
  have HH := Lib.hid hh
  have hq : ¬ 1 + 2 * (P.length : Int) < 0 := by omega
  clear hs hi he hm hh hP hv hl
  go_enter Try.func4, Try.ntmps4
  go_wp2_with fail
  refine (toField_any a b _).mono ?_
  rintro e w1 ⟨rfl, hb⟩
  have B_1 := Lib.hid (below_step (below_box w _) hb)
  have fa_1 := cell_kept (p := ⟨w.heap.size, 0, none⟩) (v := .int .i64 a) (by simp [go_sem]) hb
  have fb_1 := cell_kept (p := ⟨w.heap.size, 1, none⟩) (v := .int .i64 b) (by simp [go_sem]) hb
  have S_1 : Hid (w.heap.size + 1 ≤ w1.heap.size) := by show _ ≤ _; have := hb.size; simpa using this
  clear hb
  go_wp2_with fail
  refine (HS.out _).mono ?_
  rintro e w2 ⟨A1, c1, rfl, hb, ho⟩
  have B_2 := Lib.hid (below_step B_1.out hb)
  have fa_2 := cell_kept fa_1 hb
  have fb_2 := cell_kept fb_1 hb
  have S_2 : Hid (w1.heap.size ≤ w2.heap.size) := hb.size
  have W0_2 := Lib.hid ho
  clear hb ho B_1 fa_1 fb_1
  go_wp2_with fail
  refine (toField_any a b _).mono ?_
  rintro e w3 ⟨rfl, hb⟩
  have B_3 := Lib.hid (below_step B_2.out hb)
  have fa_3 := cell_kept fa_2 hb
  have fb_3 := cell_kept fb_2 hb
  have W0_3 := Lib.hid (W0_2.out.later hb)
  have S_3 : Hid (w2.heap.size ≤ w3.heap.size) := hb.size
  clear hb B_2 fa_2 fb_2 W0_2
  go_wp2_with fail
  refine (HI.out _).mono ?_
  rintro e w4 ⟨A2, c2, rfl, hb, ho⟩
  have B_4 := Lib.hid (below_step B_3.out hb)
  have fa_4 := cell_kept fa_3 hb
  have fb_4 := cell_kept fb_3 hb
  have W0_4 := Lib.hid (W0_3.out.later hb)
  have S_4 : Hid (w3.heap.size ≤ w4.heap.size) := hb.size
  have G0_4 := Lib.hid ho
  clear hb ho B_3 fa_3 fb_3 W0_3
  go_wp2_with fail
  refine (HE.out _ _ _ _ _ _ _ G0_4.out.passes W0_4.out.passes (Nat.le_refl _) (Nat.le_refl _)).mono ?_
  rintro e w5 ⟨rfl, hb⟩
  have B_5 := Lib.hid (below_step B_4.out hb)
  have fa_5 := cell_kept fa_4 hb
  have fb_5 := cell_kept fb_4 hb
  have W0_5 := Lib.hid (W0_4.out.later hb)
  have G0_5 := Lib.hid (G0_4.out.later hb)
  have S_5 : Hid (w4.heap.size ≤ w5.heap.size) := hb.size
  clear hb B_4 fa_4 fb_4 W0_4 G0_4
  go_wp2_with fail
  refine (HM.out _ _ _ _ _ G0_5.out).mono ?_
  rintro e w6 ⟨rfl, hw, hrow⟩
  have B_6 := Lib.hid (below_within B_5.out hw (by have z1 := S_1.out; have z2 := S_2.out; have z3 := S_3.out; have z4 := S_4.out; have z5 := S_5.out; omega))
  have fa_6 := hw.cell fa_5 (Or.inl (by show w.heap.size < _; have z1 := S_1.out; have z2 := S_2.out; have z3 := S_3.out; have z4 := S_4.out; have z5 := S_5.out; omega))
  have fb_6 := hw.cell fb_5 (Or.inl (by show w.heap.size < _; have z1 := S_1.out; have z2 := S_2.out; have z3 := S_3.out; have z4 := S_4.out; have z5 := S_5.out; omega))
  have W0_6 := Lib.hid (W0_5.out.within hw (Or.inl (by have z1 := S_1.out; have z2 := S_2.out; have z3 := S_3.out; have z4 := S_4.out; have z5 := S_5.out; omega)))
  have G0_6 := Lib.hid hrow
  have S_6 : Hid (w5.heap.size ≤ w6.heap.size) := hw.size
  clear hw hrow B_5 fa_5 fb_5 W0_5 G0_5
  go_wp2_with fail
  refine (HH.out _ _ _ _ _ G0_6.out).mono ?_
  rintro e w7 ⟨rfl, rfl⟩
  go_wp2_with fail
  refine (toField_any a b _).mono ?_
  rintro e w7 ⟨rfl, hb⟩
  have B_7 := Lib.hid (below_step B_6.out hb)
  have fa_7 := cell_kept fa_6 hb
  have fb_7 := cell_kept fb_6 hb
  have W0_7 := Lib.hid (W0_6.out.later hb)
  have G0_7 := Lib.hid (G0_6.out.later hb)
  have S_7 : Hid (w6.heap.size ≤ w7.heap.size) := hb.size
  clear hb B_6 fa_6 fb_6 W0_6 G0_6
  go_wp2_with fail
  refine (HI.out _).mono ?_
  rintro e w8 ⟨A3, c3, rfl, hb, ho⟩
  have B_8 := Lib.hid (below_step B_7.out hb)
  have fa_8 := cell_kept fa_7 hb
  have fb_8 := cell_kept fb_7 hb
  have W0_8 := Lib.hid (W0_7.out.later hb)
  have G0_8 := Lib.hid (G0_7.out.later hb)
  have S_8 : Hid (w7.heap.size ≤ w8.heap.size) := hb.size
  have H0_8 := Lib.hid ho
  clear hb ho B_7 fa_7 fb_7 W0_7 G0_7
  go_wp2_with fail
  refine (HE.out _ _ _ _ _ _ _ H0_8.out.passes W0_8.out.passes (Nat.le_refl _) (Nat.le_refl _)).mono ?_
  rintro e w9 ⟨rfl, hb⟩
  have B_9 := Lib.hid (below_step B_8.out hb)
  have fa_9 := cell_kept fa_8 hb
  have fb_9 := cell_kept fb_8 hb
  have W0_9 := Lib.hid (W0_8.out.later hb)
  have G0_9 := Lib.hid (G0_8.out.later hb)
  have H0_9 := Lib.hid (H0_8.out.later hb)
  have S_9 : Hid (w8.heap.size ≤ w9.heap.size) := hb.size
  clear hb B_8 fa_8 fb_8 W0_8 G0_8 H0_8
  go_wp2_with fail
  refine (HH.out _ _ _ _ _ G0_9.out).mono ?_
  rintro e w10 ⟨rfl, rfl⟩
  go_wp2
  go_ret
  exact ⟨rfl, B_9.out⟩

set_option maxRecDepth 100000 in
theorem lifted (os : Os) (started : os.Started) (H : Type) (enc : TypeId × Value → H) :
    ReturnsInHanded {} Try.checked os 4 .any (Rows.fnExactDigitPlanSpec.pre6 enc Try.prog Try.f4 Rows.fnExactDigitPlanRow.domain false) (Rows.fnExactDigitPlanSpec.post enc Try.prog Try.f4 false true false false) := by
  refine returnsInHanded_of_change (C := Try.checked) own started (by kernel_rfl) Try.func4
    (ChangeSpec.witness6 (enc := enc) (C := Try.checked) false ⟨#[], #[.agg #[.int .i64 0, .int .i64 0]], []⟩ 8 (by kernel_rfl) (by kernel_rfl) (by kernel_rfl) (by kernel_rfl)) ?_
  intro W base args ds gs before hval0 hW _ _
  have hval : ∀ (j : Nat) t v, Try.f4.params[j]? = some t → args[j]? = some v → Value.okWide Try.prog W .any base t v := hval0
  have hW' := hW
  obtain ⟨p, q, hA0, hV, rfl, _, _⟩ := hW
  have hA : DataW.TrodAll enc Try.prog W 0 (fun _ => true) true Try.f4.params.toList args.toList ds p := hA0
  rw [Try.params4] at hA hval
  obtain ⟨v0, vs0, d0, ds0, p0, q0, hargs, rfl, rfl, h0, r0⟩ := trodAll_cons hA
  obtain ⟨rfl, rfl, rfl⟩ := trodAll_nil r0
  obtain rfl : args = #[v0] := by cases args; simp_all
  obtain ⟨rfl, rfl⟩ := trodVars_none hV
  obtain ⟨a0, b0, rfl, w0, u0⟩ := open_field (hval 0 23 v0 rfl rfl) h0
  refine (walk a0 b0 w0 u0 W).mono fun e W' ⟨he, hb⟩ => ?_
  subst he
  refine ⟨_, rfl, law_post hW' rfl rfl ?_ rfl rfl rfl hb⟩
  intro t ht
  rw [Try.params4] at ht
  obtain rfl : t = 23 := by simpa using ht
  exact ⟨by kernel_rfl, of_decide_eq_true (by kernel_rfl)⟩

theorem over : Rows.fnExactDigitPlanRow.holds Try.pinned (OpenSpec.ofChange Rows.fnExactDigitPlanSpec) :=
  OpenClaim.holds_of_wide 4 Try.f4 rfl rfl rfl rfl rfl rfl rfl ⟨rfl, rfl, rfl, rfl, rfl⟩ rfl rfl rfl rfl rfl (by kernel_rfl) Try.func4 (by kernel_rfl)
    (of_decide_eq_true (by kernel_rfl)) (by unfold Func.isWrapper; first | (rw [if_pos (by decide +kernel)]; kernel_rfl) | (rw [if_neg (by decide +kernel)]; exact ⟨rfl, rfl⟩))
    (fun os started H enc _ => lifted os started H enc)

theorem proved : Rows.FnExactDigitPlanSaid :=
  over
end Go.Proofs.Ytfffdlmpiglojaa.fnExactDigitPlan
