/- For every field and list of passes, the law FnExactAlwaysSorts returns true: impl.AlwaysSorts answers as spec.AlwaysSorts and leaves its argument as it was. Conditions: none. -/
import Derived.Test.YtfffdlmpiglojaaAlwaysI
import Derived.Test.YtfffdlmpiglojaaLaw
import Derived.Deep.RegionHeld3
import Derived.Deep.DeepCutAuto
import Derived.Test.YtfffdlmpiglojaaBoxed
import Derived.Test.YtfffdlmpiglojaaPlanMem
import Derived.Test.YtfffdlmpiglojaaPart
namespace Go.Proofs.Ytfffdlmpiglojaa.fnExactAlwaysSorts
open Go.ChangeShapes Go.WideShapes Go.ChangeAt Go.RowKit

theorem walk_big0 (a0 b0 : Int) (A1 : Option Addr) (c1 : Nat) (P1 : List (Int × Int)) (w : World) (h1 : Passes w w.heap.size A1 P1) (l1 : P1.length ≤ 9223372036854775807)  (hbig : 1048576 < (P1.length : Int)) :
    Calls Try.prog 6 #[.agg #[.int .i64 a0, .int .i64 b0], .slice A1 P1.length c1] w fun e w' => e = .returned (.bool true) ∧ Below w.heap.size w w' := by
  have z1 := fun (W : World) (_ : Below w.heap.size w W) => szPasses_any A1 P1.length c1 (1048576) W (by omega) (by omega) (by omega)
  have e1 : (if (1048576) < (P1.length : Int) then (-1 : Int) else 1048576 - P1.length) = -1 := if_pos (by omega)
  simp only [e1] at z1
  clear e1
  obtain ⟨n1, hn1⟩ : ∃ n, P1.length = n := ⟨_, rfl⟩
  simp only [hn1] at z1 ⊢
  rw [hn1] at hbig
  have Z1 := Lib.hid z1
  clear z1 hn1  h1 l1
  go_enter Try.func6, Try.ntmps6
  go_wp2_with fail
  refine (Z1.out _ (below_box w _)).mono ?_
  rintro e w1 ⟨rfl, rfl⟩
  have B_0 : Hid (Below w.heap.size w (w.alloc (.cells #[.int .i64 a0, .int .i64 b0] 23))) := (below_box w _)
  go_wp2
  go_ret
  exact ⟨rfl, B_0.out⟩

set_option maxRecDepth 100000 in
set_option maxHeartbeats 4000000 in
theorem walk_small (a0 b0 : Int) (A1 : Option Addr) (c1 : Nat) (P1 : List (Int × Int)) (v1 : Bool) (v2 : Int) (w : World) (h1 : Passes w w.heap.size A1 P1) (hs : (P1.length : Int) ≤ 1048576)
    (hv : ∀ (W : World) (A1 : Option Addr) (B1 : Nat), Below w.heap.size w W → Passes W B1 A1 P1 → B1 ≤ W.heap.size → Calls Try.prog 23 #[.agg #[.int .i64 a0, .int .i64 b0], .slice A1 P1.length P1.length] W fun e w' => e = .returned (.tuple #[.bool v1, .int .i64 v2]) ∧ Below W.heap.size W w')
    (hi : ∀ (W : World) (A1 : Option Addr) (B1 : Nat), Below w.heap.size w W → Passes W B1 A1 P1 → B1 ≤ W.heap.size → Calls Try.prog 25 #[.agg #[.int .i64 a0, .int .i64 b0], .slice A1 P1.length P1.length] W fun e w' => e = .returned (.tuple #[.bool v1, .int .i64 v2]) ∧ Below W.heap.size W w') :
    Calls Try.prog 6 #[.agg #[.int .i64 a0, .int .i64 b0], .slice A1 P1.length c1] w fun e w' => e = .returned (.bool true) ∧ Below w.heap.size w w' := by
  have hm1 : P1.length ≤ 1048576 := by omega
  have z1 := fun (W : World) (_ : Below w.heap.size w W) => szPasses_any A1 P1.length c1 (1048576) W (by omega) (by omega) (by omega)
  have e1 : (if (1048576) < (P1.length : Int) then (-1 : Int) else 1048576 - P1.length) = 1048576 - P1.length := if_neg (by omega)
  simp only [e1] at z1
  clear e1
  have t1 := fun W (hW : Below w.heap.size w W) => toPassesAt_any A1 c1 P1 w.heap.size W (h1.below hW) hW.size hm1
  have q1 := fun A A' W (hA : Passes W W.heap.size A P1) (hA' : Passes W W.heap.size A' P1) => eqPasses_same A A' P1.length P1.length P1 W.heap.size W.heap.size W hA hA' (Nat.le_refl _) (Nat.le_refl _) hm1
  have cv : ∀ (W : World) (g1 lo1 hi1 : Nat), Below w.heap.size w W → PAt W lo1 hi1 (some ⟨g1, 0, none⟩) P1 → Calls Try.prog 23 #[.agg #[.int .i64 a0, .int .i64 b0], .slice (some ⟨g1, 0, none⟩) P1.length P1.length] W fun e w' => e = .returned (.tuple #[.bool v1, .int .i64 v2]) ∧ Below W.heap.size W w' := fun W g1 lo1 hi1 hW hO1 => by
    have := hv W (some ⟨g1, 0, none⟩) W.heap.size hW hO1.passes (Nat.le_refl _)
    exact this
  have ci : ∀ (W : World) (g1 lo1 hi1 : Nat), Below w.heap.size w W → PAt W lo1 hi1 (some ⟨g1, 0, none⟩) P1 → Calls Try.prog 25 #[.agg #[.int .i64 a0, .int .i64 b0], .slice (some ⟨g1, 0, none⟩) P1.length P1.length] W fun e w' => e = .returned (.tuple #[.bool v1, .int .i64 v2]) ∧ Below W.heap.size W w' := fun W g1 lo1 hi1 hW hO1 => by
    have := hi W (some ⟨g1, 0, none⟩) W.heap.size hW hO1.passes (Nat.le_refl _)
    exact this
  obtain ⟨n1, hn1⟩ : ∃ n, P1.length = n := ⟨_, rfl⟩
  simp only [hn1] at z1 t1 q1 cv ci hs ⊢
  have Z1 := Lib.hid z1
  have T1 := Lib.hid t1
  have Q1 := Lib.hid q1
  have CV := Lib.hid cv
  have CI := Lib.hid ci
  have g1 : ¬ 1048576 - (n1 : Int) < 0 := by omega
  clear cv ci hv hi z1 t1 q1 hn1 h1 hm1
  go_enter Try.func6, Try.ntmps6
  go_wp2_with fail
  refine (Z1.out _ (below_box w _)).mono ?_
  rintro e w0 ⟨rfl, rfl⟩
  go_wp2_with fail
  refine (toField_any a0 b0 _).mono ?_
  rintro e w1 ⟨rfl, hb⟩
  have B_1 := Lib.hid (below_step (below_box w _) hb)
  have f0a_1 := cell_kept (p := ⟨w.heap.size, 0, none⟩) (v := .int .i64 a0) (by simp [go_sem]) hb
  have f0b_1 := cell_kept (p := ⟨w.heap.size, 1, none⟩) (v := .int .i64 b0) (by simp [go_sem]) hb
  have S_1 : Hid (w.heap.size + 1 ≤ w1.heap.size) := by show _ ≤ _; have := hb.size; simpa using this
  clear hb
  go_wp2_with fail
  refine (T1.out _ B_1.out).mono ?_
  rintro e w2 ⟨gw1, rfl, hb, ho⟩
  have B_2 := Lib.hid (below_step B_1.out hb)
  have f0a_2 := cell_kept f0a_1 hb
  have f0b_2 := cell_kept f0b_1 hb
  have S_2 : Hid (w1.heap.size ≤ w2.heap.size) := hb.size
  have w1_2 := Lib.hid ho
  clear hb ho B_1 f0a_1 f0b_1
  go_wp2_with fail
  refine (CV.out _ _ _ _ B_2.out w1_2.out).mono ?_
  rintro e w3 ⟨rfl, hb⟩
  have B_3 := Lib.hid (below_step B_2.out hb)
  have f0a_3 := cell_kept f0a_2 hb
  have f0b_3 := cell_kept f0b_2 hb
  have w1_3 := Lib.hid (w1_2.out.later hb)
  have S_3 : Hid (w2.heap.size ≤ w3.heap.size) := hb.size
  clear hb B_2 f0a_2 f0b_2 w1_2
  clear w1_3
  go_wp2_with fail
  refine (T1.out _ B_3.out).mono ?_
  rintro e w4 ⟨gx1, rfl, hb, ho⟩
  have B_4 := Lib.hid (below_step B_3.out hb)
  have f0a_4 := cell_kept f0a_3 hb
  have f0b_4 := cell_kept f0b_3 hb
  have S_4 : Hid (w3.heap.size ≤ w4.heap.size) := hb.size
  have x1_4 := Lib.hid ho
  clear hb ho B_3 f0a_3 f0b_3
  go_wp2_with fail
  refine (toField_any a0 b0 _).mono ?_
  rintro e w5 ⟨rfl, hb⟩
  have B_5 := Lib.hid (below_step B_4.out hb)
  have f0a_5 := cell_kept f0a_4 hb
  have f0b_5 := cell_kept f0b_4 hb
  have x1_5 := Lib.hid (x1_4.out.later hb)
  have S_5 : Hid (w4.heap.size ≤ w5.heap.size) := hb.size
  clear hb B_4 f0a_4 f0b_4 x1_4
  go_wp2_with fail
  refine (CI.out _ _ _ _ B_5.out x1_5.out).mono ?_
  rintro e w6 ⟨rfl, hb⟩
  have B_6 := Lib.hid (below_step B_5.out hb)
  have f0a_6 := cell_kept f0a_5 hb
  have f0b_6 := cell_kept f0b_5 hb
  have x1_6 := Lib.hid (x1_5.out.later hb)
  have S_6 : Hid (w5.heap.size ≤ w6.heap.size) := hb.size
  clear hb B_5 f0a_5 f0b_5 x1_5
  cases v1
  all_goals
    go_wp2_with fail
    refine (T1.out _ B_6.out).mono ?_
    rintro e w7 ⟨gz1, rfl, hb, ho⟩
    have B_7 := Lib.hid (below_step B_6.out hb)
    have f0a_7 := cell_kept f0a_6 hb
    have f0b_7 := cell_kept f0b_6 hb
    have x1_7 := Lib.hid (x1_6.out.later hb)
    have S_7 : Hid (w6.heap.size ≤ w7.heap.size) := hb.size
    have z1_7 := Lib.hid ho
    clear hb ho B_6 f0a_6 f0b_6 x1_6
    go_wp2_with fail
    refine (Q1.out _ _ _ x1_7.out.passes z1_7.out.passes).mono ?_
    rintro e w8 ⟨rfl, hb⟩
    have B_8 := Lib.hid (below_step B_7.out hb)
    have f0a_8 := cell_kept f0a_7 hb
    have f0b_8 := cell_kept f0b_7 hb
    have x1_8 := Lib.hid (x1_7.out.later hb)
    have z1_8 := Lib.hid (z1_7.out.later hb)
    have S_8 : Hid (w7.heap.size ≤ w8.heap.size) := hb.size
    clear hb B_7 f0a_7 f0b_7 x1_7 z1_7
    go_wp2
    go_ret
    exact ⟨rfl, B_8.out⟩

theorem walk (a0 b0 : Int) (_ : (Lit.int .i64 a0).wf = true) (_ : (Lit.int .i64 b0).wf = true) (A1 : Option Addr) (c1 : Nat) (P1 : List (Int × Int)) {y1 : World} (h1 : Passes y1 y1.heap.size A1 P1) (l1 : P1.length ≤ 9223372036854775807) (_ : ∀ d ∈ P1, (Lit.int .i64 d.1).wf = true) (w : World) (e1 : y1 = w) :
    Calls Try.prog 6 #[.agg #[.int .i64 a0, .int .i64 b0], .slice A1 P1.length c1] w fun e w' => e = .returned (.bool true) ∧ Below w.heap.size w w' := by
  subst e1
  by_cases hb0 : 1048576 < (P1.length : Int)
  · exact walk_big0 a0 b0 A1 c1 P1 _ h1 l1  hb0
  have hs0 : (P1.length : Int) ≤ 1048576 := by omega
  have hm1 : P1.length ≤ 1048576 := by omega
  refine walk_small a0 b0 A1 c1 P1 (alwaysA a0 b0 P1) (alwaysC a0 b0 P1) _ h1 hs0 (fun W A1 B1 hW hP1 hB1 => ?_) (fun W A1 B1 hW hP1 hB1 => ?_)
  · exact specAlways_any a0 b0 A1 P1.length P1 B1 W hP1 hB1 hm1
  · exact implAlways_any a0 b0 A1 P1.length P1 B1 W hP1 hB1 hm1 (Nat.le_refl _) (by omega)

set_option maxRecDepth 100000 in
theorem lifted (os : Os) (started : os.Started) (H : Type) (enc : TypeId × Value → H) :
    ReturnsInHanded {} Try.checked os 6 .any (Rows.fnExactAlwaysSortsSpec.pre6 enc Try.prog Try.f6 Rows.fnExactAlwaysSortsRow.domain false) (Rows.fnExactAlwaysSortsSpec.post enc Try.prog Try.f6 false true false false) := by
  refine returnsInHanded_of_change (C := Try.checked) own started (by kernel_rfl) Try.func6
    (ChangeSpec.witness6 (enc := enc) (C := Try.checked) false ⟨#[], #[.agg #[.int .i64 0, .int .i64 0], .slice none 0 0], []⟩ 8 (by kernel_rfl) (by kernel_rfl) (by kernel_rfl) (by kernel_rfl)) ?_
  intro W base args ds gs before hval0 hW _ _
  have hval : ∀ (j : Nat) t v, Try.f6.params[j]? = some t → args[j]? = some v → Value.okWide Try.prog W .any base t v := hval0
  have hW' := hW
  obtain ⟨p, q, hA0, hV, rfl, _, _⟩ := hW
  have hA : DataW.TrodAll enc Try.prog W 0 (fun _ => true) true Try.f6.params.toList args.toList ds p := hA0
  rw [Try.params6] at hA hval
  obtain ⟨v0, vs0, d0, ds0, p0, q0, hargs, rfl, rfl, h0, r0⟩ := trodAll_cons hA
  obtain ⟨v1, vs1, d1, ds1, p1, q1, rfl, rfl, rfl, h1, r1⟩ := trodAll_cons r0
  obtain ⟨rfl, rfl, rfl⟩ := trodAll_nil r1
  obtain rfl : args = #[v0, v1] := by cases args; simp_all
  obtain ⟨rfl, rfl⟩ := trodVars_none hV
  obtain ⟨a0, b0, rfl, w0, u0⟩ := open_field (hval 0 23 v0 rfl rfl) h0
  obtain ⟨A1, c1, P1, rfl, i1, l1, z1⟩ := open_passes (hval 1 44 v1 rfl rfl) h1
  refine (walk a0 b0 w0 u0 A1 c1 P1 i1 l1 z1 W rfl).mono fun e W' ⟨he, hb⟩ => ?_
  subst he
  refine ⟨_, rfl, law_post hW' rfl rfl ?_ rfl rfl rfl hb⟩
  intro t ht
  rw [Try.params6] at ht
  have ht' : t = 23 ∨ t = 44 := by simpa using ht
  rcases ht' with rfl | rfl <;> exact ⟨by kernel_rfl, of_decide_eq_true (by kernel_rfl)⟩

theorem over : Rows.fnExactAlwaysSortsRow.holds Try.pinned (OpenSpec.ofChange Rows.fnExactAlwaysSortsSpec) :=
  OpenClaim.holds_of_wide 6 Try.f6 rfl rfl rfl rfl rfl rfl rfl ⟨rfl, rfl, rfl, rfl, rfl⟩ rfl rfl rfl rfl rfl (by kernel_rfl) Try.func6 (by kernel_rfl)
    (of_decide_eq_true (by kernel_rfl)) (by unfold Func.isWrapper; first | (rw [if_pos (by decide +kernel)]; kernel_rfl) | (rw [if_neg (by decide +kernel)]; exact ⟨rfl, rfl⟩))
    (fun os started H enc _ => lifted os started H enc)

theorem proved : Rows.FnExactAlwaysSortsSaid :=
  over
end Go.Proofs.Ytfffdlmpiglojaa.fnExactAlwaysSorts
