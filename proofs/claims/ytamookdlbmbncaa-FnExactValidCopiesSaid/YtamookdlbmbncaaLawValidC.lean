/- For every list of copies and numbers of columns, the law FnExactValidCopies returns true: impl.ValidCopies answers as spec.ValidCopies and leaves its argument as it was. Conditions: none. -/
import Derived.Test.YtamookdlbmbncaaCopyI
import Derived.Test.YtamookdlbmbncaaLaw
import Derived.Deep.RegionHeld3
import Derived.Deep.DeepCutAuto
import Derived.Test.YtamookdlbmbncaaBoxed
import Derived.Test.YtamookdlbmbncaaCopyMem
namespace Go.Proofs.Ytamookdlbmbncaa.fnExactValidCopies
open Go.ChangeShapes Go.WideShapes Go.ChangeAt Go.RowKit

theorem walk_big0 (A0 : Option Addr) (c0 : Nat) (P0 : List (Int × Int)) (x1 : Int) (x2 : Int) (w : World) (h0 : Copies w w.heap.size A0 P0) (l0 : P0.length ≤ 9223372036854775807)  (hbig : 1048576 < (P0.length : Int)) :
    Calls Try.prog 3 #[.slice A0 P0.length c0, .int .i64 x1, .int .i64 x2] w fun e w' => e = .returned (.bool true) ∧ Below w.heap.size w w' := by
  have z0 := fun (W : World) (_ : Below w.heap.size w W) => szCopies_any A0 P0.length c0 (1048576) W (by omega) (by omega) (by omega)
  have e0 : (if (1048576) < (P0.length : Int) then (-1 : Int) else 1048576 - P0.length) = -1 := if_pos (by omega)
  simp only [e0] at z0
  clear e0
  obtain ⟨n0, hn0⟩ : ∃ n, P0.length = n := ⟨_, rfl⟩
  simp only [hn0] at z0 ⊢
  rw [hn0] at hbig
  have Z0 := Lib.hid z0
  clear z0 hn0  h0 l0
  go_enter Try.func3, Try.ntmps3
  go_wp2_with fail
  refine (Z0.out _ (Below.refl _ _)).mono ?_
  rintro e w1 ⟨rfl, rfl⟩
  have B_0 : Hid (Below w.heap.size w w) := (Below.refl _ _)
  go_wp2
  go_ret
  exact ⟨rfl, B_0.out⟩

set_option maxRecDepth 100000 in
set_option maxHeartbeats 4000000 in
theorem walk_small (A0 : Option Addr) (c0 : Nat) (P0 : List (Int × Int)) (x1 : Int) (x2 : Int) (v1 : Bool) (w : World) (h0 : Copies w w.heap.size A0 P0) (hs : (P0.length : Int) ≤ 1048576)
    (hv : ∀ (W : World) (A0 : Option Addr) (B0 : Nat), Below w.heap.size w W → Copies W B0 A0 P0 → B0 ≤ W.heap.size → Calls Try.prog 13 #[.slice A0 P0.length P0.length, .int .i64 x1, .int .i64 x2] W fun e w' => e = .returned (.bool v1) ∧ Below W.heap.size W w')
    (hi : ∀ (W : World) (A0 : Option Addr) (B0 : Nat), Below w.heap.size w W → Copies W B0 A0 P0 → B0 ≤ W.heap.size → Calls Try.prog 15 #[.slice A0 P0.length P0.length, .int .i64 x1, .int .i64 x2] W fun e w' => e = .returned (.bool v1) ∧ Below W.heap.size W w') :
    Calls Try.prog 3 #[.slice A0 P0.length c0, .int .i64 x1, .int .i64 x2] w fun e w' => e = .returned (.bool true) ∧ Below w.heap.size w w' := by
  have hm0 : P0.length ≤ 1048576 := by omega
  have z0 := fun (W : World) (_ : Below w.heap.size w W) => szCopies_any A0 P0.length c0 (1048576) W (by omega) (by omega) (by omega)
  have e0 : (if (1048576) < (P0.length : Int) then (-1 : Int) else 1048576 - P0.length) = 1048576 - P0.length := if_neg (by omega)
  simp only [e0] at z0
  clear e0
  have t0 := fun W (hW : Below w.heap.size w W) => toCopiesAt_any A0 c0 P0 w.heap.size W (h0.below hW) hW.size hm0
  have q0 := fun A A' W (hA : Copies W W.heap.size A P0) (hA' : Copies W W.heap.size A' P0) => eqCopies_same A A' P0.length P0.length P0 W.heap.size W.heap.size W hA hA' (Nat.le_refl _) (Nat.le_refl _) hm0
  have cv : ∀ (W : World) (g0 lo0 hi0 : Nat), Below w.heap.size w W → QAt W lo0 hi0 (some ⟨g0, 0, none⟩) P0 → Calls Try.prog 13 #[.slice (some ⟨g0, 0, none⟩) P0.length P0.length, .int .i64 x1, .int .i64 x2] W fun e w' => e = .returned (.bool v1) ∧ Below W.heap.size W w' := fun W g0 lo0 hi0 hW hO0 => by
    have := hv W (some ⟨g0, 0, none⟩) W.heap.size hW hO0.copies (Nat.le_refl _)
    exact this
  have ci : ∀ (W : World) (g0 lo0 hi0 : Nat), Below w.heap.size w W → QAt W lo0 hi0 (some ⟨g0, 0, none⟩) P0 → Calls Try.prog 15 #[.slice (some ⟨g0, 0, none⟩) P0.length P0.length, .int .i64 x1, .int .i64 x2] W fun e w' => e = .returned (.bool v1) ∧ Below W.heap.size W w' := fun W g0 lo0 hi0 hW hO0 => by
    have := hi W (some ⟨g0, 0, none⟩) W.heap.size hW hO0.copies (Nat.le_refl _)
    exact this
  obtain ⟨n0, hn0⟩ : ∃ n, P0.length = n := ⟨_, rfl⟩
  simp only [hn0] at z0 t0 q0 cv ci hs ⊢
  have Z0 := Lib.hid z0
  have T0 := Lib.hid t0
  have Q0 := Lib.hid q0
  have CV := Lib.hid cv
  have CI := Lib.hid ci
  have g0 : ¬ 1048576 - (n0 : Int) < 0 := by omega
  clear cv ci hv hi z0 t0 q0 hn0 h0 hm0
  go_enter Try.func3, Try.ntmps3
  go_wp2_with fail
  refine (Z0.out _ (Below.refl _ _)).mono ?_
  rintro e w0 ⟨rfl, rfl⟩
  go_wp2_with fail
  refine (T0.out _ (Below.refl _ _)).mono ?_
  rintro e w1 ⟨gw0, rfl, hb, ho⟩
  have B_1 := Lib.hid hb
  have S_1 : Hid (w.heap.size + 0 ≤ w1.heap.size) := by show _ ≤ _; have := hb.size; simpa using this
  have w0_1 := Lib.hid ho
  clear hb ho
  go_wp2_with fail
  refine (CV.out _ _ _ _ B_1.out w0_1.out).mono ?_
  rintro e w2 ⟨rfl, hb⟩
  have B_2 := Lib.hid (below_step B_1.out hb)
  have w0_2 := Lib.hid (w0_1.out.later hb)
  have S_2 : Hid (w1.heap.size ≤ w2.heap.size) := hb.size
  clear hb B_1 w0_1
  clear w0_2
  go_wp2_with fail
  refine (T0.out _ B_2.out).mono ?_
  rintro e w3 ⟨gx0, rfl, hb, ho⟩
  have B_3 := Lib.hid (below_step B_2.out hb)
  have S_3 : Hid (w2.heap.size ≤ w3.heap.size) := hb.size
  have x0_3 := Lib.hid ho
  clear hb ho B_2
  go_wp2_with fail
  refine (CI.out _ _ _ _ B_3.out x0_3.out).mono ?_
  rintro e w4 ⟨rfl, hb⟩
  have B_4 := Lib.hid (below_step B_3.out hb)
  have x0_4 := Lib.hid (x0_3.out.later hb)
  have S_4 : Hid (w3.heap.size ≤ w4.heap.size) := hb.size
  clear hb B_3 x0_3
  cases v1
  all_goals
    go_wp2_with fail
    refine (T0.out _ B_4.out).mono ?_
    rintro e w5 ⟨gz0, rfl, hb, ho⟩
    have B_5 := Lib.hid (below_step B_4.out hb)
    have x0_5 := Lib.hid (x0_4.out.later hb)
    have S_5 : Hid (w4.heap.size ≤ w5.heap.size) := hb.size
    have z0_5 := Lib.hid ho
    clear hb ho B_4 x0_4
    go_wp2_with fail
    refine (Q0.out _ _ _ x0_5.out.copies z0_5.out.copies).mono ?_
    rintro e w6 ⟨rfl, hb⟩
    have B_6 := Lib.hid (below_step B_5.out hb)
    have x0_6 := Lib.hid (x0_5.out.later hb)
    have z0_6 := Lib.hid (z0_5.out.later hb)
    have S_6 : Hid (w5.heap.size ≤ w6.heap.size) := hb.size
    clear hb B_5 x0_5 z0_5
    go_wp2
    go_ret
    exact ⟨rfl, B_6.out⟩

theorem walk (A0 : Option Addr) (c0 : Nat) (P0 : List (Int × Int)) {y0 : World} (h0 : Copies y0 y0.heap.size A0 P0) (l0 : P0.length ≤ 9223372036854775807) (_ : ∀ d ∈ P0, (Lit.int .i64 d.1).wf = true) (x1 : Int) (_ : (Lit.int .i64 x1).wf = true) (x2 : Int) (_ : (Lit.int .i64 x2).wf = true) (w : World) (e0 : y0 = w) :
    Calls Try.prog 3 #[.slice A0 P0.length c0, .int .i64 x1, .int .i64 x2] w fun e w' => e = .returned (.bool true) ∧ Below w.heap.size w w' := by
  subst e0
  by_cases hb0 : 1048576 < (P0.length : Int)
  · exact walk_big0 A0 c0 P0 x1 x2 _ h0 l0  hb0
  have hs0 : (P0.length : Int) ≤ 1048576 := by omega
  have hm0 : P0.length ≤ 1048576 := by omega
  refine walk_small A0 c0 P0 x1 x2 (validP P0 x1 x2) _ h0 hs0 (fun W A0 B0 hW hP0 hB0 => ?_) (fun W A0 B0 hW hP0 hB0 => ?_)
  · exact specValidCopies_any A0 P0.length P0 x1 x2 B0 W hP0 hB0 hm0
  · exact implValidCopies_any A0 P0.length P0 x1 x2 B0 W hP0 hB0 hm0

set_option maxRecDepth 100000 in
theorem lifted (os : Os) (started : os.Started) (H : Type) (enc : TypeId × Value → H) :
    ReturnsInHanded {} Try.checked os 3 .any (Rows.fnExactValidCopiesSpec.pre6 enc Try.prog Try.f3 Rows.fnExactValidCopiesRow.domain false) (Rows.fnExactValidCopiesSpec.post enc Try.prog Try.f3 false true false false) := by
  refine returnsInHanded_of_change (C := Try.checked) own started (by kernel_rfl) Try.func3
    (ChangeSpec.witness6 (enc := enc) (C := Try.checked) false ⟨#[], #[.slice none 0 0, .int .i64 0, .int .i64 0], []⟩ 8 (by kernel_rfl) (by kernel_rfl) (by kernel_rfl) (by kernel_rfl)) ?_
  intro W base args ds gs before hval0 hW _ _
  have hval : ∀ (j : Nat) t v, Try.f3.params[j]? = some t → args[j]? = some v → Value.okWide Try.prog W .any base t v := hval0
  have hW' := hW
  obtain ⟨p, q, hA0, hV, rfl, _, _⟩ := hW
  have hA : DataW.TrodAll enc Try.prog W 0 (fun _ => true) true Try.f3.params.toList args.toList ds p := hA0
  rw [Try.params3] at hA hval
  obtain ⟨v0, vs0, d0, ds0, p0, q0, hargs, rfl, rfl, h0, r0⟩ := trodAll_cons hA
  obtain ⟨v1, vs1, d1, ds1, p1, q1, rfl, rfl, rfl, h1, r1⟩ := trodAll_cons r0
  obtain ⟨v2, vs2, d2, ds2, p2, q2, rfl, rfl, rfl, h2, r2⟩ := trodAll_cons r1
  obtain ⟨rfl, rfl, rfl⟩ := trodAll_nil r2
  obtain rfl : args = #[v0, v1, v2] := by cases args; simp_all
  obtain ⟨rfl, rfl⟩ := trodVars_none hV
  obtain ⟨A0, c0, P0, rfl, i0, l0, z0⟩ := open_copies (hval 0 22 v0 rfl rfl) h0
  obtain ⟨a1, rfl, rfl, rfl, w1⟩ := open_int Try.underlying2 (hval 1 2 v1 rfl rfl) h1
  obtain ⟨a2, rfl, rfl, rfl, w2⟩ := open_int Try.underlying2 (hval 2 2 v2 rfl rfl) h2
  refine (walk A0 c0 P0 i0 l0 z0 a1 w1 a2 w2 W rfl).mono fun e W' ⟨he, hb⟩ => ?_
  subst he
  refine ⟨_, rfl, law_post hW' rfl rfl ?_ rfl rfl rfl hb⟩
  intro t ht
  rw [Try.params3] at ht
  have ht' : t = 22 ∨ t = 2 ∨ t = 2 := by simpa using ht
  rcases ht' with rfl | rfl | rfl <;> exact ⟨by kernel_rfl, of_decide_eq_true (by kernel_rfl)⟩

theorem over : Rows.fnExactValidCopiesRow.holds Try.pinned (OpenSpec.ofChange Rows.fnExactValidCopiesSpec) :=
  OpenClaim.holds_of_wide 3 Try.f3 rfl rfl rfl rfl rfl rfl rfl ⟨rfl, rfl, rfl, rfl, rfl⟩ rfl rfl rfl rfl rfl (by kernel_rfl) Try.func3 (by kernel_rfl)
    (of_decide_eq_true (by kernel_rfl)) (by unfold Func.isWrapper; first | (rw [if_pos (by decide +kernel)]; kernel_rfl) | (rw [if_neg (by decide +kernel)]; exact ⟨rfl, rfl⟩))
    (fun os started H enc _ => lifted os started H enc)

theorem proved : Rows.FnExactValidCopiesSaid :=
  over
end Go.Proofs.Ytamookdlbmbncaa.fnExactValidCopies
