/- For every two counters, the law FnExactSameCounter returns true: impl.SameCounter answers as spec.SameCounter and leaves its arguments as they were. Conditions: none. -/
import Derived.Test.YtkiphejkgpfjjaaCntSame
import Derived.Test.YtkiphejkgpfjjaaLaw
import Derived.Deep.RegionHeld3
namespace Go.Proofs.Ytkiphejkgpfjjaa.fnExactSameCounter
open Go.ChangeShapes Go.WideShapes Go.ChangeAt Go.RowKit

theorem walk_big (A A' : Option Addr) (c n c' n' : Nat) (w : World) (hn : n ≤ 9223372036854775807) (hbig : 1048576 < n) :
    Calls Try.prog 4 #[.agg #[.slice A n c], .agg #[.slice A' n' c']] w fun e w' => e = .returned (.bool true) ∧ Below w.heap.size w w' := by
  have hs := fun W => szCard_any A n c 1048576 W (by omega) (by omega) hn
  have e : (if (1048576 : Int) < (n : Int) then (-1 : Int) else 1048576 - n) = -1 := if_pos (by omega)
  rw [e] at hs
  have HS := Lib.hid hs
  clear hs e
  go_enter Try.func4, Try.ntmps4
  go_wp2_with fail
  refine (HS.out _).mono ?_
  rintro e w1 ⟨rfl, hb1⟩
  have B1 := Lib.hid (below_step ((below_box w _).alloc (by simp) _) hb1)
  clear hb1
  go_wp2
  go_ret
  exact ⟨rfl, B1.out⟩

theorem walk_sum (A A' : Option Addr) (c n c' n' : Nat) (w : World) (hn : n ≤ 1048576) (hn' : n' ≤ 9223372036854775807) (hbig : 1048576 < n + n') :
    Calls Try.prog 4 #[.agg #[.slice A n c], .agg #[.slice A' n' c']] w fun e w' => e = .returned (.bool true) ∧ Below w.heap.size w w' := by
  have hs := fun W => szCard_any A n c 1048576 W (by omega) (by omega) (by omega)
  have hs' := fun W => szCard_any A' n' c' (1048576 - n) W (by omega) (by omega) (by omega)
  have e : (if (1048576 : Int) < (n : Int) then (-1 : Int) else 1048576 - n) = 1048576 - n := if_neg (by omega)
  have e' : (if (1048576 - n : Int) < (n' : Int) then (-1 : Int) else 1048576 - n - n') = -1 := if_pos (by omega)
  rw [e] at hs
  rw [e'] at hs'
  have HS := Lib.hid hs
  have HS' := Lib.hid hs'
  clear hs e hs' e'
  go_enter Try.func4, Try.ntmps4
  go_wp2_with fail
  refine (HS.out _).mono ?_
  rintro e w1 ⟨rfl, hb⟩
  have B1 := Lib.hid (below_step ((below_box w _).alloc (by simp) _) hb)
  have d1 := cell_kept (p := ⟨w.heap.size + 1, 0, none⟩) (v := .slice A' n' c') (by simp) hb
  clear hb
  go_wp2_with fail
  refine (HS'.out _).mono ?_
  rintro e w2 ⟨rfl, hb⟩
  have B2 := Lib.hid (below_step B1.out hb)
  clear hb
  go_wp2
  go_ret
  exact ⟨rfl, B2.out⟩

theorem walk_small (A A' : Option Addr) (c c' : Nat) (xs ys : List Int) (w : World) (h : Ints w w.heap.size A xs) (h' : Ints w w.heap.size A' ys) (hn : xs.length + ys.length ≤ 1048576) :
    Calls Try.prog 4 #[.agg #[.slice A xs.length c], .agg #[.slice A' ys.length c']] w fun e w' => e = .returned (.bool true) ∧ Below w.heap.size w w' := by
  have hs := fun W => szCard_any A xs.length c 1048576 W (by omega) (by omega) (by omega)
  have hs' := fun W => szCard_any A' ys.length c' (1048576 - xs.length) W (by omega) (by omega) (by omega)
  have e : (if (1048576 : Int) < (xs.length : Int) then (-1 : Int) else 1048576 - xs.length) = 1048576 - xs.length := if_neg (by omega)
  have e' : (if (1048576 - xs.length : Int) < (ys.length : Int) then (-1 : Int) else 1048576 - xs.length - ys.length) = 1048576 - xs.length - ys.length := if_neg (by omega)
  rw [e] at hs
  rw [e'] at hs'
  have HS := Lib.hid hs
  have HS' := Lib.hid hs'
  have H := Lib.hid h
  have H' := Lib.hid h'
  clear hs e h hs' e' h'
  obtain ⟨r, hr⟩ : ∃ r, decide (xs = ys) = r := ⟨_, rfl⟩
  have HR := Lib.hid hr
  have hxn : xs.length ≤ 1048576 := by omega
  have hyn : ys.length ≤ 1048576 := by omega
  have hyn' : ys.length ≤ 140737488355328 := by omega
  have tok : True := trivial
  clear hr
  go_enter Try.func4, Try.ntmps4
  go_wp2_with fail
  refine (HS.out _).mono ?_
  rintro e w1 ⟨rfl, hb⟩
  have B1 := Lib.hid (below_step ((below_box w _).alloc (by simp) _) hb)
  have c1 := cell_kept (p := ⟨w.heap.size, 0, none⟩) (v := .slice A xs.length c) (by simp) hb
  have d1 := cell_kept (p := ⟨w.heap.size + 1, 0, none⟩) (v := .slice A' ys.length c') (by simp) hb
  clear hb HS
  go_wp2_with fail
  refine (HS'.out _).mono ?_
  rintro e w2 ⟨rfl, hb⟩
  have B2 := Lib.hid (below_step B1.out hb)
  have c2 := cell_kept c1 hb
  have d2 := cell_kept d1 hb
  clear hb HS' B1 c1 d1
  go_wp2
  go_region_held3 (fun W => W.cell? ⟨w.heap.size, 0, none⟩ = some (.slice A xs.length c) ∧ W.cell? ⟨w.heap.size + 1, 0, none⟩ = some (.slice A' ys.length c'))
    (first | exact ⟨c2, d2⟩ | exact ⟨c3, d3⟩ | exact ⟨c4, d4⟩ | exact ⟨c5, d5⟩)
    (first
      | (go_at_call 11
         have _t := tok
         refine (toCard_any A c xs w.heap.size _ ?_ ?_ hxn).mono ?_
         · exact H.out.below B2.out.drew
         · exact B2.out.drew.size
         rintro e w3 ⟨g3, rfl, hg3, hb, hrow⟩
         have B3 := Lib.hid (below_step B2.out.drew hb)
         have c3 := cell_kept (w := w2.drew) c2 hb
         have d3 := cell_kept (w := w2.drew) d2 hb
         have R3 := Lib.hid hrow
         clear hb hrow hg3 tok _t)
      | (go_at_call 11
         refine (toCard_any A' c' ys w.heap.size _ ?_ ?_ hyn).mono ?_
         · exact H'.out.below B3.out
         · exact B3.out.size
         rintro e w4 ⟨g4, rfl, hg4, hb, hrow⟩
         have B4 := Lib.hid (below_step B3.out hb)
         have c4 := cell_kept c3 hb
         have d4 := cell_kept d3 hb
         have R4 := Lib.hid (R3.out.later hb)
         have S4 := Lib.hid hrow
         clear hb hrow hg4)
      | (go_at_call 14
         refine (specSameCounter_any (some ⟨g3, 0, none⟩) (some ⟨g4, 0, none⟩) _ _ xs ys (g3 + 1) (g4 + 1) _ ?_ ?_ ?_ ?_ hxn hyn').mono ?_
         · exact R4.out.ints
         · exact S4.out.ints
         · exact R4.out.lt
         · exact S4.out.lt
         rw [HR.out]
         rintro e w5 ⟨rfl, hb⟩
         have B5 := Lib.hid (below_step B4.out hb)
         have c5 := cell_kept c4 hb
         have d5 := cell_kept d4 hb
         clear hb))
  clear B2 B3 B4 c2 d2 c3 d3 c4 d4 R3 R4 S4
  go_wp2_with fail
  refine (toCard_any A c xs w.heap.size _ (H.out.below B5.out) B5.out.size hxn).mono ?_
  rintro e w6 ⟨g6, rfl, hg6, hb, hrow⟩
  have B6 := Lib.hid (below_step B5.out hb)
  have c6 := cell_kept c5 hb
  have d6 := cell_kept d5 hb
  have R6 := Lib.hid hrow
  clear hb hrow hg6 B5 c5 d5
  have s6 : w.heap.size + 1 < w6.heap.size := World.block_lt_of_cell? _ _ d6
  have hb6 := below_box w6 (.cells #[.slice (some ⟨g6, 0, none⟩) xs.length xs.length] 27)
  have c7 := cell_kept c6 hb6
  have d7 := cell_kept d6 hb6
  have B7 := Lib.hid (below_step B6.out hb6)
  have R7 := Lib.hid (R6.out.later hb6)
  have x7 : (w6.alloc (.cells #[.slice (some ⟨g6, 0, none⟩) xs.length xs.length] 27)).cell? ⟨w6.heap.size, 0, none⟩ = some (.slice (some ⟨g6, 0, none⟩) xs.length xs.length) := by simp
  have hb7 := Lib.hid hb6
  clear hb6 c6 d6
  go_wp2_with fail
  refine (toCard_any A' c' ys w.heap.size _ (H'.out.below B7.out) B7.out.size hyn).mono ?_
  rintro e w8 ⟨g8, rfl, hg8, hb, hrow⟩
  have B8 := Lib.hid (below_step B7.out hb)
  have c8 := cell_kept c7 hb
  have d8 := cell_kept d7 hb
  have x8 := cell_kept x7 hb
  have R8 := Lib.hid (R7.out.later hb)
  have S8 := Lib.hid hrow
  clear hb hrow hg8 c7 d7 x7 B7 R7 B6 R6 s6 hb7
  have s8 : w6.heap.size < w8.heap.size := World.block_lt_of_cell? _ _ x8
  have hb9 := below_box w8 (.cells #[.slice (some ⟨g8, 0, none⟩) ys.length ys.length] 27)
  have c9 := cell_kept c8 hb9
  have d9 := cell_kept d8 hb9
  have x9 := cell_kept x8 hb9
  have B9 := Lib.hid (below_step B8.out hb9)
  have R9 := Lib.hid (R8.out.later hb9)
  have S9 := Lib.hid (S8.out.later hb9)
  have y9 : (w8.alloc (.cells #[.slice (some ⟨g8, 0, none⟩) ys.length ys.length] 27)).cell? ⟨w8.heap.size, 0, none⟩ = some (.slice (some ⟨g8, 0, none⟩) ys.length ys.length) := by simp
  clear hb9 c8 d8 x8 B8 R8 S8
  go_wp2_with fail
  refine (implSameCounter_any (some ⟨g6, 0, none⟩) (some ⟨g8, 0, none⟩) _ _ xs ys (g6 + 1) (g8 + 1) _ R9.out.ints S9.out.ints R9.out.lt S9.out.lt hxn hyn').mono ?_
  rw [HR.out]
  rintro e w10 ⟨rfl, hb⟩
  have B10 := Lib.hid (below_step B9.out hb)
  have c10 := cell_kept c9 hb
  have d10 := cell_kept d9 hb
  have x10 := cell_kept x9 hb
  have y10 := cell_kept y9 hb
  have R10 := Lib.hid (R9.out.later hb)
  have S10 := Lib.hid (S9.out.later hb)
  clear hb c9 d9 x9 y9 B9 R9 S9 s8 HR
  cases r
  all_goals
    go_wp2
    go_region_held3 (fun W => W.cell? ⟨w.heap.size, 0, none⟩ = some (.slice A xs.length c) ∧ W.cell? ⟨w6.heap.size, 0, none⟩ = some (.slice (some ⟨g6, 0, none⟩) xs.length xs.length))
      (first | exact ⟨c10, x10⟩ | exact ⟨c11, x11⟩ | exact ⟨c12, x12⟩)
      (first
        | (go_at_call 11
           refine (toCard_any A c xs w.heap.size _ ?_ ?_ hxn).mono ?_
           · exact H.out.below B10.out.drew
           · exact B10.out.drew.size
           rintro e w11 ⟨g11, rfl, hg11, hb, hrow⟩
           have B11 := Lib.hid (below_step B10.out.drew hb)
           have c11 := cell_kept (w := w10.drew) c10 hb
           have d11 := cell_kept (w := w10.drew) d10 hb
           have x11 := cell_kept (w := w10.drew) x10 hb
           have y11 := cell_kept (w := w10.drew) y10 hb
           have R11 := Lib.hid (R10.out.drew.later hb)
           have S11 := Lib.hid (S10.out.drew.later hb)
           have N11 := Lib.hid hrow
           clear hb hrow hg11)
        | (go_at_call 13
           refine (eqCard_any (some ⟨g6, 0, none⟩) (some ⟨g11, 0, none⟩) _ _ xs xs (g6 + 1) (g11 + 1) _ ?_ ?_ ?_ ?_ hxn ?_).mono ?_
           · exact R11.out.ints
           · exact N11.out.ints
           · exact R11.out.lt
           · exact N11.out.lt
           · omega
           rintro e w12 ⟨rfl, hb⟩
           have B12 := Lib.hid (below_step B11.out hb)
           have c12 := cell_kept c11 hb
           have d12 := cell_kept d11 hb
           have x12 := cell_kept x11 hb
           have y12 := cell_kept y11 hb
           have R12 := Lib.hid (R11.out.later hb)
           have S12 := Lib.hid (S11.out.later hb)
           clear hb))
    clear B10 c10 d10 x10 y10 R10 S10 B11 c11 d11 x11 y11 R11 S11 N11
    go_wp2
    go_region_held3 (fun W => W.cell? ⟨w.heap.size + 1, 0, none⟩ = some (.slice A' ys.length c') ∧ W.cell? ⟨w8.heap.size, 0, none⟩ = some (.slice (some ⟨g8, 0, none⟩) ys.length ys.length))
      (first | exact ⟨d12, y12⟩ | exact ⟨d13, y13⟩ | exact ⟨d14, y14⟩)
      (first
        | (go_at_call 11
           refine (toCard_any A' c' ys w.heap.size _ ?_ ?_ hyn).mono ?_
           · exact H'.out.below B12.out.drew
           · exact B12.out.drew.size
           rintro e w13 ⟨g13, rfl, hg13, hb, hrow⟩
           have B13 := Lib.hid (below_step B12.out.drew hb)
           have d13 := cell_kept (w := w12.drew) d12 hb
           have y13 := cell_kept (w := w12.drew) y12 hb
           have S13 := Lib.hid (S12.out.drew.later hb)
           have N13 := Lib.hid hrow
           clear hb hrow hg13)
        | (go_at_call 13
           refine (eqCard_any (some ⟨g8, 0, none⟩) (some ⟨g13, 0, none⟩) _ _ ys ys (g8 + 1) (g13 + 1) _ ?_ ?_ ?_ ?_ hyn ?_).mono ?_
           · exact S13.out.ints
           · exact N13.out.ints
           · exact S13.out.lt
           · exact N13.out.lt
           · omega
           rintro e w14 ⟨rfl, hb⟩
           have B14 := Lib.hid (below_step B13.out hb)
           have d14 := cell_kept d13 hb
           have y14 := cell_kept y13 hb
           clear hb))
    go_wp2
    go_ret
    exact ⟨rfl, B14.out⟩

theorem walk (A : Option Addr) (c : Nat) (xs : List Int) {w : World} (h : Ints w w.heap.size A xs) (hl : xs.length ≤ 9223372036854775807) (_ : ∀ n ∈ xs, (Lit.int .i64 n).wf = true)
    (A' : Option Addr) (c' : Nat) (ys : List Int) {w0 : World} (h' : Ints w0 w0.heap.size A' ys) (hl' : ys.length ≤ 9223372036854775807) (_ : ∀ n ∈ ys, (Lit.int .i64 n).wf = true) (w1 : World) (e1 : w = w1) (e0 : w0 = w1) :
    Calls Try.prog 4 #[.agg #[.slice A xs.length c], .agg #[.slice A' ys.length c']] w1 fun e w' => e = .returned (.bool true) ∧ Below w1.heap.size w1 w' := by
  subst e1
  subst e0
  by_cases hn : xs.length ≤ 1048576
  · by_cases hs : xs.length + ys.length ≤ 1048576
    · exact walk_small A A' c c' xs ys w0 h h' hs
    · exact walk_sum A A' c xs.length c' ys.length w0 hn hl' (by omega)
  · exact walk_big A A' c xs.length c' ys.length w0 hl (by omega)

set_option maxRecDepth 100000 in
theorem lifted (os : Os) (started : os.Started) (H : Type) (enc : TypeId × Value → H) :
    ReturnsInHanded {} Try.checked os 4 .any (Rows.fnExactSameCounterSpec.pre6 enc Try.prog Try.f4 Rows.fnExactSameCounterRow.domain false) (Rows.fnExactSameCounterSpec.post enc Try.prog Try.f4 false true false false) := by
  refine returnsInHanded_of_change (C := Try.checked) own started (by kernel_rfl) Try.func4
    (ChangeSpec.witness6 (enc := enc) (C := Try.checked) false ⟨#[], #[.agg #[.slice none 0 0], .agg #[.slice none 0 0]], []⟩ 8 (by kernel_rfl) (by kernel_rfl) (by kernel_rfl) (by kernel_rfl)) ?_
  intro W base args ds gs before hval0 hW _ _
  have hval : ∀ (j : Nat) t v, Try.f4.params[j]? = some t → args[j]? = some v → Value.okWide Try.prog W .any base t v := hval0
  have hW' := hW
  obtain ⟨p, q, hA0, hV, rfl, _, _⟩ := hW
  have hA : DataW.TrodAll enc Try.prog W 0 (fun _ => true) true Try.f4.params.toList args.toList ds p := hA0
  rw [Try.params4] at hA hval
  obtain ⟨v0, vs0, d0, ds0, p0, q0, hargs, rfl, rfl, h0, r0⟩ := trodAll_cons hA
  obtain ⟨v1, vs1, d1, ds1, p1, q1, rfl, rfl, rfl, h1, r1⟩ := trodAll_cons r0
  obtain ⟨rfl, rfl, rfl⟩ := trodAll_nil r1
  obtain rfl : args = #[v0, v1] := by cases args; simp_all
  obtain ⟨rfl, rfl⟩ := trodVars_none hV
  obtain ⟨A0, c0, xs0, rfl, i0, l0, w0⟩ := open_card (hval 0 24 v0 rfl rfl) h0
  obtain ⟨A1, c1, xs1, rfl, i1, l1, w1⟩ := open_card (hval 1 24 v1 rfl rfl) h1
  refine (walk A0 c0 xs0 i0 l0 w0 A1 c1 xs1 i1 l1 w1 W rfl rfl).mono fun e W' ⟨he, hb⟩ => ?_
  subst he
  refine ⟨_, rfl, law_post hW' rfl rfl ?_ rfl rfl rfl hb⟩
  intro t ht
  rw [Try.params4] at ht
  obtain rfl : t = 24 := by simpa using ht
  exact ⟨by kernel_rfl, of_decide_eq_true (by kernel_rfl)⟩

theorem over : Rows.fnExactSameCounterRow.holds Try.pinned (OpenSpec.ofChange Rows.fnExactSameCounterSpec) :=
  OpenClaim.holds_of_wide 4 Try.f4 rfl rfl rfl rfl rfl rfl rfl ⟨rfl, rfl, rfl, rfl, rfl⟩ rfl rfl rfl rfl rfl (by kernel_rfl) Try.func4 (by kernel_rfl)
    (of_decide_eq_true (by kernel_rfl)) (by unfold Func.isWrapper; first | (rw [if_pos (by decide +kernel)]; kernel_rfl) | (rw [if_neg (by decide +kernel)]; exact ⟨rfl, rfl⟩))
    (fun os started H enc _ => lifted os started H enc)

theorem proved : Rows.FnExactSameCounterSaid :=
  over
end Go.Proofs.Ytkiphejkgpfjjaa.fnExactSameCounter
