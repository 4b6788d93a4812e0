/- For every counter, the law FnExactNumberShown returns true: impl.NumberShown answers as spec.NumberShown and leaves its argument as it was. Conditions: none. -/
import Derived.Test.YtkiphejkgpfjjaaCntBack
import Derived.Test.YtkiphejkgpfjjaaCounter
import Derived.Test.YtkiphejkgpfjjaaLaw
import Derived.Deep.RegionHeld3
namespace Go.Proofs.Ytkiphejkgpfjjaa.fnExactNumberShown
open Go.ChangeShapes Go.WideShapes Go.ChangeAt Go.RowKit

theorem walk_big (A : Option Addr) (c n : Nat) (w : World) (hn : n ≤ 9223372036854775807) (hbig : 1048576 < n) :
    Calls Try.prog 5 #[.agg #[.slice A n c]] w fun e w' => e = .returned (.bool true) ∧ Below w.heap.size w w' := by
  have hs := fun W => szCard_any A n c 1048576 W (by omega) (by omega) hn
  have e : (if (1048576 : Int) < (n : Int) then (-1 : Int) else 1048576 - n) = -1 := if_pos (by omega)
  rw [e] at hs
  have HS := Lib.hid hs
  clear hs e
  go_enter Try.func5, Try.ntmps5
  go_wp2_with fail
  refine (HS.out _).mono ?_
  rintro e w1 ⟨rfl, hb1⟩
  have B1 := Lib.hid (below_step (below_box w _) hb1)
  clear hb1
  go_wp2
  go_ret
  exact ⟨rfl, B1.out⟩

theorem walk_small (A : Option Addr) (c : Nat) (xs : List Int) (w : World) (h : Ints w w.heap.size A xs) (hn : xs.length ≤ 1048576) :
    Calls Try.prog 5 #[.agg #[.slice A xs.length c]] w fun e w' => e = .returned (.bool true) ∧ Below w.heap.size w w' := by
  have hs := fun W => szCard_any A xs.length c 1048576 W (by omega) (by omega) (by omega)
  have e : (if (1048576 : Int) < (xs.length : Int) then (-1 : Int) else 1048576 - xs.length) = 1048576 - xs.length := if_neg (by omega)
  rw [e] at hs
  have HS := Lib.hid hs
  have H := Lib.hid h
  clear hs e h
  obtain ⟨r, hr⟩ : ∃ r, (if okK xs = true then numOf xs else 0) = r := ⟨_, rfl⟩
  obtain ⟨k, hk⟩ : ∃ k, (if okK xs = true then (0 : Int) else 1) = k := ⟨_, rfl⟩
  have HR := Lib.hid hr
  have HK := Lib.hid hk
  clear hr hk
  go_enter Try.func5, Try.ntmps5
  go_wp2_with fail
  refine (HS.out _).mono ?_
  rintro e w1 ⟨rfl, hb⟩
  have B1 := Lib.hid (below_step (below_box w _) hb)
  have c1 := cell_kept (p := ⟨w.heap.size, 0, none⟩) (v := .slice A xs.length c) (by simp) hb
  clear hb HS
  go_wp2_with fail
  refine (toCard_any A c xs w.heap.size _ (H.out.below B1.out) (B1.out.size) hn).mono ?_
  rintro e w2 ⟨g2, rfl, hg2, hb, hrow⟩
  have B2 := Lib.hid (below_step B1.out hb)
  have R2 := Lib.hid hrow
  have c2 := cell_kept c1 hb
  clear hb hrow c1 B1 hg2
  go_wp2_with fail
  refine (specShown_any (some ⟨g2, 0, none⟩) xs.length xs (g2 + 1) _ R2.out.ints R2.out.lt hn).mono ?_
  rw [HR.out, HK.out]
  rintro e w3 ⟨rfl, hb⟩
  have B3 := Lib.hid (below_step B2.out hb)
  have c3 := cell_kept c2 hb
  clear hb c2 B2 R2
  go_wp2_with fail
  refine (toCard_any A c xs w.heap.size _ (H.out.below B3.out) (B3.out.size) hn).mono ?_
  rintro e w4 ⟨g4, rfl, hg4, hb, hrow⟩
  have B4 := Lib.hid (below_step B3.out hb)
  have R4 := Lib.hid hrow
  have c4 := cell_kept c3 hb
  clear hb hrow c3 B3 hg4
  go_wp2_with fail
  refine (implShown_any (some ⟨g4, 0, none⟩) xs.length xs (g4 + 1) _ (R4.out.alloc _).ints (R4.out.alloc _).lt hn).mono ?_
  rw [HR.out, HK.out]
  rintro e w5 ⟨rfl, hb⟩
  have B5 := Lib.hid (below_step (below_step B4.out (below_box w4 _)) hb)
  have R5 := Lib.hid ((R4.out.alloc _).later hb)
  have c5 := cell_kept (p := ⟨w.heap.size, 0, none⟩) (v := .slice A xs.length c) (by rw [World.cell?_alloc_lt _ _ _ (World.block_lt_of_cell? _ _ c4)]; exact c4) hb
  have d5 := cell_kept (p := ⟨w4.heap.size, 0, none⟩) (v := .slice (some ⟨g4, 0, none⟩) xs.length xs.length) (by simp) hb
  clear hb c4 B4 R4 HR HK
  all_goals
    go_wp2
    go_region_held3 (fun W => W.cell? ⟨w.heap.size, 0, none⟩ = some (.slice A xs.length c) ∧ W.cell? ⟨w4.heap.size, 0, none⟩ = some (.slice (some ⟨g4, 0, none⟩) xs.length xs.length))
      (first | exact ⟨c5, d5⟩ | exact ⟨c6, d6⟩ | exact ⟨c7, d7⟩)
      (first
        | (go_at_call 11
           refine (toCard_any A c xs w.heap.size _ ?_ ?_ hn).mono ?_
           · exact H.out.below B5.out.drew
           · exact B5.out.drew.size
           rintro e w6 ⟨g6, rfl, hg6, hb, hrow⟩
           have B6 := Lib.hid (below_step B5.out.drew hb)
           have c6 := cell_kept (w := w5.drew) c5 hb
           have d6 := cell_kept (w := w5.drew) d5 hb
           have R6 := Lib.hid (R5.out.drew.later hb)
           have N6 := Lib.hid hrow
           clear hb hrow hg6)
        | (go_at_call 13
           refine (eqCard_any (some ⟨g4, 0, none⟩) (some ⟨g6, 0, none⟩) _ _ xs xs (g4 + 1) (g6 + 1) _ ?_ ?_ ?_ ?_ hn ?_).mono ?_
           · exact R6.out.ints
           · exact N6.out.ints
           · exact R6.out.lt
           · exact N6.out.lt
           · omega
           rintro e w7 ⟨rfl, hb⟩
           have B7 := Lib.hid (below_step B6.out hb)
           have c7 := cell_kept c6 hb
           have d7 := cell_kept d6 hb
           clear hb))
    go_wp2
    go_ret
    exact ⟨rfl, B7.out⟩

theorem walk (A : Option Addr) (c : Nat) (xs : List Int) {w : World} (h : Ints w w.heap.size A xs) (hl : xs.length ≤ 9223372036854775807) (_ : ∀ n ∈ xs, (Lit.int .i64 n).wf = true) (w1 : World) (e1 : w = w1) :
    Calls Try.prog 5 #[.agg #[.slice A xs.length c]] w1 fun e w' => e = .returned (.bool true) ∧ Below w1.heap.size w1 w' := by
  subst e1
  by_cases hn : xs.length ≤ 1048576
  · exact walk_small A c xs w h hn
  · exact walk_big A c xs.length w hl (by omega)

set_option maxRecDepth 100000 in
theorem lifted (os : Os) (started : os.Started) (H : Type) (enc : TypeId × Value → H) :
    ReturnsInHanded {} Try.checked os 5 .any (Rows.fnExactNumberShownSpec.pre6 enc Try.prog Try.f5 Rows.fnExactNumberShownRow.domain false) (Rows.fnExactNumberShownSpec.post enc Try.prog Try.f5 false true false false) := by
  refine returnsInHanded_of_change (C := Try.checked) own started (by kernel_rfl) Try.func5
    (ChangeSpec.witness6 (enc := enc) (C := Try.checked) false ⟨#[], #[.agg #[.slice none 0 0]], []⟩ 8 (by kernel_rfl) (by kernel_rfl) (by kernel_rfl) (by kernel_rfl)) ?_
  intro W base args ds gs before hval0 hW _ _
  have hval : ∀ (j : Nat) t v, Try.f5.params[j]? = some t → args[j]? = some v → Value.okWide Try.prog W .any base t v := hval0
  have hW' := hW
  obtain ⟨p, q, hA0, hV, rfl, _, _⟩ := hW
  have hA : DataW.TrodAll enc Try.prog W 0 (fun _ => true) true Try.f5.params.toList args.toList ds p := hA0
  rw [Try.params5] at hA hval
  obtain ⟨v0, vs0, d0, ds0, p0, q0, hargs, rfl, rfl, h0, r0⟩ := trodAll_cons hA
  obtain ⟨rfl, rfl, rfl⟩ := trodAll_nil r0
  obtain rfl : args = #[v0] := by cases args; simp_all
  obtain ⟨rfl, rfl⟩ := trodVars_none hV
  obtain ⟨A0, c0, xs0, rfl, i0, l0, w0⟩ := open_card (hval 0 24 v0 rfl rfl) h0
  refine (walk A0 c0 xs0 i0 l0 w0 W rfl).mono fun e W' ⟨he, hb⟩ => ?_
  subst he
  refine ⟨_, rfl, law_post hW' rfl rfl ?_ rfl rfl rfl hb⟩
  intro t ht
  rw [Try.params5] at ht
  obtain rfl : t = 24 := by simpa using ht
  exact ⟨by kernel_rfl, of_decide_eq_true (by kernel_rfl)⟩

theorem over : Rows.fnExactNumberShownRow.holds Try.pinned (OpenSpec.ofChange Rows.fnExactNumberShownSpec) :=
  OpenClaim.holds_of_wide 5 Try.f5 rfl rfl rfl rfl rfl rfl rfl ⟨rfl, rfl, rfl, rfl, rfl⟩ rfl rfl rfl rfl rfl (by kernel_rfl) Try.func5 (by kernel_rfl)
    (of_decide_eq_true (by kernel_rfl)) (by unfold Func.isWrapper; first | (rw [if_pos (by decide +kernel)]; kernel_rfl) | (rw [if_neg (by decide +kernel)]; exact ⟨rfl, rfl⟩))
    (fun os started H enc _ => lifted os started H enc)

theorem proved : Rows.FnExactNumberShownSaid :=
  over
end Go.Proofs.Ytkiphejkgpfjjaa.fnExactNumberShown
