/- For every width, the law FnExactBlankCard returns true: impl.BlankCard answers as spec.BlankCard, in memory of its own. Conditions: none. -/
import Derived.Test.YtfjokjdfekkbiaaGives
import Derived.Test.YtfjokjdfekkbiaaLaw
namespace Go.Proofs.Ytfjokjdfekkbiaa.fnExactBlankCard
open Go.ChangeShapes Go.WideShapes Go.ChangeAt Go.RowKit

theorem walk_no (a0 : Int) (h : inB a0 1 20 = false) (w : World) :
    Calls Try.prog 7 #[.int .i64 a0] w fun e w' => e = .returned (.bool true) ∧ Below w.heap.size w w' := by
  go_enter Try.func7, Try.ntmps7
  go_wp2_with fail
  refine (specBlank_no a0 h _).mono ?_
  rintro e w1 ⟨rfl, hb⟩
  have B_1 := Lib.hid hb
  clear hb
  have hb := below_box w1 (.cells #[.slice none 0 0] 27)
  have B_2 := Lib.hid (below_step B_1.out hb)
  have cw_2 : (w1.alloc (.cells #[.slice none 0 0] 27)).cell? ⟨w1.heap.size, 0, none⟩ = some (.slice none 0 0) := by simp
  clear hb B_1
  go_wp2_with fail
  refine (implBlank_no a0 h _).mono ?_
  rintro e w3 ⟨rfl, hb⟩
  have B_3 := Lib.hid (below_step B_2.out hb)
  have cw_3 := cell_kept cw_2 hb
  clear hb cw_2 B_2
  have hb := below_box w3 (.cells #[.slice none 0 0] 27)
  have B_4 := Lib.hid (below_step B_3.out hb)
  have cw_4 := cell_kept cw_3 hb
  have cg_4 : (w3.alloc (.cells #[.slice none 0 0] 27)).cell? ⟨w3.heap.size, 0, none⟩ = some (.slice none 0 0) := by simp
  clear hb cw_3 B_3
  go_wp2_with fail
  refine (eqCard_any none none 0 0 [] [] 0 0 _ Ints.nil Ints.nil (Nat.zero_le _) (Nat.zero_le _) (by simp) (by simp)).mono ?_
  rintro e w5 ⟨rfl, hb⟩
  have B_5 := Lib.hid (below_step B_4.out hb)
  have cw_5 := cell_kept cw_4 hb
  have cg_5 := cell_kept cg_4 hb
  clear hb cw_4 cg_4 B_4
  go_wp2_with fail
  refine (markCard_nil 0 1 _).mono ?_
  rintro e w6 ⟨rfl, hb⟩
  have B_6 := Lib.hid (below_step B_5.out hb)
  have cw_6 := cell_kept cw_5 hb
  have cg_6 := cell_kept cg_5 hb
  clear hb cw_5 cg_5 B_5
  go_wp2_with fail
  refine (heldCard_any none 0 0 0 1 _ Ints.nil (Nat.zero_le _) (by omega) (by omega) (by omega)).mono ?_
  rintro e w7 ⟨rfl, hb⟩
  have B_7 := Lib.hid (below_step B_6.out hb)
  have cw_7 := cell_kept cw_6 hb
  have cg_7 := cell_kept cg_6 hb
  clear hb cw_6 cg_6 B_6
  go_wp2_with fail
  refine (implBlank_no a0 h _).mono ?_
  rintro e w8 ⟨rfl, hb⟩
  have B_8 := Lib.hid (below_step B_7.out hb)
  have cw_8 := cell_kept cw_7 hb
  have cg_8 := cell_kept cg_7 hb
  clear hb cw_7 cg_7 B_7
  have hb := below_box w8 (.cells #[.slice none 0 0] 27)
  have B_9 := Lib.hid (below_step B_8.out hb)
  have cw_9 := cell_kept cw_8 hb
  have cg_9 := cell_kept cg_8 hb
  have ch_9 : (w8.alloc (.cells #[.slice none 0 0] 27)).cell? ⟨w8.heap.size, 0, none⟩ = some (.slice none 0 0) := by simp
  clear hb cw_8 cg_8 B_8
  go_wp2_with fail
  refine (eqCard_any none none 0 0 [] [] 0 0 _ Ints.nil Ints.nil (Nat.zero_le _) (Nat.zero_le _) (by simp) (by simp)).mono ?_
  rintro e w10 ⟨rfl, hb⟩
  have B_10 := Lib.hid (below_step B_9.out hb)
  have cw_10 := cell_kept cw_9 hb
  have cg_10 := cell_kept cg_9 hb
  have ch_10 := cell_kept ch_9 hb
  clear hb cw_9 cg_9 ch_9 B_9
  go_wp2_with fail
  refine (heldCard_any none 0 0 0 1 _ Ints.nil (Nat.zero_le _) (by omega) (by omega) (by omega)).mono ?_
  rintro e w11 ⟨rfl, hb⟩
  have B_11 := Lib.hid (below_step B_10.out hb)
  have cw_11 := cell_kept cw_10 hb
  have cg_11 := cell_kept cg_10 hb
  have ch_11 := cell_kept ch_10 hb
  clear hb cw_10 cg_10 ch_10 B_10
  go_wp2
  go_ret
  exact ⟨rfl, B_11.out⟩

theorem walk_yes (n : Nat) (h : inB n 1 20 = true) (w : World) :
    Calls Try.prog 7 #[.int .i64 n] w fun e w' => e = .returned (.bool true) ∧ Below w.heap.size w w' := by
  have hn : (List.replicate n (0 : Int)).length ≤ 1048576 := by simp [inB] at h ⊢; omega
  have HS := Lib.hid (fun W => specBlank_yes n h W)
  have HI := Lib.hid (fun W => implBlank_yes n h W)
  obtain ⟨ys, hy⟩ : ∃ ys, List.replicate n (0 : Int) = ys := ⟨_, rfl⟩
  rw [hy] at HS HI hn
  clear hy h
  have hn' : ys.length ≤ 140737488355328 := by omega
  go_enter Try.func7, Try.ntmps7
  go_wp2_with fail
  refine (HS.out _).mono ?_
  rintro e w1 ⟨gw, cw, xw, rfl, hg, hb, hrow⟩
  have B_1 := Lib.hid hb
  have Rw_1 := Lib.hid hrow
  clear hb hrow hg
  have hb := below_box w1 (.cells #[.slice (some ⟨gw, 0, none⟩) ys.length cw] 27)
  have B_2 := Lib.hid (below_step B_1.out hb)
  have Rw_2 := Lib.hid (Rw_1.out.later hb)
  have cw_2 : (w1.alloc (.cells #[.slice (some ⟨gw, 0, none⟩) ys.length cw] 27)).cell? ⟨w1.heap.size, 0, none⟩ = some (.slice (some ⟨gw, 0, none⟩) ys.length cw) := by simp
  clear hb Rw_1 B_1
  have G0 := Lib.hid B_2.out.size
  go_wp2_with fail
  refine (HI.out _).mono ?_
  rintro e w3 ⟨gg, cg, xg, rfl, hg, hb, hrow⟩
  have L_Rw_Rg : Hid (gw < gg) := Nat.lt_of_lt_of_le (Rw_2.out.lt) hg
  have L_cw_Rg : Hid (w1.heap.size < gg) := Nat.lt_of_lt_of_le (World.block_lt_of_cell? _ _ cw_2) hg
  have B_3 := Lib.hid (below_step B_2.out hb)
  have cw_3 := cell_kept cw_2 hb
  have Rw_3 := Lib.hid (Rw_2.out.later hb)
  have G_Rg := Lib.hid (Nat.le_trans G0.out hg)
  have Rg_3 := Lib.hid hrow
  clear hb hrow hg cw_2 Rw_2 B_2
  have L_Rg_cg : Hid (gg < w3.heap.size) := Nat.lt_of_lt_of_le (Rg_3.out.lt) (Nat.le_refl _)
  have hb := below_box w3 (.cells #[.slice (some ⟨gg, 0, none⟩) ys.length cg] 27)
  have B_4 := Lib.hid (below_step B_3.out hb)
  have cw_4 := cell_kept cw_3 hb
  have Rw_4 := Lib.hid (Rw_3.out.later hb)
  have Rg_4 := Lib.hid (Rg_3.out.later hb)
  have cg_4 : (w3.alloc (.cells #[.slice (some ⟨gg, 0, none⟩) ys.length cg] 27)).cell? ⟨w3.heap.size, 0, none⟩ = some (.slice (some ⟨gg, 0, none⟩) ys.length cg) := by simp
  clear hb cw_3 Rw_3 Rg_3 B_3
  go_wp2_with fail
  refine (eqCard_any (some ⟨gg, 0, none⟩) (some ⟨gw, 0, none⟩) cg cw ys ys (gg + 1) (gw + 1) _ Rg_4.out.ints Rw_4.out.ints Rg_4.out.lt Rw_4.out.lt hn hn').mono ?_
  rintro e w5 ⟨rfl, hb⟩
  have B_5 := Lib.hid (below_step B_4.out hb)
  have cw_5 := cell_kept cw_4 hb
  have cg_5 := cell_kept cg_4 hb
  have Rw_5 := Lib.hid (Rw_4.out.later hb)
  have Rg_5 := Lib.hid (Rg_4.out.later hb)
  clear hb cw_4 cg_4 Rw_4 Rg_4 B_4
  go_wp2_with fail
  refine (markCard_any gg cg ys xg 1 _ Rg_5.out (by omega) (by omega) hn).mono ?_
  rintro e w6 ⟨rfl, hg, hrow⟩
  have B_6 := Lib.hid (below_only B_5.out hg G_Rg.out)
  have cw_6 := cell_only hg cw_5 (Nat.ne_of_lt L_cw_Rg.out)
  have cg_6 := cell_only hg cg_5 (Nat.ne_of_gt L_Rg_cg.out)
  have Rw_6 := Lib.hid (Row.only hg Rw_5.out (Nat.ne_of_lt L_Rw_Rg.out))
  have Rg_6 := Lib.hid hrow
  clear hg hrow B_5 cw_5 cg_5 Rw_5 Rg_5
  go_wp2_with fail
  refine (heldCard_any (some ⟨gg, 0, none⟩) cg ys.length (gg + 1) 1 _ Rg_6.out.ints Rg_6.out.lt (by omega) (by omega) hn).mono ?_
  rintro e w7 ⟨rfl, hb⟩
  have B_7 := Lib.hid (below_step B_6.out hb)
  have cw_7 := cell_kept cw_6 hb
  have cg_7 := cell_kept cg_6 hb
  have Rw_7 := Lib.hid (Rw_6.out.later hb)
  have Rg_7 := Lib.hid (Rg_6.out.later hb)
  clear hb cw_6 cg_6 Rw_6 Rg_6 B_6
  go_wp2_with fail
  refine (HI.out _).mono ?_
  rintro e w8 ⟨gh, ch, xh, rfl, hg, hb, hrow⟩
  have L_Rg_Rh : Hid (gg < gh) := Nat.lt_of_lt_of_le (Rg_7.out.lt) hg
  have B_8 := Lib.hid (below_step B_7.out hb)
  have cw_8 := cell_kept cw_7 hb
  have cg_8 := cell_kept cg_7 hb
  have Rw_8 := Lib.hid (Rw_7.out.later hb)
  have Rg_8 := Lib.hid (Rg_7.out.later hb)
  have Rh_8 := Lib.hid hrow
  clear hb hrow hg cw_7 cg_7 Rw_7 Rg_7 B_7
  have L_Rg_ch : Hid (gg < w8.heap.size) := Nat.lt_of_lt_of_le (Rg_8.out.lt) (Nat.le_refl _)
  have hb := below_box w8 (.cells #[.slice (some ⟨gh, 0, none⟩) ys.length ch] 27)
  have B_9 := Lib.hid (below_step B_8.out hb)
  have cw_9 := cell_kept cw_8 hb
  have cg_9 := cell_kept cg_8 hb
  have Rw_9 := Lib.hid (Rw_8.out.later hb)
  have Rg_9 := Lib.hid (Rg_8.out.later hb)
  have Rh_9 := Lib.hid (Rh_8.out.later hb)
  have ch_9 : (w8.alloc (.cells #[.slice (some ⟨gh, 0, none⟩) ys.length ch] 27)).cell? ⟨w8.heap.size, 0, none⟩ = some (.slice (some ⟨gh, 0, none⟩) ys.length ch) := by simp
  clear hb cw_8 cg_8 Rw_8 Rg_8 Rh_8 B_8
  go_wp2_with fail
  refine (eqCard_any (some ⟨gh, 0, none⟩) (some ⟨gw, 0, none⟩) ch cw ys ys (gh + 1) (gw + 1) _ Rh_9.out.ints Rw_9.out.ints Rh_9.out.lt Rw_9.out.lt hn hn').mono ?_
  rintro e w10 ⟨rfl, hb⟩
  have B_10 := Lib.hid (below_step B_9.out hb)
  have cw_10 := cell_kept cw_9 hb
  have cg_10 := cell_kept cg_9 hb
  have ch_10 := cell_kept ch_9 hb
  have Rw_10 := Lib.hid (Rw_9.out.later hb)
  have Rg_10 := Lib.hid (Rg_9.out.later hb)
  have Rh_10 := Lib.hid (Rh_9.out.later hb)
  clear hb cw_9 cg_9 ch_9 Rw_9 Rg_9 Rh_9 B_9
  go_wp2_with fail
  refine (heldCard_any (some ⟨gg, 0, none⟩) cg ys.length (gg + 1) 1 _ Rg_10.out.ints Rg_10.out.lt (by omega) (by omega) hn).mono ?_
  rintro e w11 ⟨rfl, hb⟩
  have B_11 := Lib.hid (below_step B_10.out hb)
  have cw_11 := cell_kept cw_10 hb
  have cg_11 := cell_kept cg_10 hb
  have ch_11 := cell_kept ch_10 hb
  have Rw_11 := Lib.hid (Rw_10.out.later hb)
  have Rg_11 := Lib.hid (Rg_10.out.later hb)
  have Rh_11 := Lib.hid (Rh_10.out.later hb)
  clear hb cw_10 cg_10 ch_10 Rw_10 Rg_10 Rh_10 B_10
  go_wp2
  go_ret
  exact ⟨rfl, B_11.out⟩

theorem walk (a0 : Int) (_ : (Lit.int .i64 a0).wf = true) (w : World) :
    Calls Try.prog 7 #[.int .i64 a0] w fun e w' => e = .returned (.bool true) ∧ Below w.heap.size w w' := by
  cases h : inB a0 1 20
  · exact walk_no a0 h w
  · obtain ⟨n, rfl⟩ : ∃ n : Nat, a0 = n := ⟨a0.toNat, by simp [inB] at h; omega⟩
    exact walk_yes n h w

set_option maxRecDepth 100000 in
theorem lifted (os : Os) (started : os.Started) (H : Type) (enc : TypeId × Value → H) :
    ReturnsInHanded {} Try.checked os 7 .any (Rows.fnExactBlankCardSpec.pre6 enc Try.prog Try.f7 Rows.fnExactBlankCardRow.domain false) (Rows.fnExactBlankCardSpec.post enc Try.prog Try.f7 false true false false) := by
  refine returnsInHanded_of_change (C := Try.checked) own started (by kernel_rfl) Try.func7
    (ChangeSpec.witness6 (enc := enc) (C := Try.checked) false ⟨#[], #[.int .i64 0], []⟩ 8 (by kernel_rfl) (by kernel_rfl) (by kernel_rfl) (by kernel_rfl)) ?_
  intro W base args ds gs before hval0 hW _ _
  have hval : ∀ (j : Nat) t v, Try.f7.params[j]? = some t → args[j]? = some v → Value.okWide Try.prog W .any base t v := hval0
  have hW' := hW
  obtain ⟨p, q, hA0, hV, rfl, _, _⟩ := hW
  have hA : DataW.TrodAll enc Try.prog W 0 (fun _ => true) true Try.f7.params.toList args.toList ds p := hA0
  rw [Try.params7] at hA hval
  obtain ⟨v0, vs0, d0, ds0, p0, q0, hargs, rfl, rfl, h0, r0⟩ := trodAll_cons hA
  obtain ⟨rfl, rfl, rfl⟩ := trodAll_nil r0
  obtain rfl : args = #[v0] := by cases args; simp_all
  obtain ⟨rfl, rfl⟩ := trodVars_none hV
  obtain ⟨a0, rfl, rfl, rfl, w0⟩ := open_int Try.underlying2 (hval 0 2 v0 rfl rfl) h0
  refine (walk a0 w0 W).mono fun e W' ⟨he, hb⟩ => ?_
  subst he
  refine ⟨_, rfl, law_post hW' rfl rfl ?_ rfl rfl rfl hb⟩
  intro t ht
  rw [Try.params7] at ht
  obtain rfl : t = 2 := by simpa using ht
  exact ⟨by kernel_rfl, of_decide_eq_true (by kernel_rfl)⟩

theorem over : Rows.fnExactBlankCardRow.holds Try.pinned (OpenSpec.ofChange Rows.fnExactBlankCardSpec) :=
  OpenClaim.holds_of_wide 7 Try.f7 rfl rfl rfl rfl rfl rfl rfl ⟨rfl, rfl, rfl, rfl, rfl⟩ rfl rfl rfl rfl rfl (by kernel_rfl) Try.func7 (by kernel_rfl)
    (of_decide_eq_true (by kernel_rfl)) (by unfold Func.isWrapper; first | (rw [if_pos (by decide +kernel)]; kernel_rfl) | (rw [if_neg (by decide +kernel)]; exact ⟨rfl, rfl⟩))
    (fun os started H enc _ => lifted os started H enc)

theorem proved : Rows.FnExactBlankCardSaid :=
  over
end Go.Proofs.Ytfjokjdfekkbiaa.fnExactBlankCard
