/- For every card and pass, the law FnExactPocketOf returns true: impl.PocketOf answers as spec.PocketOf and leaves its argument as it was. Conditions: none. -/
import Derived.Test.YtjfogadcedgndabPocketOf
import Derived.Test.YtjfogadcedgndabLaw
import Derived.Test.YtjfogadcedgndabBoxed
import Derived.Deep.RegionHeld3
import Derived.Deep.DeepCutAuto
namespace Go.Proofs.Ytjfogadcedgndab.fnExactPocketOf
open Go.ChangeShapes Go.WideShapes Go.ChangeAt Go.RowKit

theorem walk_big (A : Option Addr) (c n : Nat) (f0 : Int) (f1 : Int) (w : World) (hn : n ≤ 9223372036854775807) (hbig : 1048576 < n) :
    Calls Try.prog 5 #[.agg #[.slice A n c], .agg #[.int .i64 f0, .int .i64 f1]] w fun e w' => e = .returned (.bool true) ∧ Below w.heap.size w w' := by
  have hs := fun W => szCard_any A n c 1048576 W (by omega) (by omega) hn
  have e : (if (1048576 : Int) < (n : Int) then (-1 : Int) else 1048576 - n) = -1 := if_pos (by omega)
  rw [e] at hs
  have HS := Lib.hid hs
  clear hs e
  go_enter Try.func5, Try.ntmps5
  go_wp2_with fail
  refine (HS.out _).mono ?_
  rintro e w1 ⟨rfl, hb1⟩
  have B1 := Lib.hid (below_step ((below_box w _).alloc (by simp) _) hb1)
  clear hb1
  go_wp2
  go_ret
  exact ⟨rfl, B1.out⟩

set_option maxRecDepth 100000 in
set_option maxHeartbeats 4000000 in
theorem walk_small (A : Option Addr) (c : Nat) (xs : List Int) (f0 : Int) (f1 : Int) (r : Int) (k : Int) (w : World) (h : Ints w w.heap.size A xs) (hn : xs.length ≤ 1048576)
    (hs : ∀ (W : World) (A : Option Addr) (B : Nat), Ints W B A xs → B ≤ W.heap.size → Calls Try.prog 16 #[.agg #[.slice A xs.length xs.length], .agg #[.int .i64 f0, .int .i64 f1]] W fun e w' => e = .returned (.tuple #[.int .i64 r, .int .i64 k]) ∧ Below W.heap.size W w')
    (hi : ∀ (W : World) (A : Option Addr) (B : Nat), Ints W B A xs → B ≤ W.heap.size → Calls Try.prog 18 #[.agg #[.slice A xs.length xs.length], .agg #[.int .i64 f0, .int .i64 f1]] W fun e w' => e = .returned (.tuple #[.int .i64 r, .int .i64 k]) ∧ Below W.heap.size W w') :
    Calls Try.prog 5 #[.agg #[.slice A xs.length c], .agg #[.int .i64 f0, .int .i64 f1]] w fun e w' => e = .returned (.bool true) ∧ Below w.heap.size w w' := by
  have hz := fun W => szCard_any A xs.length c 1048576 W (by omega) (by omega) (by omega)
  have e : (if (1048576 : Int) < (xs.length : Int) then (-1 : Int) else 1048576 - xs.length) = 1048576 - xs.length := if_neg (by omega)
  rw [e] at hz
  have HZ := Lib.hid hz
  have H := Lib.hid h
  have HS := Lib.hid hs
  have HI := Lib.hid hi
  have hn' : xs.length ≤ 140737488355328 := by omega
  clear hz e h hs hi
  go_enter Try.func5, Try.ntmps5
  go_wp2_with fail
  refine (HZ.out _).mono ?_
  rintro e w1 ⟨rfl, hb⟩
  have B_1 := Lib.hid (below_step ((below_box w _).alloc (by simp) _) hb)
  have ca_1 := cell_kept (p := ⟨w.heap.size, 0, none⟩) (v := .slice A xs.length c) (by simp [go_sem]) hb
  have fa_1 := cell_kept (p := ⟨w.heap.size + 1, 0, none⟩) (v := .int .i64 f0) (by simp [go_sem]) hb
  have fb_1 := cell_kept (p := ⟨w.heap.size + 1, 1, none⟩) (v := .int .i64 f1) (by simp [go_sem]) hb
  clear hb
  go_upto_region 5 with fail
  go_cut [6, 7] (fun s0 s1 wx => s0 = .int .i64 r ∧ s1 = .int .i64 k ∧ Below w1.heap.size w1 wx)
  case first =>
    have K0 := Lib.hid (below_drew (Below.refl w1.heap.size w1))
    go_region_held3 (fun W => W.cell? ⟨w.heap.size, 0, none⟩ = some (.slice A xs.length c) ∧ W.cell? ⟨w.heap.size + 1, 0, none⟩ = some (.int .i64 f0) ∧ W.cell? ⟨w.heap.size + 1, 1, none⟩ = some (.int .i64 f1))
      (first | exact ⟨ca_1, fa_1, fb_1⟩ | exact ⟨cell_kept ca_1 K0.out, cell_kept fa_1 K0.out, cell_kept fb_1 K0.out⟩ | exact ⟨cell_kept ca_1 K1.out, cell_kept fa_1 K1.out, cell_kept fb_1 K1.out⟩ | exact ⟨cell_kept ca_1 K2.out, cell_kept fa_1 K2.out, cell_kept fb_1 K2.out⟩ | exact ⟨cell_kept ca_1 K3.out, cell_kept fa_1 K3.out, cell_kept fb_1 K3.out⟩ | go_keep)
      (first
        | (go_at_call 9
           refine (toCard_any A c xs w.heap.size _ ?_ ?_ hn).mono ?_
           · first | exact H.out.below B_1.out.drew
           · first | exact B_1.out.drew.size
           rintro e w1_1 ⟨ga, rfl, hg, hb, hrow⟩
           have K1 : Hid (Below w1.heap.size w1 w1_1) := below_step K0.out hb
           have Ra_r1 := Lib.hid hrow
           clear hb hrow hg)
        | (go_at_call 17
           refine (toPass_any f0 f1 _).mono ?_
           rintro e w1_2 ⟨rfl, hb⟩
           have K2 : Hid (Below w1.heap.size w1 w1_2) := below_step K1.out hb
           have Ra_r2 := Lib.hid (Ra_r1.out.later hb)
           clear hb)
        | (go_at_call 16
           refine (HS.out _ (some ⟨ga, 0, none⟩) (ga + 1) ?_ ?_).mono ?_
           · first | exact Ra_r2.out.ints
           · first | exact Ra_r2.out.lt
           rintro e w1_3 ⟨rfl, hb⟩
           have K3 : Hid (Below w1.heap.size w1 w1_3) := below_step K2.out hb
           clear hb))
    all_goals (go_wp2_with fail; go_meet; exact ⟨rfl, rfl, K3.out⟩)
  case rest =>
    obtain ⟨rfl, rfl, hb⟩ := hcut
    rename World => w2
    have B_2 := Lib.hid (below_step B_1.out hb)
    have ca_2 := cell_kept ca_1 hb
    have fa_2 := cell_kept fa_1 hb
    have fb_2 := cell_kept fb_1 hb
    clear hb ca_1 fa_1 fb_1 B_1
    go_wp2_with fail
    refine (toCard_any A c xs w.heap.size _ (H.out.below B_2.out) B_2.out.size hn).mono ?_
    rintro e w3 ⟨gx, rfl, hg, hb, hrow⟩
    have L_ca_Rx : Hid (w.heap.size < gx) := Nat.lt_of_lt_of_le (World.block_lt_of_cell? _ _ ca_2) hg
    have L_fa_Rx : Hid (w.heap.size + 1 < gx) := Nat.lt_of_lt_of_le (World.block_lt_of_cell? _ _ fa_2) hg
    have L_fb_Rx : Hid (w.heap.size + 1 < gx) := Nat.lt_of_lt_of_le (World.block_lt_of_cell? _ _ fb_2) hg
    have G_Rx := Lib.hid (Nat.le_trans B_2.out.size hg)
    have B_3 := Lib.hid (below_step B_2.out hb)
    have ca_3 := cell_kept ca_2 hb
    have fa_3 := cell_kept fa_2 hb
    have fb_3 := cell_kept fb_2 hb
    have Rx_3 := Lib.hid hrow
    clear hb hrow hg ca_2 fa_2 fb_2 B_2
    have L_Rx_bx : Hid (gx < w3.heap.size) := Nat.lt_of_lt_of_le (Rx_3.out.lt) (Nat.le_refl _)
    have hb := below_box w3 (.cells #[.slice (some ⟨gx, 0, none⟩) xs.length xs.length] 26)
    have B_4 := Lib.hid (below_step B_3.out hb)
    have ca_4 := cell_kept ca_3 hb
    have fa_4 := cell_kept fa_3 hb
    have fb_4 := cell_kept fb_3 hb
    have Rx_4 := Lib.hid (Rx_3.out.later hb)
    have bx_4 : (w3.alloc (.cells #[.slice (some ⟨gx, 0, none⟩) xs.length xs.length] 26)).cell? ⟨w3.heap.size, 0, none⟩ = some (.slice (some ⟨gx, 0, none⟩) xs.length xs.length) := by simp
    clear hb ca_3 fa_3 fb_3 Rx_3 B_3
    go_upto_region 7 with fail
    generalize (w3.alloc (.cells #[.slice (some ⟨gx, 0, none⟩) xs.length xs.length] 26)) = v4 at *
    go_cut [9, 10] (fun s0 s1 wx => s0 = .int .i64 r ∧ s1 = .int .i64 k ∧ Below v4.heap.size v4 wx)
    case first =>
      have K0 := Lib.hid (below_drew (Below.refl v4.heap.size v4))
      go_region_held3 (fun W => W.cell? ⟨w3.heap.size, 0, none⟩ = some (.slice (some ⟨gx, 0, none⟩) xs.length xs.length) ∧ W.cell? ⟨w.heap.size + 1, 0, none⟩ = some (.int .i64 f0) ∧ W.cell? ⟨w.heap.size + 1, 1, none⟩ = some (.int .i64 f1))
        (first | exact ⟨bx_4, fa_4, fb_4⟩ | exact ⟨cell_kept bx_4 K0.out, cell_kept fa_4 K0.out, cell_kept fb_4 K0.out⟩ | exact ⟨cell_kept bx_4 K1.out, cell_kept fa_4 K1.out, cell_kept fb_4 K1.out⟩ | exact ⟨cell_kept bx_4 K2.out, cell_kept fa_4 K2.out, cell_kept fb_4 K2.out⟩ | go_keep)
        (first
          | (go_at_call 17
             refine (toPass_any f0 f1 _).mono ?_
             rintro e w4_1 ⟨rfl, hb⟩
             have K1 : Hid (Below v4.heap.size v4 w4_1) := below_step K0.out hb
             have Rx_r1 := Lib.hid (Rx_4.out.drew.later hb)
             clear hb)
          | (go_at_call 18
             refine (HI.out _ (some ⟨gx, 0, none⟩) (gx + 1) ?_ ?_).mono ?_
             · first | exact Rx_r1.out.ints
             · first | exact Rx_r1.out.lt
             rintro e w4_2 ⟨rfl, hb⟩
             have K2 : Hid (Below v4.heap.size v4 w4_2) := below_step K1.out hb
             clear hb))
      all_goals (go_wp2_with fail; go_meet; exact ⟨rfl, rfl, K2.out⟩)
    case rest =>
      obtain ⟨rfl, rfl, hb⟩ := hcut
      rename World => w5
      have B_5 := Lib.hid (below_step B_4.out hb)
      have ca_5 := cell_kept ca_4 hb
      have fa_5 := cell_kept fa_4 hb
      have fb_5 := cell_kept fb_4 hb
      have bx_5 := cell_kept bx_4 hb
      have Rx_5 := Lib.hid (Rx_4.out.later hb)
      clear hb ca_4 fa_4 fb_4 bx_4 Rx_4 B_4
      all_goals
        go_wp2
        go_region_held3 (fun W => W.cell? ⟨w.heap.size, 0, none⟩ = some (.slice A xs.length c) ∧ W.cell? ⟨w3.heap.size, 0, none⟩ = some (.slice (some ⟨gx, 0, none⟩) xs.length xs.length))
          (first | exact ⟨ca_5, bx_5⟩ | exact ⟨ca_6, bx_6⟩ | exact ⟨ca_7, bx_7⟩)
          (first
            | (go_at_call 9
               refine (toCard_any A c xs w.heap.size _ ?_ ?_ hn).mono ?_
               · exact H.out.below B_5.out.drew
               · exact B_5.out.drew.size
               rintro e w6 ⟨ge, rfl, hg, hb, hrow⟩
               have L_Rx_Re : Hid (gx < ge) := Nat.lt_of_lt_of_le (Rx_5.out.lt) hg
               have B_6 := Lib.hid (below_step B_5.out.drew hb)
               have ca_6 := cell_kept (w := w5.drew) ca_5 hb
               have fa_6 := cell_kept (w := w5.drew) fa_5 hb
               have fb_6 := cell_kept (w := w5.drew) fb_5 hb
               have bx_6 := cell_kept (w := w5.drew) bx_5 hb
               have Rx_6 := Lib.hid (Rx_5.out.drew.later hb)
               have Re_6 := Lib.hid hrow
               clear hb hrow hg)
            | (go_at_call 11
               refine (eqCard_any (some ⟨gx, 0, none⟩) (some ⟨ge, 0, none⟩) _ _ xs xs (gx + 1) (ge + 1) _ ?_ ?_ ?_ ?_ hn hn').mono ?_
               · exact Rx_6.out.ints
               · exact Re_6.out.ints
               · exact Rx_6.out.lt
               · exact Re_6.out.lt
               rintro e w7 ⟨rfl, hb⟩
               have B_7 := Lib.hid (below_step B_6.out hb)
               have ca_7 := cell_kept ca_6 hb
               have fa_7 := cell_kept fa_6 hb
               have fb_7 := cell_kept fb_6 hb
               have bx_7 := cell_kept bx_6 hb
               have Rx_7 := Lib.hid (Rx_6.out.later hb)
               have Re_7 := Lib.hid (Re_6.out.later hb)
               clear hb))
        clear ca_5 fa_5 fb_5 bx_5 Rx_5 B_5 ca_6 fa_6 fb_6 bx_6 Rx_6 Re_6 B_6
        go_wp2
        go_ret
        exact ⟨rfl, B_7.out⟩

theorem walk (A : Option Addr) (c : Nat) (xs : List Int) {w : World} (h : Ints w w.heap.size A xs) (hl : xs.length ≤ 9223372036854775807) (_ : ∀ n ∈ xs, (Lit.int .i64 n).wf = true) (f0 f1 : Int) (_ : (Lit.int .i64 f0).wf = true) (_ : (Lit.int .i64 f1).wf = true) (w1 : World) (e1 : w = w1) :
    Calls Try.prog 5 #[.agg #[.slice A xs.length c], .agg #[.int .i64 f0, .int .i64 f1]] w1 fun e w' => e = .returned (.bool true) ∧ Below w1.heap.size w1 w' := by
  subst e1
  by_cases hn : xs.length ≤ 1048576
  · exact walk_small A c xs f0 f1 (pocketV xs f0 f1) (pocketC xs f0 f1) w h hn (fun W A B hI hB => specPocketOf_any A xs.length xs B f0 f1 W hI hB hn) (fun W A B hI hB => implPocketOf_any A xs.length xs B f0 f1 W hI hB hn)
  · exact walk_big A c xs.length f0 f1 w hl (by omega)

set_option maxRecDepth 100000 in
theorem lifted (os : Os) (started : os.Started) (H : Type) (enc : TypeId × Value → H) :
    ReturnsInHanded {} Try.checked os 5 .any (Rows.fnExactPocketOfSpec.pre6 enc Try.prog Try.f5 Rows.fnExactPocketOfRow.domain false) (Rows.fnExactPocketOfSpec.post enc Try.prog Try.f5 false true false false) := by
  refine returnsInHanded_of_change (C := Try.checked) own started (by kernel_rfl) Try.func5
    (ChangeSpec.witness6 (enc := enc) (C := Try.checked) false ⟨#[], #[.agg #[.slice none 0 0], .agg #[.int .i64 0, .int .i64 0]], []⟩ 8 (by kernel_rfl) (by kernel_rfl) (by kernel_rfl) (by kernel_rfl)) ?_
  intro W base args ds gs before hval0 hW _ _
  have hval : ∀ (j : Nat) t v, Try.f5.params[j]? = some t → args[j]? = some v → Value.okWide Try.prog W .any base t v := hval0
  have hW' := hW
  obtain ⟨p, q, hA0, hV, rfl, _, _⟩ := hW
  have hA : DataW.TrodAll enc Try.prog W 0 (fun _ => true) true Try.f5.params.toList args.toList ds p := hA0
  rw [Try.params5] at hA hval
  obtain ⟨v0, vs0, d0, ds0, p0, q0, hargs, rfl, rfl, h0, r0⟩ := trodAll_cons hA
  obtain ⟨v1, vs1, d1, ds1, p1, q1, rfl, rfl, rfl, h1, r1⟩ := trodAll_cons r0
  obtain ⟨rfl, rfl, rfl⟩ := trodAll_nil r1
  obtain rfl : args = #[v0, v1] := by cases args; simp_all
  obtain ⟨rfl, rfl⟩ := trodVars_none hV
  obtain ⟨A0, c0, xs0, rfl, i0, l0, w0⟩ := open_card (hval 0 24 v0 rfl rfl) h0
  obtain ⟨a1, b1, rfl, w1, u1⟩ := open_pass (hval 1 36 v1 rfl rfl) h1
  refine (walk A0 c0 xs0 i0 l0 w0 a1 b1 w1 u1 W rfl).mono fun e W' ⟨he, hb⟩ => ?_
  subst he
  refine ⟨_, rfl, law_post hW' rfl rfl ?_ rfl rfl rfl hb⟩
  intro t ht
  rw [Try.params5] at ht
  have ht' : t = 24 ∨ t = 36 := by simpa using ht
  rcases ht' with rfl | rfl <;> exact ⟨by kernel_rfl, of_decide_eq_true (by kernel_rfl)⟩

theorem over : Rows.fnExactPocketOfRow.holds Try.pinned (OpenSpec.ofChange Rows.fnExactPocketOfSpec) :=
  OpenClaim.holds_of_wide 5 Try.f5 rfl rfl rfl rfl rfl rfl rfl ⟨rfl, rfl, rfl, rfl, rfl⟩ rfl rfl rfl rfl rfl (by kernel_rfl) Try.func5 (by kernel_rfl)
    (of_decide_eq_true (by kernel_rfl)) (by unfold Func.isWrapper; first | (rw [if_pos (by decide +kernel)]; kernel_rfl) | (rw [if_neg (by decide +kernel)]; exact ⟨rfl, rfl⟩))
    (fun os started H enc _ => lifted os started H enc)

theorem proved : Rows.FnExactPocketOfSaid :=
  over
end Go.Proofs.Ytjfogadcedgndab.fnExactPocketOf
