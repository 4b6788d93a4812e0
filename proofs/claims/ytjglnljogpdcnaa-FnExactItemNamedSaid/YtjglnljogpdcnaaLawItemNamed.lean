/- For every layout and every string, the law FnExactItemNamed returns true: impl.ItemNamed answers as spec.ItemNamed and leaves its arguments as they were. Conditions: none. -/
import Derived.Test.YtjglnljogpdcnaaLayLaw
import Derived.Test.YtjglnljogpdcnaaNamed
import Derived.ChangeMaps5
import Derived.Deep.RegionHeld3
namespace Go.Proofs.Ytjglnljogpdcnaa.fnExactItemNamed
open Go.ChangeShapes Go.WideShapes Go.ChangeAt Go.RowKit
open Go.ChangeMaps (open_string)

theorem walk_long (A : Option Addr) (c n : Nat) (u : Int) (s : ByteArray) (w : World) (h : (1048576 : Int) < s.size) :
    Calls Try.prog 4 #[.agg #[.int .i64 u, .slice A n c], .string s] w fun e w' => e = .returned (.bool true) ∧ Below w.heap.size w w' := by
  go_enter Try.func4, Try.ntmps4
  go_wp2
  go_ret
  exact ⟨rfl, below_box w _⟩

theorem walk_big (A : Option Addr) (c : Nat) (u : Int) (ds : List It) (s : ByteArray) (w : World) (h : Items w w.heap.size A ds) (hn : ds.length ≤ 9223372036854775807) (hs : ∀ d ∈ ds, d.name.size ≤ 9223372036854775807) (hs1 : (s.size : Int) ≤ 1048576) (hbig : 1048576 < ds.length + itSize ds) :
    Calls Try.prog 4 #[.agg #[.int .i64 u, .slice A ds.length c], .string s] w fun e w' => e = .returned (.bool true) ∧ Below w.heap.size w w' := by
  have hz := fun (W : World) (hW : Items W w.heap.size A ds) (hBW : w.heap.size ≤ W.heap.size) => szLayout_big A c ds w.heap.size u 1048576 W hW hBW (by omega) hn hs hbig
  have HZ := Lib.hid hz
  obtain ⟨n, hN⟩ : ∃ n, ds.length = n := ⟨_, rfl⟩
  rw [hN] at HZ ⊢
  have H := Lib.hid h
  clear hz h hs hbig hN hn
  go_enter Try.func4, Try.ntmps4
  go_wp2_with fail
  refine (HZ.out _ (H.out.alloc (Nat.le_refl _) _) (by simp)).mono ?_
  rintro e w1 ⟨rfl, hb⟩
  have B1 := Lib.hid (below_step (below_box w _) hb)
  clear hb
  go_wp2
  go_ret
  exact ⟨rfl, B1.out⟩

set_option maxHeartbeats 1000000 in
theorem walk_small (A : Option Addr) (c : Nat) (u : Int) (ds : List It) (s : ByteArray) (w : World) (h : Items w w.heap.size A ds) (hs1 : s.size ≤ 1048576) (hfit : ds.length + itSize ds ≤ 1048576) :
    Calls Try.prog 4 #[.agg #[.int .i64 u, .slice A ds.length c], .string s] w fun e w' => e = .returned (.bool true) ∧ Below w.heap.size w w' := by
  have hz := fun (W : World) (hW : Items W w.heap.size A ds) (hBW : w.heap.size ≤ W.heap.size) => szLayout_fit A c ds w.heap.size u 1048576 W hW hBW (by omega) hfit
  obtain ⟨q, hq⟩ : ∃ q, 1048576 - ds.length - itSize ds = q := ⟨_, rfl⟩
  have hqi : (((1048576 : Nat) : Int) - ds.length - itSize ds) = (q : Int) := by omega
  rw [hqi] at hz
  have hl : ds.length ≤ 1048576 := by omega
  have hs : ∀ d ∈ ds, d.name.size ≤ 1048576 := fun d hd => by
    obtain ⟨k, hk⟩ := List.getElem?_of_mem hd
    have := itSize_at ds k d hk
    omega
  have ht := fun (W : World) (hW : Items W w.heap.size A ds) (hBW : w.heap.size ≤ W.heap.size) => toLayout_any A c ds w.heap.size u W hW hBW hl
  have hsp := fun (W : World) (g : Nat) (hW : IRow W g ds []) => specNamed_any s u (some ⟨g, 0, none⟩) ds.length ds (g + 1) W hW.items hW.lt hl
  have him := fun (W : World) (g : Nat) (hW : IRow W g ds []) => implNamed_any s u (some ⟨g, 0, none⟩) ds.length ds (g + 1) W hW.items hW.lt hl (Nat.le_refl _) hs hs1
  obtain ⟨r, hr⟩ : ∃ r, askV u ds s = r := ⟨_, rfl⟩
  obtain ⟨r', hr'⟩ : ∃ r', askC u ds s = r' := ⟨_, rfl⟩
  rw [hr, hr'] at hsp him
  have he := fun (W : World) (g g' : Nat) (hW : IRow W g ds []) (hW' : IRow W g' ds []) => eqLayout_same (some ⟨g, 0, none⟩) (some ⟨g', 0, none⟩) ds.length ds.length u ds (g + 1) (g' + 1) W hW.items hW'.items hW.lt hW'.lt hl
  unfold GivesLay at ht
  have H := Lib.hid h
  have HZ := Lib.hid hz
  have HT := Lib.hid ht
  have HSP := Lib.hid hsp
  have HIM := Lib.hid him
  have HE := Lib.hid he
  have hq0 : ¬ (q : Int) < 0 := by omega
  obtain ⟨n, hN⟩ : ∃ n, ds.length = n := ⟨_, rfl⟩
  rw [hN] at HZ HT HSP HIM HE ⊢
  have hs2 : (s.size : Int) ≤ 1048576 := by omega
  clear hz ht hsp him he h hfit hq hqi hr hr' hl hN hs hs1
  go_enter Try.func4, Try.ntmps4
  go_wp2_with fail
  refine (HZ.out _ (H.out.alloc (Nat.le_refl _) _) (by simp)).mono ?_
  rintro e w1 ⟨rfl, hb⟩
  have B1 := Lib.hid (below_step (below_box w _) hb)
  have a1 := cell_kept (p := ⟨w.heap.size, 0, none⟩) (v := .int .i64 u) (by simp [go_sem]) hb
  have b1 := cell_kept (p := ⟨w.heap.size, 1, none⟩) (v := .slice A n c) (by simp [go_sem]) hb
  clear hb HZ
  go_wp2_with fail
  refine (HT.out _ (H.out.below B1.out) B1.out.size).mono ?_
  rintro e w2 ⟨g2, rfl, hg2, hb, hrow⟩
  have B2 := Lib.hid (below_step B1.out hb)
  have a2 := cell_kept a1 hb
  have b2 := cell_kept b1 hb
  have R2 := Lib.hid hrow
  clear hb hrow B1 a1 b1 hg2
  go_wp2_with fail
  refine (HSP.out _ g2 R2.out).mono ?_
  rintro e w3 ⟨rfl, hb⟩
  have B3 := Lib.hid (below_step B2.out hb)
  have a3 := cell_kept a2 hb
  have b3 := cell_kept b2 hb
  clear hb B2 a2 b2 R2
  go_wp2_with fail
  refine (HT.out _ (H.out.below B3.out) B3.out.size).mono ?_
  rintro e w4 ⟨g4, rfl, hg4, hb, hrow⟩
  have B4 := Lib.hid (below_step B3.out hb)
  have a4 := cell_kept a3 hb
  have b4 := cell_kept b3 hb
  have R4 := Lib.hid hrow
  clear hb hrow B3 a3 b3 hg4
  have hb := below_box w4 (.cells #[.int .i64 u, .slice (some ⟨g4, 0, none⟩) n n] 29)
  have B5 := Lib.hid (below_step B4.out hb)
  have a5 := cell_kept a4 hb
  have b5 := cell_kept b4 hb
  have R5 := Lib.hid (R4.out.later hb)
  have x5 : (w4.alloc (.cells #[.int .i64 u, .slice (some ⟨g4, 0, none⟩) n n] 29)).cell? ⟨w4.heap.size, 0, none⟩ = some (.int .i64 u) := by simp [go_sem]
  have y5 : (w4.alloc (.cells #[.int .i64 u, .slice (some ⟨g4, 0, none⟩) n n] 29)).cell? ⟨w4.heap.size, 1, none⟩ = some (.slice (some ⟨g4, 0, none⟩) n n) := by simp [go_sem]
  clear hb B4 a4 b4 R4
  go_wp2_with fail
  refine (HIM.out _ g4 R5.out).mono ?_
  rintro e w6 ⟨rfl, hb⟩
  have B6 := Lib.hid (below_step B5.out hb)
  have a6 := cell_kept a5 hb
  have b6 := cell_kept b5 hb
  have x6 := cell_kept x5 hb
  have y6 := cell_kept y5 hb
  have R6 := Lib.hid (R5.out.later hb)
  clear hb B5 a5 b5 x5 y5 R5
  go_wp2
  go_region_held3 (fun W => W.cell? ⟨w.heap.size, 0, none⟩ = some (.int .i64 u) ∧ W.cell? ⟨w.heap.size, 1, none⟩ = some (.slice A n c) ∧ W.cell? ⟨w4.heap.size, 0, none⟩ = some (.int .i64 u) ∧ W.cell? ⟨w4.heap.size, 1, none⟩ = some (.slice (some ⟨g4, 0, none⟩) n n))
    (first | exact ⟨a6, b6, x6, y6⟩ | exact ⟨a7, b7, x7, y7⟩ | exact ⟨a8, b8, x8, y8⟩)
    (first
      | (go_at_call 10
         refine (HT.out _ ?_ ?_).mono ?_
         · exact H.out.below B6.out.drew
         · exact B6.out.drew.size
         rintro e w7 ⟨ge, rfl, hge, hb, hrow⟩
         have B7 := Lib.hid (below_step B6.out.drew hb)
         have a7 := cell_kept (w := w6.drew) a6 hb
         have b7 := cell_kept (w := w6.drew) b6 hb
         have x7 := cell_kept (w := w6.drew) x6 hb
         have y7 := cell_kept (w := w6.drew) y6 hb
         have R7 := Lib.hid (R6.out.drew.later hb)
         have T7 := Lib.hid hrow
         clear hb hrow hge)
      | (go_at_call 12
         refine (HE.out _ g4 ge ?_ ?_).mono ?_
         · exact R7.out
         · exact T7.out
         rintro e w8 ⟨rfl, hb⟩
         have B8 := Lib.hid (below_step B7.out hb)
         have a8 := cell_kept a7 hb
         have b8 := cell_kept b7 hb
         have x8 := cell_kept x7 hb
         have y8 := cell_kept y7 hb
         clear hb))
  go_wp2
  go_ret
  exact ⟨rfl, B8.out⟩

theorem walk (u : Int) (A : Option Addr) (c : Nat) (ds : List It) {w : World} (h : Items w w.heap.size A ds) (hn : ds.length ≤ 9223372036854775807) (hs : ∀ d ∈ ds, d.name.size ≤ 9223372036854775807) (s : ByteArray) (_ : s.size ≤ maxLen) (W : World) (e1 : w = W) :
    Calls Try.prog 4 #[.agg #[.int .i64 u, .slice A ds.length c], .string s] W fun e w' => e = .returned (.bool true) ∧ Below W.heap.size W w' := by
  subst e1
  by_cases h0 : (1048576 : Int) < s.size
  · exact walk_long A c ds.length u s w h0
  · by_cases h1 : 1048576 < ds.length + itSize ds
    · exact walk_big A c u ds s w h hn hs (by omega) h1
    · exact walk_small A c u ds s w h (by omega) (by omega)

set_option maxRecDepth 100000 in
theorem lifted (os : Os) (started : os.Started) (H : Type) (enc : TypeId × Value → H) :
    ReturnsInHanded {} Try.checked os 4 .any (Rows.fnExactItemNamedSpec.pre6 enc Try.prog Try.f4 Rows.fnExactItemNamedRow.domain false) (Rows.fnExactItemNamedSpec.post enc Try.prog Try.f4 false true false false) := by
  refine returnsInHanded_of_change (C := Try.checked) own started (by kernel_rfl) Try.func4
    (ChangeSpec.witness6 (enc := enc) (C := Try.checked) false ⟨#[], #[.agg #[.int .i64 0, .slice none 0 0], .string ByteArray.empty], []⟩ 8 (by kernel_rfl) (by kernel_rfl) (by kernel_rfl) (by kernel_rfl)) ?_
  intro W base args ds gs before hval0 hW _ _
  have hval : ∀ (j : Nat) t v, Try.f4.params[j]? = some t → args[j]? = some v → Value.okWide Try.prog W .any base t v := hval0
  have hW' := hW
  obtain ⟨p, q, hA0, hV, rfl, _, _⟩ := hW
  have hA : DataW.TrodAll enc Try.prog W 0 (fun _ => true) true Try.f4.params.toList args.toList ds p := hA0
  rw [Try.params4] at hA hval
  obtain ⟨v0, vs0, d0, ds0, p0, q0, hargs, rfl, rfl, h0, r0⟩ := trodAll_cons hA
  obtain ⟨v1, vs1, d1, ds1, p1, q1, rfl, rfl, rfl, h1, r1⟩ := trodAll_cons r0
  obtain ⟨rfl, rfl, rfl⟩ := trodAll_nil r1
  obtain rfl : args = #[v0, v1] := by cases args; simp_all
  obtain ⟨rfl, rfl⟩ := trodVars_none hV
  obtain ⟨u0, A0, c0, ds0', rfl, wu0, i0, l0, z0⟩ := open_layout (hval 0 24 v0 rfl rfl) h0
  obtain ⟨s1, rfl, rfl, rfl, hs1⟩ := open_string Try.underlying9 (hval 1 9 v1 rfl rfl) h1
  refine (walk u0 A0 c0 ds0' i0 l0 z0 s1 hs1 W rfl).mono fun e W' ⟨he, hb⟩ => ?_
  subst he
  refine ⟨_, rfl, law_post hW' rfl rfl ?_ rfl rfl rfl hb⟩
  intro t ht
  rw [Try.params4] at ht
  have ht' : t = 24 ∨ t = 9 := by simpa using ht
  rcases ht' with rfl | rfl <;> exact ⟨by kernel_rfl, of_decide_eq_true (by kernel_rfl)⟩

theorem over : Rows.fnExactItemNamedRow.holds Try.pinned (OpenSpec.ofChange Rows.fnExactItemNamedSpec) :=
  OpenClaim.holds_of_wide 4 Try.f4 rfl rfl rfl rfl rfl rfl rfl ⟨rfl, rfl, rfl, rfl, rfl⟩ rfl rfl rfl rfl rfl (by kernel_rfl) Try.func4 (by kernel_rfl)
    (of_decide_eq_true (by kernel_rfl)) (by unfold Func.isWrapper; first | (rw [if_pos (by decide +kernel)]; kernel_rfl) | (rw [if_neg (by decide +kernel)]; exact ⟨rfl, rfl⟩))
    (fun os started H enc _ => lifted os started H enc)

theorem proved : Rows.FnExactItemNamedSaid :=
  over
end Go.Proofs.Ytjglnljogpdcnaa.fnExactItemNamed
