/- For every two layouts, the law FnExactSameLayout returns true: impl.SameLayout answers as spec.SameLayout and leaves its arguments as they were. Conditions: none. -/
import Derived.Test.YtmibkaldeickdaaLayLaw
import Derived.Test.YtmibkaldeickdaaSameLayout
import Derived.Deep.RegionHeld3
namespace Go.Proofs.Ytmibkaldeickdaa.fnExactSameLayout
open Go.ChangeShapes Go.WideShapes Go.ChangeAt Go.RowKit

theorem walk_big (A A' : Option Addr) (c c' n' : Nat) (u u' : Int) (ds : List It) (w : World) (h : Items w w.heap.size A ds) (hn : ds.length ≤ 9223372036854775807) (hs : ∀ d ∈ ds, d.name.size ≤ 9223372036854775807) (hbig : 1048576 < ds.length + itSize ds) :
    Calls Try.prog 4 #[.agg #[.int .i64 u, .slice A ds.length c], .agg #[.int .i64 u', .slice A' n' c']] w fun e w' => e = .returned (.bool true) ∧ Below w.heap.size w w' := by
  have hz := fun (W : World) (hW : Items W w.heap.size A ds) (hBW : w.heap.size ≤ W.heap.size) => szLayout_big A c ds w.heap.size u 1048576 W hW hBW (by omega) hn hs hbig
  have HZ := Lib.hid hz
  obtain ⟨n, hN⟩ : ∃ n, ds.length = n := ⟨_, rfl⟩
  rw [hN] at HZ ⊢
  have H := Lib.hid h
  clear hz h hs hbig hN hn
  go_enter Try.func4, Try.ntmps4
  go_wp2_with fail
  refine (HZ.out _ ((H.out.alloc (Nat.le_refl _) _).alloc (by simp) _) (by simp; omega)).mono ?_
  rintro e w1 ⟨rfl, hb⟩
  have B1 := Lib.hid (below_step ((below_box w _).alloc (by simp) _) hb)
  clear hb
  go_wp2
  go_ret
  exact ⟨rfl, B1.out⟩

theorem walk_sum (A A' : Option Addr) (c c' : Nat) (u u' : Int) (ds es : List It) (w : World) (h : Items w w.heap.size A ds) (h' : Items w w.heap.size A' es) (hn' : es.length ≤ 9223372036854775807) (hs' : ∀ d ∈ es, d.name.size ≤ 9223372036854775807) (hfit : ds.length + itSize ds ≤ 1048576) (hbig : 1048576 < ds.length + itSize ds + (es.length + itSize es)) :
    Calls Try.prog 4 #[.agg #[.int .i64 u, .slice A ds.length c], .agg #[.int .i64 u', .slice A' es.length c']] w fun e w' => e = .returned (.bool true) ∧ Below w.heap.size w w' := by
  have hz := fun (W : World) (hW : Items W w.heap.size A ds) (hBW : w.heap.size ≤ W.heap.size) => szLayout_fit A c ds w.heap.size u 1048576 W hW hBW (by omega) hfit
  obtain ⟨q, hq⟩ : ∃ q, 1048576 - ds.length - itSize ds = q := ⟨_, rfl⟩
  have hqi : (((1048576 : Nat) : Int) - ds.length - itSize ds) = (q : Int) := by omega
  rw [hqi] at hz
  have hz' := fun (W : World) (hW : Items W w.heap.size A' es) (hBW : w.heap.size ≤ W.heap.size) => szLayout_big A' c' es w.heap.size u' q W hW hBW (by omega) hn' hs' (by omega)
  have HZ := Lib.hid hz
  have HZ' := Lib.hid hz'
  have hq0 : ¬ (q : Int) < 0 := by omega
  obtain ⟨n, hN⟩ : ∃ n, ds.length = n := ⟨_, rfl⟩
  obtain ⟨m, hM⟩ : ∃ m, es.length = m := ⟨_, rfl⟩
  rw [hN] at HZ ⊢
  rw [hM] at HZ' ⊢
  have H := Lib.hid h
  have H' := Lib.hid h'
  clear hz hz' h h' hs' hbig hfit hN hM hn' hq hqi
  go_enter Try.func4, Try.ntmps4
  go_wp2_with fail
  refine (HZ.out _ ((H.out.alloc (Nat.le_refl _) _).alloc (by simp) _) (by simp; omega)).mono ?_
  rintro e w1 ⟨rfl, hb⟩
  have B1 := Lib.hid (below_step ((below_box w _).alloc (by simp) _) hb)
  have d0 := cell_kept (p := ⟨w.heap.size + 1, 0, none⟩) (v := .int .i64 u') (by simp [go_sem]) hb
  have d1 := cell_kept (p := ⟨w.heap.size + 1, 1, none⟩) (v := .slice A' m c') (by simp [go_sem]) hb
  clear hb HZ
  go_wp2_with fail
  refine (HZ'.out _ (H'.out.below B1.out) B1.out.size).mono ?_
  rintro e w2 ⟨rfl, hb⟩
  have B2 := Lib.hid (below_step B1.out hb)
  clear hb
  go_wp2
  go_ret
  exact ⟨rfl, B2.out⟩

set_option maxHeartbeats 1000000 in
theorem walk_small (A A' : Option Addr) (c c' : Nat) (u u' : Int) (ds es : List It) (w : World) (h : Items w w.heap.size A ds) (h' : Items w w.heap.size A' es) (hfit : ds.length + itSize ds + (es.length + itSize es) ≤ 1048576) :
    Calls Try.prog 4 #[.agg #[.int .i64 u, .slice A ds.length c], .agg #[.int .i64 u', .slice A' es.length c']] w fun e w' => e = .returned (.bool true) ∧ Below w.heap.size w w' := by
  have hz := fun (W : World) (hW : Items W w.heap.size A ds) (hBW : w.heap.size ≤ W.heap.size) => szLayout_fit A c ds w.heap.size u 1048576 W hW hBW (by omega) (by omega)
  obtain ⟨q, hq⟩ : ∃ q, 1048576 - ds.length - itSize ds = q := ⟨_, rfl⟩
  have hqi : (((1048576 : Nat) : Int) - ds.length - itSize ds) = (q : Int) := by omega
  rw [hqi] at hz
  have hz' := fun (W : World) (hW : Items W w.heap.size A' es) (hBW : w.heap.size ≤ W.heap.size) => szLayout_fit A' c' es w.heap.size u' q W hW hBW (by omega) (by omega)
  obtain ⟨q', hq'⟩ : ∃ q', q - es.length - itSize es = q' := ⟨_, rfl⟩
  have hqi' : ((q : Int) - es.length - itSize es) = (q' : Int) := by omega
  rw [hqi'] at hz'
  have hl : ds.length ≤ 1048576 := by omega
  have hl' : es.length ≤ 1048576 := by omega
  have ht := fun (W : World) (hW : Items W w.heap.size A ds) (hBW : w.heap.size ≤ W.heap.size) => toLayout_any A c ds w.heap.size u W hW hBW hl
  have ht' := fun (W : World) (hW : Items W w.heap.size A' es) (hBW : w.heap.size ≤ W.heap.size) => toLayout_any A' c' es w.heap.size u' W hW hBW hl'
  have hsp := fun (W : World) (g g' : Nat) (hW : IRow W g ds []) (hW' : IRow W g' es []) => specSameL_any (some ⟨g, 0, none⟩) (some ⟨g', 0, none⟩) ds.length es.length u u' ds es (g + 1) (g' + 1) W hW.items hW'.items hW.lt hW'.lt hl
  have him := fun (W : World) (g g' : Nat) (hW : IRow W g ds []) (hW' : IRow W g' es []) => implSameL_any (some ⟨g, 0, none⟩) (some ⟨g', 0, none⟩) ds.length es.length u u' ds es (g + 1) (g' + 1) W hW.items hW'.items hW.lt hW'.lt hl
  obtain ⟨r, hr⟩ : ∃ r, layB u u' ds es = r := ⟨_, rfl⟩
  rw [hr] at hsp him
  have he := fun (W : World) (g g' : Nat) (hW : IRow W g ds []) (hW' : IRow W g' ds []) => eqLayout_same (some ⟨g, 0, none⟩) (some ⟨g', 0, none⟩) ds.length ds.length u ds (g + 1) (g' + 1) W hW.items hW'.items hW.lt hW'.lt hl
  have he' := fun (W : World) (g g' : Nat) (hW : IRow W g es []) (hW' : IRow W g' es []) => eqLayout_same (some ⟨g, 0, none⟩) (some ⟨g', 0, none⟩) es.length es.length u' es (g + 1) (g' + 1) W hW.items hW'.items hW.lt hW'.lt hl'
  unfold GivesLay at ht ht'
  have H := Lib.hid h
  have H' := Lib.hid h'
  have HZ := Lib.hid hz
  have HZ' := Lib.hid hz'
  have HT := Lib.hid ht
  have HT' := Lib.hid ht'
  have HSP := Lib.hid hsp
  have HIM := Lib.hid him
  have HE := Lib.hid he
  have HE' := Lib.hid he'
  have hq0 : ¬ (q : Int) < 0 := by omega
  have hq1 : ¬ (q' : Int) < 0 := by omega
  have tok : True := trivial
  obtain ⟨n, hN⟩ : ∃ n, ds.length = n := ⟨_, rfl⟩
  obtain ⟨m, hM⟩ : ∃ m, es.length = m := ⟨_, rfl⟩
  rw [hN] at HZ HT HSP HIM HE ⊢
  rw [hM] at HZ' HT' HSP HIM HE' ⊢
  clear hz hz' ht ht' hsp him he he' h h' hfit hq hqi hq' hqi' hr hl hl' hN hM
  go_enter Try.func4, Try.ntmps4
  go_wp2_with fail
  refine (HZ.out _ ((H.out.alloc (Nat.le_refl _) _).alloc (by simp) _) (by simp; omega)).mono ?_
  rintro e w1 ⟨rfl, hb⟩
  have B1 := Lib.hid (below_step ((below_box w _).alloc (by simp) _) hb)
  have a1 := cell_kept (p := ⟨w.heap.size, 0, none⟩) (v := .int .i64 u) (by simp [go_sem]) hb
  have b1 := cell_kept (p := ⟨w.heap.size, 1, none⟩) (v := .slice A n c) (by simp [go_sem]) hb
  have c1 := cell_kept (p := ⟨w.heap.size + 1, 0, none⟩) (v := .int .i64 u') (by simp [go_sem]) hb
  have d1 := cell_kept (p := ⟨w.heap.size + 1, 1, none⟩) (v := .slice A' m c') (by simp [go_sem]) hb
  clear hb HZ
  go_wp2_with fail
  refine (HZ'.out _ (H'.out.below B1.out) B1.out.size).mono ?_
  rintro e w2 ⟨rfl, hb⟩
  have B2 := Lib.hid (below_step B1.out hb)
  have a2 := cell_kept a1 hb
  have b2 := cell_kept b1 hb
  have c2 := cell_kept c1 hb
  have d2 := cell_kept d1 hb
  clear hb HZ' B1 a1 b1 c1 d1
  go_wp2
  go_region_held3 (fun W => W.cell? ⟨w.heap.size, 0, none⟩ = some (.int .i64 u) ∧ W.cell? ⟨w.heap.size, 1, none⟩ = some (.slice A n c) ∧ W.cell? ⟨w.heap.size + 1, 0, none⟩ = some (.int .i64 u') ∧ W.cell? ⟨w.heap.size + 1, 1, none⟩ = some (.slice A' m c'))
    (first | exact ⟨a2, b2, c2, d2⟩ | exact ⟨a3, b3, c3, d3⟩ | exact ⟨a4, b4, c4, d4⟩ | exact ⟨a5, b5, c5, d5⟩)
    (first
      | (go_at_call 10
         have _t := tok
         refine (HT.out _ ?_ ?_).mono ?_
         · exact H.out.below B2.out.drew
         · exact B2.out.drew.size
         rintro e w3 ⟨g3, rfl, hg3, hb, hrow⟩
         have B3 := Lib.hid (below_step B2.out.drew hb)
         have a3 := cell_kept (w := w2.drew) a2 hb
         have b3 := cell_kept (w := w2.drew) b2 hb
         have c3 := cell_kept (w := w2.drew) c2 hb
         have d3 := cell_kept (w := w2.drew) d2 hb
         have R3 := Lib.hid hrow
         clear hb hrow hg3 tok _t)
      | (go_at_call 10
         refine (HT'.out _ ?_ ?_).mono ?_
         · exact H'.out.below B3.out
         · exact B3.out.size
         rintro e w4 ⟨g4, rfl, hg4, hb, hrow⟩
         have B4 := Lib.hid (below_step B3.out hb)
         have a4 := cell_kept a3 hb
         have b4 := cell_kept b3 hb
         have c4 := cell_kept c3 hb
         have d4 := cell_kept d3 hb
         have R4 := Lib.hid (R3.out.later hb)
         have S4 := Lib.hid hrow
         clear hb hrow hg4)
      | (go_at_call 13
         refine (HSP.out _ g3 g4 ?_ ?_).mono ?_
         · exact R4.out
         · exact S4.out
         rintro e w5 ⟨rfl, hb⟩
         have B5 := Lib.hid (below_step B4.out hb)
         have a5 := cell_kept a4 hb
         have b5 := cell_kept b4 hb
         have c5 := cell_kept c4 hb
         have d5 := cell_kept d4 hb
         clear hb))
  clear B2 B3 B4 a2 b2 c2 d2 a3 b3 c3 d3 a4 b4 c4 d4 R3 R4 S4
  go_wp2_with fail
  refine (HT.out _ (H.out.below B5.out) B5.out.size).mono ?_
  rintro e w6 ⟨g6, rfl, hg6, hb, hrow⟩
  have B6 := Lib.hid (below_step B5.out hb)
  have a6 := cell_kept a5 hb
  have b6 := cell_kept b5 hb
  have c6 := cell_kept c5 hb
  have d6 := cell_kept d5 hb
  have R6 := Lib.hid hrow
  clear hb hrow hg6 B5 a5 b5 c5 d5
  have hb := below_box w6 (.cells #[.int .i64 u, .slice (some ⟨g6, 0, none⟩) n n] 29)
  have B7 := Lib.hid (below_step B6.out hb)
  have a7 := cell_kept a6 hb
  have b7 := cell_kept b6 hb
  have c7 := cell_kept c6 hb
  have d7 := cell_kept d6 hb
  have R7 := Lib.hid (R6.out.later hb)
  have x7 : (w6.alloc (.cells #[.int .i64 u, .slice (some ⟨g6, 0, none⟩) n n] 29)).cell? ⟨w6.heap.size, 0, none⟩ = some (.int .i64 u) := by simp [go_sem]
  have y7 : (w6.alloc (.cells #[.int .i64 u, .slice (some ⟨g6, 0, none⟩) n n] 29)).cell? ⟨w6.heap.size, 1, none⟩ = some (.slice (some ⟨g6, 0, none⟩) n n) := by simp [go_sem]
  clear hb B6 a6 b6 c6 d6 R6
  go_wp2_with fail
  refine (HT'.out _ (H'.out.below B7.out) B7.out.size).mono ?_
  rintro e w8 ⟨g8, rfl, hg8, hb, hrow⟩
  have B8 := Lib.hid (below_step B7.out hb)
  have a8 := cell_kept a7 hb
  have b8 := cell_kept b7 hb
  have c8 := cell_kept c7 hb
  have d8 := cell_kept d7 hb
  have x8 := cell_kept x7 hb
  have y8 := cell_kept y7 hb
  have R8 := Lib.hid (R7.out.later hb)
  have S8 := Lib.hid hrow
  clear hb hrow hg8 B7 a7 b7 c7 d7 x7 y7 R7
  have hb := below_box w8 (.cells #[.int .i64 u', .slice (some ⟨g8, 0, none⟩) m m] 29)
  have B9 := Lib.hid (below_step B8.out hb)
  have a9 := cell_kept a8 hb
  have b9 := cell_kept b8 hb
  have c9 := cell_kept c8 hb
  have d9 := cell_kept d8 hb
  have x9 := cell_kept x8 hb
  have y9 := cell_kept y8 hb
  have R9 := Lib.hid (R8.out.later hb)
  have S9 := Lib.hid (S8.out.later hb)
  have z9 : (w8.alloc (.cells #[.int .i64 u', .slice (some ⟨g8, 0, none⟩) m m] 29)).cell? ⟨w8.heap.size, 0, none⟩ = some (.int .i64 u') := by simp [go_sem]
  have v9 : (w8.alloc (.cells #[.int .i64 u', .slice (some ⟨g8, 0, none⟩) m m] 29)).cell? ⟨w8.heap.size, 1, none⟩ = some (.slice (some ⟨g8, 0, none⟩) m m) := by simp [go_sem]
  clear hb B8 a8 b8 c8 d8 x8 y8 R8 S8
  go_wp2_with fail
  refine (HIM.out _ g6 g8 R9.out S9.out).mono ?_
  rintro e w10 ⟨rfl, hb⟩
  have B10 := Lib.hid (below_step B9.out hb)
  have a10 := cell_kept a9 hb
  have b10 := cell_kept b9 hb
  have c10 := cell_kept c9 hb
  have d10 := cell_kept d9 hb
  have x10 := cell_kept x9 hb
  have y10 := cell_kept y9 hb
  have z10 := cell_kept z9 hb
  have v10 := cell_kept v9 hb
  have R10 := Lib.hid (R9.out.later hb)
  have S10 := Lib.hid (S9.out.later hb)
  clear hb B9 a9 b9 c9 d9 x9 y9 z9 v9 R9 S9
  go_wp2
  go_region_held3 (fun W => W.cell? ⟨w.heap.size, 0, none⟩ = some (.int .i64 u) ∧ W.cell? ⟨w.heap.size, 1, none⟩ = some (.slice A n c) ∧ W.cell? ⟨w6.heap.size, 0, none⟩ = some (.int .i64 u) ∧ W.cell? ⟨w6.heap.size, 1, none⟩ = some (.slice (some ⟨g6, 0, none⟩) n n))
    (first | exact ⟨a10, b10, x10, y10⟩ | exact ⟨a11, b11, x11, y11⟩ | exact ⟨a12, b12, x12, y12⟩)
    (first
      | (go_at_call 10
         refine (HT.out _ ?_ ?_).mono ?_
         · exact H.out.below B10.out.drew
         · exact B10.out.drew.size
         rintro e w11 ⟨ge, rfl, hge, hb, hrow⟩
         have B11 := Lib.hid (below_step B10.out.drew hb)
         have a11 := cell_kept (w := w10.drew) a10 hb
         have b11 := cell_kept (w := w10.drew) b10 hb
         have c11 := cell_kept (w := w10.drew) c10 hb
         have d11 := cell_kept (w := w10.drew) d10 hb
         have x11 := cell_kept (w := w10.drew) x10 hb
         have y11 := cell_kept (w := w10.drew) y10 hb
         have z11 := cell_kept (w := w10.drew) z10 hb
         have v11 := cell_kept (w := w10.drew) v10 hb
         have R11 := Lib.hid (R10.out.drew.later hb)
         have S11 := Lib.hid (S10.out.drew.later hb)
         have T11 := Lib.hid hrow
         clear hb hrow hge)
      | (go_at_call 12
         refine (HE.out _ g6 ge ?_ ?_).mono ?_
         · exact R11.out
         · exact T11.out
         rintro e w12 ⟨rfl, hb⟩
         have B12 := Lib.hid (below_step B11.out hb)
         have a12 := cell_kept a11 hb
         have b12 := cell_kept b11 hb
         have c12 := cell_kept c11 hb
         have d12 := cell_kept d11 hb
         have x12 := cell_kept x11 hb
         have y12 := cell_kept y11 hb
         have z12 := cell_kept z11 hb
         have v12 := cell_kept v11 hb
         have R12 := Lib.hid (R11.out.later hb)
         have S12 := Lib.hid (S11.out.later hb)
         clear hb))
  clear B10 a10 b10 c10 d10 x10 y10 z10 v10 R10 S10 B11 a11 b11 c11 d11 x11 y11 z11 v11 R11 S11 T11
  go_wp2
  go_region_held3 (fun W => W.cell? ⟨w.heap.size + 1, 0, none⟩ = some (.int .i64 u') ∧ W.cell? ⟨w.heap.size + 1, 1, none⟩ = some (.slice A' m c') ∧ W.cell? ⟨w8.heap.size, 0, none⟩ = some (.int .i64 u') ∧ W.cell? ⟨w8.heap.size, 1, none⟩ = some (.slice (some ⟨g8, 0, none⟩) m m))
    (first | exact ⟨c12, d12, z12, v12⟩ | exact ⟨c13, d13, z13, v13⟩ | exact ⟨c14, d14, z14, v14⟩)
    (first
      | (go_at_call 10
         refine (HT'.out _ ?_ ?_).mono ?_
         · exact H'.out.below B12.out.drew
         · exact B12.out.drew.size
         rintro e w13 ⟨ge, rfl, hge, hb, hrow⟩
         have B13 := Lib.hid (below_step B12.out.drew hb)
         have a13 := cell_kept (w := w12.drew) a12 hb
         have b13 := cell_kept (w := w12.drew) b12 hb
         have c13 := cell_kept (w := w12.drew) c12 hb
         have d13 := cell_kept (w := w12.drew) d12 hb
         have x13 := cell_kept (w := w12.drew) x12 hb
         have y13 := cell_kept (w := w12.drew) y12 hb
         have z13 := cell_kept (w := w12.drew) z12 hb
         have v13 := cell_kept (w := w12.drew) v12 hb
         have R13 := Lib.hid (R12.out.drew.later hb)
         have S13 := Lib.hid (S12.out.drew.later hb)
         have T13 := Lib.hid hrow
         clear hb hrow hge)
      | (go_at_call 12
         refine (HE'.out _ g8 ge ?_ ?_).mono ?_
         · exact S13.out
         · exact T13.out
         rintro e w14 ⟨rfl, hb⟩
         have B14 := Lib.hid (below_step B13.out hb)
         have a14 := cell_kept a13 hb
         have b14 := cell_kept b13 hb
         have c14 := cell_kept c13 hb
         have d14 := cell_kept d13 hb
         have x14 := cell_kept x13 hb
         have y14 := cell_kept y13 hb
         have z14 := cell_kept z13 hb
         have v14 := cell_kept v13 hb
         have R14 := Lib.hid (R13.out.later hb)
         have S14 := Lib.hid (S13.out.later hb)
         clear hb))
  clear B12 a12 b12 c12 d12 x12 y12 z12 v12 R12 S12 B13 a13 b13 c13 d13 x13 y13 z13 v13 R13 S13 T13
  go_wp2
  go_ret
  exact ⟨rfl, B14.out⟩

theorem walk (u : Int) (A : Option Addr) (c : Nat) (ds : List It) {w : World} (h : Items w w.heap.size A ds) (hn : ds.length ≤ 9223372036854775807) (hs : ∀ d ∈ ds, d.name.size ≤ 9223372036854775807) (u' : Int) (A' : Option Addr) (c' : Nat) (es : List It) {w1 : World} (h' : Items w1 w1.heap.size A' es) (hn' : es.length ≤ 9223372036854775807) (hs' : ∀ d ∈ es, d.name.size ≤ 9223372036854775807) (W : World) (e1 : w = W) (e2 : w1 = W) :
    Calls Try.prog 4 #[.agg #[.int .i64 u, .slice A ds.length c], .agg #[.int .i64 u', .slice A' es.length c']] W fun e w' => e = .returned (.bool true) ∧ Below W.heap.size W w' := by
  subst e1
  subst e2
  by_cases h1 : 1048576 < ds.length + itSize ds
  · exact walk_big A A' c c' es.length u u' ds w1 h hn hs h1
  · by_cases h2 : 1048576 < ds.length + itSize ds + (es.length + itSize es)
    · exact walk_sum A A' c c' u u' ds es w1 h h' hn' hs' (by omega) h2
    · exact walk_small A A' c c' u u' ds es w1 h h' (by omega)

set_option maxRecDepth 100000 in
theorem lifted (os : Os) (started : os.Started) (H : Type) (enc : TypeId × Value → H) :
    ReturnsInHanded {} Try.checked os 4 .any (Rows.fnExactSameLayoutSpec.pre6 enc Try.prog Try.f4 Rows.fnExactSameLayoutRow.domain false) (Rows.fnExactSameLayoutSpec.post enc Try.prog Try.f4 false true false false) := by
  refine returnsInHanded_of_change (C := Try.checked) own started (by kernel_rfl) Try.func4
    (ChangeSpec.witness6 (enc := enc) (C := Try.checked) false ⟨#[], #[.agg #[.int .i64 0, .slice none 0 0], .agg #[.int .i64 0, .slice none 0 0]], []⟩ 8 (by kernel_rfl) (by kernel_rfl) (by kernel_rfl) (by kernel_rfl)) ?_
  intro W base args ds gs before hval0 hW _ _
  have hval : ∀ (j : Nat) t v, Try.f4.params[j]? = some t → args[j]? = some v → Value.okWide Try.prog W .any base t v := hval0
  have hW' := hW
  obtain ⟨p, q, hA0, hV, rfl, _, _⟩ := hW
  have hA : DataW.TrodAll enc Try.prog W 0 (fun _ => true) true Try.f4.params.toList args.toList ds p := hA0
  rw [Try.params4] at hA hval
  obtain ⟨v0, vs0, d0, ds0, p0, q0, hargs, rfl, rfl, h0, r0⟩ := trodAll_cons hA
  obtain ⟨v1, vs1, d1, ds1, p1, q1, rfl, rfl, rfl, h1, r1⟩ := trodAll_cons r0
  obtain ⟨rfl, rfl, rfl⟩ := trodAll_nil r1
  obtain rfl : args = #[v0, v1] := by cases args; simp_all
  obtain ⟨rfl, rfl⟩ := trodVars_none hV
  obtain ⟨u0, A0, c0, ds0', rfl, wu0, i0, l0, z0⟩ := open_layout (hval 0 24 v0 rfl rfl) h0
  obtain ⟨u1, A1, c1, ds1', rfl, wu1, i1, l1, z1⟩ := open_layout (hval 1 24 v1 rfl rfl) h1
  refine (walk u0 A0 c0 ds0' i0 l0 z0 u1 A1 c1 ds1' i1 l1 z1 W rfl rfl).mono fun e W' ⟨he, hb⟩ => ?_
  subst he
  refine ⟨_, rfl, law_post hW' rfl rfl ?_ rfl rfl rfl hb⟩
  intro t ht
  rw [Try.params4] at ht
  obtain rfl : t = 24 := by simpa using ht
  exact ⟨by kernel_rfl, of_decide_eq_true (by kernel_rfl)⟩

theorem over : Rows.fnExactSameLayoutRow.holds Try.pinned (OpenSpec.ofChange Rows.fnExactSameLayoutSpec) :=
  OpenClaim.holds_of_wide 4 Try.f4 rfl rfl rfl rfl rfl rfl rfl ⟨rfl, rfl, rfl, rfl, rfl⟩ rfl rfl rfl rfl rfl (by kernel_rfl) Try.func4 (by kernel_rfl)
    (of_decide_eq_true (by kernel_rfl)) (by unfold Func.isWrapper; first | (rw [if_pos (by decide +kernel)]; kernel_rfl) | (rw [if_neg (by decide +kernel)]; exact ⟨rfl, rfl⟩))
    (fun os started H enc _ => lifted os started H enc)

theorem proved : Rows.FnExactSameLayoutSaid :=
  over
end Go.Proofs.Ytmibkaldeickdaa.fnExactSameLayout
