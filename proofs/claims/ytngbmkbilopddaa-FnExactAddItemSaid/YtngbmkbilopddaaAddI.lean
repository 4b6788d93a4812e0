/- impl.AddItem gives the layout with one item more, in new memory, or the same code as spec.AddItem, for every layout of at most 1048576 items and every item: contract. -/
import Derived.Test.YtngbmkbilopddaaAdd
namespace Go.Proofs.Ytngbmkbilopddaa
open Go.ChangeShapes Go.WideShapes Go.ChangeAt Go.RowKit

theorem two_rows (w : World) (d : It) (x y : Value) :
    ((w.drew.alloc (.cells #[.string d.name, .int .i64 d.kind, .int .i64 d.f0, .int .i64 d.f1] 39)).alloc (.cells #[x, y] 31)).cell? ⟨w.heap.size + 1, 0, none⟩ = some x ∧
    ((w.drew.alloc (.cells #[.string d.name, .int .i64 d.kind, .int .i64 d.f0, .int .i64 d.f1] 39)).alloc (.cells #[x, y] 31)).cell? ⟨w.heap.size + 1, 1, none⟩ = some y ∧
    IRow ((w.drew.alloc (.cells #[.string d.name, .int .i64 d.kind, .int .i64 d.f0, .int .i64 d.f1] 39)).alloc (.cells #[x, y] 31)) w.heap.size [d] [] :=
  ⟨by simp [go_sem], by simp [go_sem], IRow.alloc (by show _ = _; exact heap_alloc_new w.drew _) _⟩
theorem askC_bad {u : Int} {ds : List It} {s : ByteArray} (h : layoutB u ds = false) : askC u ds s = 1 := by simp [askC, h]
theorem askC_none {u : Int} {ds : List It} {s : ByteArray} (h : layoutB u ds = true) (hn : nameTo ds s ds.length = false) : askC u ds s = 3 := by simp [askC, h, hn]
theorem askC_there {u : Int} {ds : List It} {s : ByteArray} (h : layoutB u ds = true) (hn : nameTo ds s ds.length = true) : askC u ds s = 0 := by simp [askC, h, hn]
theorem askC_good {u : Int} {ds : List It} {s : ByteArray} (h : layoutB u ds = true) : askC u ds s = 0 ∨ askC u ds s = 3 := by
  cases hn : nameTo ds s ds.length
  · exact Or.inr (askC_none h hn)
  · exact Or.inl (askC_there h hn)

set_option maxRecDepth 100000 in
set_option maxHeartbeats 4000000 in
theorem implAdd_any (u : Int) (ga c : Nat) (ds : List It) (d : It) (w : World) (h : IRow w ga ds []) (hn : ds.length ≤ 1048576) (hc : ds.length ≤ c) (hs : ∀ d ∈ ds, d.name.size ≤ 1048576) (hs1 : d.name.size ≤ 1048576) :
    Calls Try.prog 10 #[.agg #[.int .i64 u, .slice (some ⟨ga, 0, none⟩) ds.length c], d.val] w (GivesAdd u ds d w) := by
  obtain ⟨nm, kd, f0, f1⟩ := d
  show Calls Try.prog 10 #[.agg #[.int .i64 u, .slice (some ⟨ga, 0, none⟩) ds.length c], .agg #[.string nm, .int .i64 kd, .int .i64 f0, .int .i64 f1]] w _
  have hcs := addC_cases u ds ⟨nm, kd, f0, f1⟩
  obtain ⟨W, eW⟩ : ∃ W, ((w.alloc (.cells #[.int .i64 u, .slice (some ⟨ga, 0, none⟩) ds.length c] 33)).alloc (.cells #[.string nm, .int .i64 kd, .int .i64 f0, .int .i64 f1] 39)).alloc (.cells #[.int .i64 0, .slice none 0 0] 33) = W := ⟨_, rfl⟩
  have BW : Below w.heap.size w W := by rw [← eW]; exact ((below_box w _).alloc (by simp) _).alloc (by simp; omega) _
  have zW : W.heap.size = w.heap.size + 1 + 1 + 1 := by rw [← eW]; simp
  have RW : IRow W ga ds [] := h.later BW
  have l0 : W.cell? ⟨w.heap.size, 0, none⟩ = some (.int .i64 u) := by rw [← eW]; simp [go_sem]
  have l1 : W.cell? ⟨w.heap.size, 1, none⟩ = some (.slice (some ⟨ga, 0, none⟩) ds.length c) := by rw [← eW]; simp [go_sem]
  have i0 : W.cell? ⟨w.heap.size + 1, 0, none⟩ = some (.string nm) := by rw [← eW]; simp [go_sem]
  have i1 : W.cell? ⟨w.heap.size + 1, 1, none⟩ = some (.int .i64 kd) := by rw [← eW]; simp [go_sem]
  have i2 : W.cell? ⟨w.heap.size + 1, 2, none⟩ = some (.int .i64 f0) := by rw [← eW]; simp [go_sem]
  have i3 : W.cell? ⟨w.heap.size + 1, 3, none⟩ = some (.int .i64 f1) := by rw [← eW]; simp [go_sem]
  have r0 : W.cell? ⟨w.heap.size + 1 + 1, 0, none⟩ = some (.int .i64 0) := by rw [← eW]; simp [go_sem]
  have r1 : W.cell? ⟨w.heap.size + 1 + 1, 1, none⟩ = some (.slice none 0 0) := by rw [← eW]; simp [go_sem]
  have fr : ∀ j, W.frozen? ⟨w.heap.size + 1 + 1, j, none⟩ = false := fun j => by rw [← eW]; simp [go_sem]
  have R0 := Lib.hid RW
  have HO := Lib.hid (implNamed_any nm u (some ⟨ga, 0, none⟩) c ds (ga + 1) W RW.items RW.lt hn hc hs hs1)
  have HIT := Lib.hid (fun W' => isItemFor_any ⟨nm, kd, f0, f1⟩ u W')
  have HTK := Lib.hid (fun W' (hr : IRow W' ga ds []) => isTaken_any (some ⟨ga, 0, none⟩) c ds (ga + 1) f0 f1 W' hr.items hr.lt hn)
  have HCC := Lib.hid (fun W' g2 g3 (hr : IRow W' ga ds []) h2 c0 c1 => concatItems_any ga c g2 g3 ds ⟨nm, kd, f0, f1⟩ [] W' hr h2 c0 c1 hn)
  have B0 := Lib.hid BW
  have G0 : Hid (w.heap.size + 1 + 1 < W.heap.size) := by show _ < _; omega
  clear RW BW zW h

  rcases hcs with ⟨hv, hC⟩ | ⟨hv, hi, hC⟩ | ⟨hv, hi, hnm, hC⟩ | ⟨hv, hi, hnm, hm, hC⟩ | ⟨hv, hi, hnm, hm, h12, hC⟩ | ⟨hv, hi, hnm, hm, h12, hC⟩
  · have HC := Lib.hid hC
    have hac := askC_bad (s := nm) hv
    rw [hac] at HO
    obtain ⟨av, hav⟩ : ∃ av, askV u ds nm = av := ⟨_, rfl⟩
    rw [hav] at HO
    obtain ⟨n, hN⟩ : ∃ n, ds.length = n := ⟨_, rfl⟩
    have HN := Lib.hid hN
    rw [hN] at HO HCC hn eW l1 ⊢
    clear hv hC hN hs hs1 hc HIT hac hav HTK HCC
    go_enter Try.func10, Try.ntmps10
    go_wp2_with fail
    refine (HO.out).mono ?_
    rintro e w1 ⟨rfl, hb⟩
    have B1 := Lib.hid (below_step B0.out hb)
    have l0_1 := cell_kept l0 hb
    have l1_1 := cell_kept l1 hb
    have i0_1 := cell_kept i0 hb
    have i1_1 := cell_kept i1 hb
    have i2_1 := cell_kept i2 hb
    have i3_1 := cell_kept i3 hb
    have r0_1 := cell_kept r0 hb
    have r1_1 := cell_kept r1 hb
    have fr_1 : ∀ j, w1.frozen? ⟨w.heap.size + 1 + 1, j, none⟩ = false := fun j => (hb.frozen G0.out).trans (fr j)
    have R1 := Lib.hid (R0.out.later hb)
    have G1 : Hid (w.heap.size + 1 + 1 < w1.heap.size) := Nat.lt_of_lt_of_le G0.out hb.size
    clear hb l0 l1 i0 i1 i2 i3 r0 r1 fr B0 R0 G0
    go_wp2
    exact bodyPost_ret (v := .tuple #[.agg #[.int .i64 0, .slice none 0 0], .int .i64 1]) (by simp [results, Try.results10, go_sem, r0_1, r1_1, fr_1]) rfl (GivesAdd.bad 1 HC.out (by decide) ⟨rfl, (B1.out.setCell (by simp; omega) _).setCell (by simp; omega) _⟩)
  · rcases askC_good (s := nm) hv with hac | hac
    · have HC := Lib.hid hC
      skip
      rw [hac] at HO
      obtain ⟨av, hav⟩ : ∃ av, askV u ds nm = av := ⟨_, rfl⟩
      rw [hav] at HO
      have hu := layoutB_u hv
      have h12' := layoutB_len hv
      have HI := Lib.hid (fun W' => HIT.out W' (by omega))
      simp only [hi] at HI
      obtain ⟨n, hN⟩ : ∃ n, ds.length = n := ⟨_, rfl⟩
      have HN := Lib.hid hN
      rw [hN] at HO HCC hn eW l1 ⊢ h12'
      clear hv hC hN hs hs1 hc HIT hac hav hi HTK HCC
      go_enter Try.func10, Try.ntmps10
      go_wp2_with fail
      refine (HO.out).mono ?_
      rintro e w1 ⟨rfl, hb⟩
      have B1 := Lib.hid (below_step B0.out hb)
      have l0_1 := cell_kept l0 hb
      have l1_1 := cell_kept l1 hb
      have i0_1 := cell_kept i0 hb
      have i1_1 := cell_kept i1 hb
      have i2_1 := cell_kept i2 hb
      have i3_1 := cell_kept i3 hb
      have r0_1 := cell_kept r0 hb
      have r1_1 := cell_kept r1 hb
      have fr_1 : ∀ j, w1.frozen? ⟨w.heap.size + 1 + 1, j, none⟩ = false := fun j => (hb.frozen G0.out).trans (fr j)
      have R1 := Lib.hid (R0.out.later hb)
      have G1 : Hid (w.heap.size + 1 + 1 < w1.heap.size) := Nat.lt_of_lt_of_le G0.out hb.size
      clear hb l0 l1 i0 i1 i2 i3 r0 r1 fr B0 R0 G0
      go_wp2_with fail
      refine (HI.out _).mono ?_
      rintro e w2 ⟨rfl, hb⟩
      have B2 := Lib.hid (below_step B1.out hb)
      have l0_2 := cell_kept l0_1 hb
      have l1_2 := cell_kept l1_1 hb
      have i0_2 := cell_kept i0_1 hb
      have i1_2 := cell_kept i1_1 hb
      have i2_2 := cell_kept i2_1 hb
      have i3_2 := cell_kept i3_1 hb
      have r0_2 := cell_kept r0_1 hb
      have r1_2 := cell_kept r1_1 hb
      have fr_2 : ∀ j, w2.frozen? ⟨w.heap.size + 1 + 1, j, none⟩ = false := fun j => (hb.frozen G1.out).trans (fr_1 j)
      have R2 := Lib.hid (R1.out.later hb)
      have G2 : Hid (w.heap.size + 1 + 1 < w2.heap.size) := Nat.lt_of_lt_of_le G1.out hb.size
      clear hb l0_1 l1_1 i0_1 i1_1 i2_1 i3_1 r0_1 r1_1 fr_1 B1 R1 G1
      go_wp2
      exact bodyPost_ret (v := .tuple #[.agg #[.int .i64 0, .slice none 0 0], .int .i64 2]) (by simp [results, Try.results10, go_sem, r0_2, r1_2, fr_2]) rfl (GivesAdd.bad 2 HC.out (by decide) ⟨rfl, (B2.out.setCell (by simp; omega) _).setCell (by simp; omega) _⟩)
    · have HC := Lib.hid hC
      skip
      rw [hac] at HO
      obtain ⟨av, hav⟩ : ∃ av, askV u ds nm = av := ⟨_, rfl⟩
      rw [hav] at HO
      have hu := layoutB_u hv
      have h12' := layoutB_len hv
      have HI := Lib.hid (fun W' => HIT.out W' (by omega))
      simp only [hi] at HI
      obtain ⟨n, hN⟩ : ∃ n, ds.length = n := ⟨_, rfl⟩
      have HN := Lib.hid hN
      rw [hN] at HO HCC hn eW l1 ⊢ h12'
      clear hv hC hN hs hs1 hc HIT hac hav hi HTK HCC
      go_enter Try.func10, Try.ntmps10
      go_wp2_with fail
      refine (HO.out).mono ?_
      rintro e w1 ⟨rfl, hb⟩
      have B1 := Lib.hid (below_step B0.out hb)
      have l0_1 := cell_kept l0 hb
      have l1_1 := cell_kept l1 hb
      have i0_1 := cell_kept i0 hb
      have i1_1 := cell_kept i1 hb
      have i2_1 := cell_kept i2 hb
      have i3_1 := cell_kept i3 hb
      have r0_1 := cell_kept r0 hb
      have r1_1 := cell_kept r1 hb
      have fr_1 : ∀ j, w1.frozen? ⟨w.heap.size + 1 + 1, j, none⟩ = false := fun j => (hb.frozen G0.out).trans (fr j)
      have R1 := Lib.hid (R0.out.later hb)
      have G1 : Hid (w.heap.size + 1 + 1 < w1.heap.size) := Nat.lt_of_lt_of_le G0.out hb.size
      clear hb l0 l1 i0 i1 i2 i3 r0 r1 fr B0 R0 G0
      go_wp2_with fail
      refine (HI.out _).mono ?_
      rintro e w2 ⟨rfl, hb⟩
      have B2 := Lib.hid (below_step B1.out hb)
      have l0_2 := cell_kept l0_1 hb
      have l1_2 := cell_kept l1_1 hb
      have i0_2 := cell_kept i0_1 hb
      have i1_2 := cell_kept i1_1 hb
      have i2_2 := cell_kept i2_1 hb
      have i3_2 := cell_kept i3_1 hb
      have r0_2 := cell_kept r0_1 hb
      have r1_2 := cell_kept r1_1 hb
      have fr_2 : ∀ j, w2.frozen? ⟨w.heap.size + 1 + 1, j, none⟩ = false := fun j => (hb.frozen G1.out).trans (fr_1 j)
      have R2 := Lib.hid (R1.out.later hb)
      have G2 : Hid (w.heap.size + 1 + 1 < w2.heap.size) := Nat.lt_of_lt_of_le G1.out hb.size
      clear hb l0_1 l1_1 i0_1 i1_1 i2_1 i3_1 r0_1 r1_1 fr_1 B1 R1 G1
      go_wp2
      exact bodyPost_ret (v := .tuple #[.agg #[.int .i64 0, .slice none 0 0], .int .i64 2]) (by simp [results, Try.results10, go_sem, r0_2, r1_2, fr_2]) rfl (GivesAdd.bad 2 HC.out (by decide) ⟨rfl, (B2.out.setCell (by simp; omega) _).setCell (by simp; omega) _⟩)
  · have HC := Lib.hid hC
    have hac := askC_there hv hnm
    rw [hac] at HO
    obtain ⟨av, hav⟩ : ∃ av, askV u ds nm = av := ⟨_, rfl⟩
    rw [hav] at HO
    have hu := layoutB_u hv
    have h12' := layoutB_len hv
    have HI := Lib.hid (fun W' => HIT.out W' (by omega))
    simp only [hi] at HI
    obtain ⟨n, hN⟩ : ∃ n, ds.length = n := ⟨_, rfl⟩
    have HN := Lib.hid hN
    rw [hN] at HO HCC hn eW l1 ⊢ h12'
    clear hv hC hN hs hs1 hc HIT hac hav hi hnm HTK HCC
    go_enter Try.func10, Try.ntmps10
    go_wp2_with fail
    refine (HO.out).mono ?_
    rintro e w1 ⟨rfl, hb⟩
    have B1 := Lib.hid (below_step B0.out hb)
    have l0_1 := cell_kept l0 hb
    have l1_1 := cell_kept l1 hb
    have i0_1 := cell_kept i0 hb
    have i1_1 := cell_kept i1 hb
    have i2_1 := cell_kept i2 hb
    have i3_1 := cell_kept i3 hb
    have r0_1 := cell_kept r0 hb
    have r1_1 := cell_kept r1 hb
    have fr_1 : ∀ j, w1.frozen? ⟨w.heap.size + 1 + 1, j, none⟩ = false := fun j => (hb.frozen G0.out).trans (fr j)
    have R1 := Lib.hid (R0.out.later hb)
    have G1 : Hid (w.heap.size + 1 + 1 < w1.heap.size) := Nat.lt_of_lt_of_le G0.out hb.size
    clear hb l0 l1 i0 i1 i2 i3 r0 r1 fr B0 R0 G0
    go_wp2_with fail
    refine (HI.out _).mono ?_
    rintro e w2 ⟨rfl, hb⟩
    have B2 := Lib.hid (below_step B1.out hb)
    have l0_2 := cell_kept l0_1 hb
    have l1_2 := cell_kept l1_1 hb
    have i0_2 := cell_kept i0_1 hb
    have i1_2 := cell_kept i1_1 hb
    have i2_2 := cell_kept i2_1 hb
    have i3_2 := cell_kept i3_1 hb
    have r0_2 := cell_kept r0_1 hb
    have r1_2 := cell_kept r1_1 hb
    have fr_2 : ∀ j, w2.frozen? ⟨w.heap.size + 1 + 1, j, none⟩ = false := fun j => (hb.frozen G1.out).trans (fr_1 j)
    have R2 := Lib.hid (R1.out.later hb)
    have G2 : Hid (w.heap.size + 1 + 1 < w2.heap.size) := Nat.lt_of_lt_of_le G1.out hb.size
    clear hb l0_1 l1_1 i0_1 i1_1 i2_1 i3_1 r0_1 r1_1 fr_1 B1 R1 G1
    go_wp2
    exact bodyPost_ret (v := .tuple #[.agg #[.int .i64 0, .slice none 0 0], .int .i64 4]) (by simp [results, Try.results10, go_sem, r0_2, r1_2, fr_2]) rfl (GivesAdd.bad 4 HC.out (by decide) ⟨rfl, (B2.out.setCell (by simp; omega) _).setCell (by simp; omega) _⟩)
  · have HC := Lib.hid hC
    have hac := askC_none hv hnm
    rw [hac] at HO
    obtain ⟨av, hav⟩ : ∃ av, askV u ds nm = av := ⟨_, rfl⟩
    rw [hav] at HO
    have hu := layoutB_u hv
    have h12' := layoutB_len hv
    have HI := Lib.hid (fun W' => HIT.out W' (by omega))
    simp only [hi] at HI
    simp only [hm] at HTK
    obtain ⟨n, hN⟩ : ∃ n, ds.length = n := ⟨_, rfl⟩
    have HN := Lib.hid hN
    rw [hN] at HO HCC hn eW l1 ⊢ HTK h12'
    clear hv hC hN hs hs1 hc HIT hac hav hi hnm hm HCC
    go_enter Try.func10, Try.ntmps10
    go_wp2_with fail
    refine (HO.out).mono ?_
    rintro e w1 ⟨rfl, hb⟩
    have B1 := Lib.hid (below_step B0.out hb)
    have l0_1 := cell_kept l0 hb
    have l1_1 := cell_kept l1 hb
    have i0_1 := cell_kept i0 hb
    have i1_1 := cell_kept i1 hb
    have i2_1 := cell_kept i2 hb
    have i3_1 := cell_kept i3 hb
    have r0_1 := cell_kept r0 hb
    have r1_1 := cell_kept r1 hb
    have fr_1 : ∀ j, w1.frozen? ⟨w.heap.size + 1 + 1, j, none⟩ = false := fun j => (hb.frozen G0.out).trans (fr j)
    have R1 := Lib.hid (R0.out.later hb)
    have G1 : Hid (w.heap.size + 1 + 1 < w1.heap.size) := Nat.lt_of_lt_of_le G0.out hb.size
    clear hb l0 l1 i0 i1 i2 i3 r0 r1 fr B0 R0 G0
    go_wp2_with fail
    refine (HI.out _).mono ?_
    rintro e w2 ⟨rfl, hb⟩
    have B2 := Lib.hid (below_step B1.out hb)
    have l0_2 := cell_kept l0_1 hb
    have l1_2 := cell_kept l1_1 hb
    have i0_2 := cell_kept i0_1 hb
    have i1_2 := cell_kept i1_1 hb
    have i2_2 := cell_kept i2_1 hb
    have i3_2 := cell_kept i3_1 hb
    have r0_2 := cell_kept r0_1 hb
    have r1_2 := cell_kept r1_1 hb
    have fr_2 : ∀ j, w2.frozen? ⟨w.heap.size + 1 + 1, j, none⟩ = false := fun j => (hb.frozen G1.out).trans (fr_1 j)
    have R2 := Lib.hid (R1.out.later hb)
    have G2 : Hid (w.heap.size + 1 + 1 < w2.heap.size) := Nat.lt_of_lt_of_le G1.out hb.size
    clear hb l0_1 l1_1 i0_1 i1_1 i2_1 i3_1 r0_1 r1_1 fr_1 B1 R1 G1
    go_wp2_with fail
    refine (HTK.out _ R2.out).mono ?_
    rintro e w3 ⟨rfl, hb⟩
    have B3 := Lib.hid (below_step B2.out hb)
    have l0_3 := cell_kept l0_2 hb
    have l1_3 := cell_kept l1_2 hb
    have i0_3 := cell_kept i0_2 hb
    have i1_3 := cell_kept i1_2 hb
    have i2_3 := cell_kept i2_2 hb
    have i3_3 := cell_kept i3_2 hb
    have r0_3 := cell_kept r0_2 hb
    have r1_3 := cell_kept r1_2 hb
    have fr_3 : ∀ j, w3.frozen? ⟨w.heap.size + 1 + 1, j, none⟩ = false := fun j => (hb.frozen G2.out).trans (fr_2 j)
    have R3 := Lib.hid (R2.out.later hb)
    have G3 : Hid (w.heap.size + 1 + 1 < w3.heap.size) := Nat.lt_of_lt_of_le G2.out hb.size
    clear hb l0_2 l1_2 i0_2 i1_2 i2_2 i3_2 r0_2 r1_2 fr_2 B2 R2 G2
    go_wp2
    exact bodyPost_ret (v := .tuple #[.agg #[.int .i64 0, .slice none 0 0], .int .i64 9]) (by simp [results, Try.results10, go_sem, r0_3, r1_3, fr_3]) rfl (GivesAdd.bad 9 HC.out (by decide) ⟨rfl, (B3.out.setCell (by simp; omega) _).setCell (by simp; omega) _⟩)
  · have HC := Lib.hid hC
    have hac := askC_none hv hnm
    rw [hac] at HO
    obtain ⟨av, hav⟩ : ∃ av, askV u ds nm = av := ⟨_, rfl⟩
    rw [hav] at HO
    have hu := layoutB_u hv
    have h12' := layoutB_len hv
    have HI := Lib.hid (fun W' => HIT.out W' (by omega))
    simp only [hi] at HI
    simp only [hm] at HTK
    obtain ⟨n, hN⟩ : ∃ n, ds.length = n := ⟨_, rfl⟩
    have HN := Lib.hid hN
    rw [hN] at HO HCC hn eW l1 ⊢ HTK h12' h12
    clear hv hC hN hs hs1 hc HIT hac hav hi hnm hm HCC
    go_enter Try.func10, Try.ntmps10
    go_wp2_with fail
    refine (HO.out).mono ?_
    rintro e w1 ⟨rfl, hb⟩
    have B1 := Lib.hid (below_step B0.out hb)
    have l0_1 := cell_kept l0 hb
    have l1_1 := cell_kept l1 hb
    have i0_1 := cell_kept i0 hb
    have i1_1 := cell_kept i1 hb
    have i2_1 := cell_kept i2 hb
    have i3_1 := cell_kept i3 hb
    have r0_1 := cell_kept r0 hb
    have r1_1 := cell_kept r1 hb
    have fr_1 : ∀ j, w1.frozen? ⟨w.heap.size + 1 + 1, j, none⟩ = false := fun j => (hb.frozen G0.out).trans (fr j)
    have R1 := Lib.hid (R0.out.later hb)
    have G1 : Hid (w.heap.size + 1 + 1 < w1.heap.size) := Nat.lt_of_lt_of_le G0.out hb.size
    clear hb l0 l1 i0 i1 i2 i3 r0 r1 fr B0 R0 G0
    go_wp2_with fail
    refine (HI.out _).mono ?_
    rintro e w2 ⟨rfl, hb⟩
    have B2 := Lib.hid (below_step B1.out hb)
    have l0_2 := cell_kept l0_1 hb
    have l1_2 := cell_kept l1_1 hb
    have i0_2 := cell_kept i0_1 hb
    have i1_2 := cell_kept i1_1 hb
    have i2_2 := cell_kept i2_1 hb
    have i3_2 := cell_kept i3_1 hb
    have r0_2 := cell_kept r0_1 hb
    have r1_2 := cell_kept r1_1 hb
    have fr_2 : ∀ j, w2.frozen? ⟨w.heap.size + 1 + 1, j, none⟩ = false := fun j => (hb.frozen G1.out).trans (fr_1 j)
    have R2 := Lib.hid (R1.out.later hb)
    have G2 : Hid (w.heap.size + 1 + 1 < w2.heap.size) := Nat.lt_of_lt_of_le G1.out hb.size
    clear hb l0_1 l1_1 i0_1 i1_1 i2_1 i3_1 r0_1 r1_1 fr_1 B1 R1 G1
    go_wp2_with fail
    refine (HTK.out _ R2.out).mono ?_
    rintro e w3 ⟨rfl, hb⟩
    have B3 := Lib.hid (below_step B2.out hb)
    have l0_3 := cell_kept l0_2 hb
    have l1_3 := cell_kept l1_2 hb
    have i0_3 := cell_kept i0_2 hb
    have i1_3 := cell_kept i1_2 hb
    have i2_3 := cell_kept i2_2 hb
    have i3_3 := cell_kept i3_2 hb
    have r0_3 := cell_kept r0_2 hb
    have r1_3 := cell_kept r1_2 hb
    have fr_3 : ∀ j, w3.frozen? ⟨w.heap.size + 1 + 1, j, none⟩ = false := fun j => (hb.frozen G2.out).trans (fr_2 j)
    have R3 := Lib.hid (R2.out.later hb)
    have G3 : Hid (w.heap.size + 1 + 1 < w3.heap.size) := Nat.lt_of_lt_of_le G2.out hb.size
    clear hb l0_2 l1_2 i0_2 i1_2 i2_2 i3_2 r0_2 r1_2 fr_2 B2 R2 G2
    obtain rfl : n = 12 := by omega
    go_wp2
    exact bodyPost_ret (v := .tuple #[.agg #[.int .i64 0, .slice none 0 0], .int .i64 5]) (by simp [results, Try.results10, go_sem, r0_3, r1_3, fr_3]) rfl (GivesAdd.bad 5 HC.out (by decide) ⟨rfl, (B3.out.setCell (by simp; omega) _).setCell (by simp; omega) _⟩)
  · have HC := Lib.hid hC
    have hac := askC_none hv hnm
    rw [hac] at HO
    obtain ⟨av, hav⟩ : ∃ av, askV u ds nm = av := ⟨_, rfl⟩
    rw [hav] at HO
    have hu := layoutB_u hv
    have h12' := layoutB_len hv
    have HI := Lib.hid (fun W' => HIT.out W' (by omega))
    simp only [hi] at HI
    simp only [hm] at HTK
    obtain ⟨n, hN⟩ : ∃ n, ds.length = n := ⟨_, rfl⟩
    have HN := Lib.hid hN
    rw [hN] at HO HCC hn eW l1 ⊢ HTK h12' h12
    clear hv hC hN hs hs1 hc HIT hac hav hi hnm hm
    go_enter Try.func10, Try.ntmps10
    go_wp2_with fail
    refine (HO.out).mono ?_
    rintro e w1 ⟨rfl, hb⟩
    have B1 := Lib.hid (below_step B0.out hb)
    have l0_1 := cell_kept l0 hb
    have l1_1 := cell_kept l1 hb
    have i0_1 := cell_kept i0 hb
    have i1_1 := cell_kept i1 hb
    have i2_1 := cell_kept i2 hb
    have i3_1 := cell_kept i3 hb
    have r0_1 := cell_kept r0 hb
    have r1_1 := cell_kept r1 hb
    have fr_1 : ∀ j, w1.frozen? ⟨w.heap.size + 1 + 1, j, none⟩ = false := fun j => (hb.frozen G0.out).trans (fr j)
    have R1 := Lib.hid (R0.out.later hb)
    have G1 : Hid (w.heap.size + 1 + 1 < w1.heap.size) := Nat.lt_of_lt_of_le G0.out hb.size
    clear hb l0 l1 i0 i1 i2 i3 r0 r1 fr B0 R0 G0
    go_wp2_with fail
    refine (HI.out _).mono ?_
    rintro e w2 ⟨rfl, hb⟩
    have B2 := Lib.hid (below_step B1.out hb)
    have l0_2 := cell_kept l0_1 hb
    have l1_2 := cell_kept l1_1 hb
    have i0_2 := cell_kept i0_1 hb
    have i1_2 := cell_kept i1_1 hb
    have i2_2 := cell_kept i2_1 hb
    have i3_2 := cell_kept i3_1 hb
    have r0_2 := cell_kept r0_1 hb
    have r1_2 := cell_kept r1_1 hb
    have fr_2 : ∀ j, w2.frozen? ⟨w.heap.size + 1 + 1, j, none⟩ = false := fun j => (hb.frozen G1.out).trans (fr_1 j)
    have R2 := Lib.hid (R1.out.later hb)
    have G2 : Hid (w.heap.size + 1 + 1 < w2.heap.size) := Nat.lt_of_lt_of_le G1.out hb.size
    clear hb l0_1 l1_1 i0_1 i1_1 i2_1 i3_1 r0_1 r1_1 fr_1 B1 R1 G1
    go_wp2_with fail
    refine (HTK.out _ R2.out).mono ?_
    rintro e w3 ⟨rfl, hb⟩
    have B3 := Lib.hid (below_step B2.out hb)
    have l0_3 := cell_kept l0_2 hb
    have l1_3 := cell_kept l1_2 hb
    have i0_3 := cell_kept i0_2 hb
    have i1_3 := cell_kept i1_2 hb
    have i2_3 := cell_kept i2_2 hb
    have i3_3 := cell_kept i3_2 hb
    have r0_3 := cell_kept r0_2 hb
    have r1_3 := cell_kept r1_2 hb
    have fr_3 : ∀ j, w3.frozen? ⟨w.heap.size + 1 + 1, j, none⟩ = false := fun j => (hb.frozen G2.out).trans (fr_2 j)
    have R3 := Lib.hid (R2.out.later hb)
    have G3 : Hid (w.heap.size + 1 + 1 < w3.heap.size) := Nat.lt_of_lt_of_le G2.out hb.size
    clear hb l0_2 l1_2 i0_2 i1_2 i2_2 i3_2 r0_2 r1_2 fr_2 B2 R2 G2
    have hk12 : ((n : Int) == 12) = false := by simp; omega
    have K3 : Hid (Below w3.heap.size w3 w3.drew) := Below.drew (Below.refl _ _)
    have HX := Lib.hid (fun x y => two_rows w3 ⟨nm, kd, f0, f1⟩ x y)
    have KB : Hid (Below w3.heap.size w3 ((w3.drew.alloc (.cells #[.string nm, .int .i64 kd, .int .i64 f0, .int .i64 f1] 39)).alloc (.cells #[.slice (some ⟨ga, 0, none⟩) n c, .slice (some ⟨w3.heap.size, 0, none⟩) 1 1] 31))) := (K3.out.alloc (Nat.le_refl _) _).alloc (by simp) _
    have hl' : (ds ++ [(⟨nm, kd, f0, f1⟩ : It)]).length = n + 1 := by simp [HN.out]
    unfold GivesIts at HCC
    rw [hl'] at HCC
    have HL := Lib.hid hl'
    clear hl'
    go_wp2_with fail
    go_region_held3 (fun W => W.cell? ⟨w.heap.size, 0, none⟩ = some (.int .i64 u) ∧ W.cell? ⟨w.heap.size, 1, none⟩ = some (.slice (some ⟨ga, 0, none⟩) n c) ∧ W.cell? ⟨w.heap.size + 1, 0, none⟩ = some (.string nm) ∧ W.cell? ⟨w.heap.size + 1, 1, none⟩ = some (.int .i64 kd) ∧ W.cell? ⟨w.heap.size + 1, 2, none⟩ = some (.int .i64 f0) ∧ W.cell? ⟨w.heap.size + 1, 3, none⟩ = some (.int .i64 f1))
      (first | exact ⟨l0_9, l1_9, i0_9, i1_9, i2_9, i3_9⟩ | exact ⟨keep_two l0_9 (Nat.ne_of_lt (Nat.lt_succ_of_lt (Nat.lt_succ_self _))), keep_two l1_9 (Nat.ne_of_lt (Nat.lt_succ_of_lt (Nat.lt_succ_self _))), keep_two i0_9 (Nat.ne_of_lt (Nat.lt_succ_self _)), keep_two i1_9 (Nat.ne_of_lt (Nat.lt_succ_self _)), keep_two i2_9 (Nat.ne_of_lt (Nat.lt_succ_self _)), keep_two i3_9 (Nat.ne_of_lt (Nat.lt_succ_self _))⟩ | exact ⟨l0_3, l1_3, i0_3, i1_3, i2_3, i3_3⟩ | exact ⟨cell_kept l0_3 KB.out, cell_kept l1_3 KB.out, cell_kept i0_3 KB.out, cell_kept i1_3 KB.out, cell_kept i2_3 KB.out, cell_kept i3_3 KB.out⟩ | go_keep)
      (first
        | (go_at_call 37
           refine (HCC.out _ w3.heap.size (w3.heap.size + 1) ?_ ?_ ?_ ?_).mono ?_
           · exact R3.out.later KB.out
           · exact (HX.out _ _).2.2
           · exact (HX.out _ _).1
           · exact (HX.out _ _).2.1
           rintro e w9 ⟨g9, c9, ex9, rfl, hg9, hb9, hrow9⟩
           have K9 : Hid (Below w3.heap.size w3 w9) := below_step KB.out hb9
           have l0_9 := cell_kept l0_3 K9.out
           have l1_9 := cell_kept l1_3 K9.out
           have i0_9 := cell_kept i0_3 K9.out
           have i1_9 := cell_kept i1_3 K9.out
           have i2_9 := cell_kept i2_3 K9.out
           have i3_9 := cell_kept i3_3 K9.out
           have r0_9 := cell_kept r0_3 K9.out
           have r1_9 := cell_kept r1_3 K9.out
           have fr_9 : ∀ j, w9.frozen? ⟨w.heap.size + 1 + 1, j, none⟩ = false := fun j => (K9.out.frozen G3.out).trans (fr_3 j)
           have HG9 : Hid (w3.heap.size ≤ g9) := Nat.le_trans KB.out.size hg9
           have HR9 := Lib.hid hrow9
           clear hg9 hb9 hrow9))
    go_wp2
    have hgr := G3.out
    have hg9 := HG9.out
    have hnr9 : g9 ≠ w.heap.size + 1 + 1 := by omega
    have B9 := Lib.hid (below_step B3.out K9.out)
    exact bodyPost_ret (v := .tuple #[.agg #[.int .i64 u, .slice (some ⟨g9, 0, none⟩) (n + 1) c9], .int .i64 0]) (by simp [results, Try.results10, go_sem, r0_9, r1_9, fr_9]) rfl (GivesAdd.good HC.out ⟨g9, c9, ex9, by rw [HL.out], by omega, ((B9.out.setCell (by simp; omega) _).setCell (by simp; omega) _), (HR9.out.far hnr9 _).far hnr9 _⟩)
end Go.Proofs.Ytngbmkbilopddaa
