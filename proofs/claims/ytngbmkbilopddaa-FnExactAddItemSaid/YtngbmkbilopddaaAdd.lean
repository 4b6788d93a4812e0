/- spec.AddItem and impl.AddItem give the layout with one item more, in new memory, or the same code, for every layout of at most 1048576 items and every item: contracts. -/
import Derived.Test.YtngbmkbilopddaaNamed
import Derived.Test.YtngbmkbilopddaaConcat
import Derived.Test.YtngbmkbilopddaaStepOwn
import Derived.Deep.RegionHeld3
import Derived.Deep.RegionLaw
namespace Go.Proofs.Ytngbmkbilopddaa
open Go.ChangeShapes Go.WideShapes Go.ChangeAt Go.RowKit

/-- the code of adding an item -/
def addC (u : Int) (ds : List It) (d : It) : Int :=
  if layoutB u ds = false then 1 else if itemB d u = false then 2 else if nameTo ds d.name ds.length = true then 4 else if meetTo ds d.f0 d.f1 ds.length = true then 9 else if 12 ≤ ds.length then 5 else 0

/-- No layout, and a code. -/
def GivesNoLay (a : Int) (w : World) (e : Ending) (w' : World) : Prop :=
  e = .returned (.tuple #[.agg #[.int .i64 0, .slice none 0 0], .int .i64 a]) ∧ Below w.heap.size w w'
/-- A layout whose items lie in new memory, and OK. -/
def GivesNewLay (u : Int) (ys : List It) (w : World) (e : Ending) (w' : World) : Prop :=
  ∃ g cap ex, e = .returned (.tuple #[.agg #[.int .i64 u, .slice (some ⟨g, 0, none⟩) ys.length cap], .int .i64 0]) ∧ w.heap.size ≤ g ∧ Below w.heap.size w w' ∧ IRow w' g ys ex
/-- what adding an item gives -/
def GivesAdd (u : Int) (ds : List It) (d : It) (w : World) (e : Ending) (w' : World) : Prop :=
  if addC u ds d = 0 then GivesNewLay u (ds ++ [d]) w e w' else GivesNoLay (addC u ds d) w e w'
theorem GivesAdd.bad {u : Int} {ds : List It} {d : It} {w : World} {e : Ending} {w' : World} (a : Int) (ha : addC u ds d = a) (h0 : a ≠ 0) (h : GivesNoLay a w e w') : GivesAdd u ds d w e w' := by
  unfold GivesAdd
  rw [ha, if_neg h0]
  exact h
theorem GivesAdd.good {u : Int} {ds : List It} {d : It} {w : World} {e : Ending} {w' : World} (ha : addC u ds d = 0) (h : GivesNewLay u (ds ++ [d]) w e w') : GivesAdd u ds d w e w' := by
  unfold GivesAdd
  rw [ha, if_pos rfl]
  exact h
theorem addC_cases (u : Int) (ds : List It) (d : It) :
    (layoutB u ds = false ∧ addC u ds d = 1) ∨ (layoutB u ds = true ∧ itemB d u = false ∧ addC u ds d = 2) ∨ (layoutB u ds = true ∧ itemB d u = true ∧ nameTo ds d.name ds.length = true ∧ addC u ds d = 4) ∨
    (layoutB u ds = true ∧ itemB d u = true ∧ nameTo ds d.name ds.length = false ∧ meetTo ds d.f0 d.f1 ds.length = true ∧ addC u ds d = 9) ∨
    (layoutB u ds = true ∧ itemB d u = true ∧ nameTo ds d.name ds.length = false ∧ meetTo ds d.f0 d.f1 ds.length = false ∧ 12 ≤ ds.length ∧ addC u ds d = 5) ∨
    (layoutB u ds = true ∧ itemB d u = true ∧ nameTo ds d.name ds.length = false ∧ meetTo ds d.f0 d.f1 ds.length = false ∧ ¬ 12 ≤ ds.length ∧ addC u ds d = 0) := by
  unfold addC
  cases layoutB u ds <;> cases itemB d u <;> cases nameTo ds d.name ds.length <;> cases meetTo ds d.f0 d.f1 ds.length <;> by_cases h : 12 ≤ ds.length <;> simp [h]
theorem layoutB_u {u : Int} {ds : List It} (h : layoutB u ds = true) : 1 ≤ u ∧ u ≤ 20 := by
  simp only [layoutB, inB, Bool.and_eq_true, decide_eq_true_eq] at h
  exact h.1
theorem layoutB_len {u : Int} {ds : List It} (h : layoutB u ds = true) : ds.length ≤ 12 := by
  simp only [layoutB, Bool.and_eq_true, decide_eq_true_eq] at h
  exact h.2.2

theorem item_shape {w : World} {base n m : Nat} {v v' : Value} {xs : List Value} (h : w.ownsRow base 39 4 v' n xs) (hi : v' = .slice none 0 0 ↔ v = .slice none 0 0 ∧ m = 0) (hv : v ≠ .slice none 0 0) : ∃ g cap, v' = .slice (some ⟨g, 0, none⟩) n cap := by
  rcases h.2 with ⟨h0, _⟩ | ⟨g, cap, _, hv', _⟩
  · exact absurd (hi.1 h0).1 hv
  · exact ⟨g, cap, hv'⟩
theorem some_ne_nil (a : Addr) (n c : Nat) : (Value.slice (some a) n c) ≠ .slice none 0 0 := by simp
theorem room_first (w W : World) (h : w.heap.size ≤ W.heap.size) : (W.alloc (.cells #[] 39)).ownsRow w.heap.size 39 4 (.slice (some ⟨W.heap.size, 0, none⟩) 0 0) 0 (itCells []) :=
  ⟨rfl, Or.inr ⟨W.heap.size, 0, #[], rfl, h, heap_alloc_new W _, Nat.le_refl _, Nat.zero_le _, rfl, rfl⟩⟩
theorem room_second (w : World) : ((w.drew.alloc (.cells #[.int .i64 0, .slice none 0 0] 33)).alloc (.cells #[] 39)).ownsRow w.heap.size 39 4 (.slice (some ⟨w.heap.size + 1, 0, none⟩) 0 0) 0 (itCells []) := by
  have := room_first w (w.drew.alloc (.cells #[.int .i64 0, .slice none 0 0] 33)) (below_box w.drew _).size
  simpa using this
theorem keep_two {w9 : World} {pb a i : Nat} {x u v : Value} (h : w9.cell? ⟨a, i, none⟩ = some x) (hne : a ≠ pb) : ((w9.setCell ⟨pb, 0, none⟩ u).setCell ⟨pb, 1, none⟩ v).cell? ⟨a, i, none⟩ = some x := by
  rw [World.cell?_setCell_far _ _ _ _ (by exact fun e => hne e.symm), World.cell?_setCell_far _ _ _ _ (by exact fun e => hne e.symm)]
  exact h
theorem lay_cells {w9 : World} {pb : Nat} (h : w9.heap[pb]? = some (.cells #[.int .i64 0, .slice none 0 0] 33 (0, 0))) :
    w9.cell? ⟨pb, 0, none⟩ = some (.int .i64 0) ∧ w9.cell? ⟨pb, 1, none⟩ = some (.slice none 0 0) ∧ (∀ j, w9.frozen? ⟨pb, j, none⟩ = false) ∧ Hid (w9.heap[pb]? = some (.cells #[.int .i64 0, .slice none 0 0] 33 (0, 0))) :=
  ⟨by simp [World.cell?, h], by simp [World.cell?, h], fun j => by simp [World.frozen?, h], h⟩
theorem lay_order2 (w w9 : World) (h : ((w.drew.alloc (.cells #[.int .i64 0, .slice none 0 0] 33)).alloc (.cells #[] 39)).grownBy w9 (Value.slice (some ⟨w.heap.size + 1, 0, none⟩) 0 0).ownBlock) :
    w9.cell? ⟨w.heap.size, 0, none⟩ = some (.int .i64 0) ∧ w9.cell? ⟨w.heap.size, 1, none⟩ = some (.slice none 0 0) ∧ (∀ j, w9.frozen? ⟨w.heap.size, j, none⟩ = false) ∧ Hid (w9.heap[w.heap.size]? = some (.cells #[.int .i64 0, .slice none 0 0] 33 (0, 0))) :=
  lay_cells ((h.block _ (by simp; omega) (by simp [Value.ownBlock])).trans ((Below.heap_alloc _ _ _ (by simp)).trans (heap_alloc_new w.drew _)))
theorem lay_order3 (w w9 : World) (h : ((w.drew.alloc (.cells #[] 39)).alloc (.cells #[.int .i64 0, .slice none 0 0] 33)).grownBy w9 (Value.slice (some ⟨w.drew.heap.size, 0, none⟩) 0 0).ownBlock) :
    w9.cell? ⟨w.heap.size + 1, 0, none⟩ = some (.int .i64 0) ∧ w9.cell? ⟨w.heap.size + 1, 1, none⟩ = some (.slice none 0 0) ∧ (∀ j, w9.frozen? ⟨w.heap.size + 1, j, none⟩ = false) ∧ Hid (w9.heap[w.heap.size + 1]? = some (.cells #[.int .i64 0, .slice none 0 0] 33 (0, 0))) :=
  lay_cells ((h.block _ (by simp) (by simp [Value.ownBlock])).trans (by have := heap_alloc_new (w.drew.alloc (.cells #[] 39)) (.cells #[.int .i64 0, .slice none 0 0] 33); simpa using this))
theorem own_ne {w : World} {base n gq pb cq : Nat} {xs arr : _} (h : w.ownsRow base 39 4 (.slice (some ⟨gq, 0, none⟩) n cq) n xs) (hp : w.heap[pb]? = some (.cells arr 33 (0, 0))) : gq ≠ pb := by
  rintro rfl
  rcases h.2 with ⟨h0, _⟩ | ⟨g, cap, cur, hv, _, hh, _⟩
  · cases h0
  · obtain rfl : gq = g := by injection hv with hv; injection hv with hv; injection hv
    rw [hp] at hh
    injection hh with hh
    injection hh with _ hh
    exact absurd hh (by decide)
/-- a layout's cells with a list of the call's own -/
def LayLaid (u : Int) (n : Nat) (ds : List It) (wr : World) (s : Value) (wx : World) : Prop :=
  ∃ pb gq cq, s = .pointer (some ⟨pb, 0, none⟩) ∧ wr.heap.size ≤ pb ∧ wx.cell? ⟨pb, 0, none⟩ = some (.int .i64 u) ∧ wx.cell? ⟨pb, 1, none⟩ = some (.slice (some ⟨gq, 0, none⟩) n cq) ∧ (∀ j, wx.frozen? ⟨pb, j, none⟩ = false) ∧
    wx.ownsRow wr.heap.size 39 4 (.slice (some ⟨gq, 0, none⟩) n cq) n (itCells ds) ∧ (∃ arr, wx.heap[pb]? = some (.cells arr 33 (0, 0))) ∧ Below wr.heap.size wr wx
theorem own_set {w : World} {base n g c : Nat} {xs : List Value} (h : w.ownsRow base 39 4 (.slice (some ⟨g, 0, none⟩) n c) n xs) {p : Addr} (hp : g ≠ p.block) (v : Value) : (w.setCell p v).ownsRow base 39 4 (.slice (some ⟨g, 0, none⟩) n c) n xs := by
  refine ⟨h.1, ?_⟩
  rcases h.2 with ⟨h0, _⟩ | ⟨g', cap, cur, hv, hg, hh, rest⟩
  · cases h0
  · refine Or.inr ⟨g', cap, cur, hv, hg, ?_, rest⟩
    obtain rfl : g = g' := by injection hv with hv; injection hv with hv; injection hv
    rw [Below.heap_setCell w p v g hp]
    exact hh
theorem lay_mk {u : Int} {n : Nat} {ds : List It} {wr wx : World} {gq cq pb : Nat} (hpb : wr.heap.size ≤ pb) (hh : wx.heap[pb]? = some (.cells #[.int .i64 0, .slice none 0 0] 33 (0, 0)))
    (ho : wx.ownsRow wr.heap.size 39 4 (.slice (some ⟨gq, 0, none⟩) n cq) n (itCells ds)) (hb : Below wr.heap.size wr wx) : LayLaid u n ds wr (.pointer (some ⟨pb, 0, none⟩)) ((wx.setCell ⟨pb, 0, none⟩ (.int .i64 u)).setCell ⟨pb, 1, none⟩ (.slice (some ⟨gq, 0, none⟩) n cq)) := by
  obtain ⟨c0, c1, fr, _⟩ := lay_cells hh
  have hne := own_ne ho hh
  refine ⟨pb, gq, cq, rfl, hpb, by simp [go_sem, c0, c1], by simp [go_sem, c0, c1], fun j => by simp [go_sem, fr], own_set (own_set ho hne _) hne _, ?_, (hb.setCell hpb _).setCell hpb _⟩
  exact ⟨#[.int .i64 u, .slice (some ⟨gq, 0, none⟩) n cq], by simp [World.setCell, Array.getElem?_modify, hh]⟩

theorem lay_mk2 {u : Int} {n : Nat} {ds : List It} {wr w9 : World} {gq cq : Nat} (ho : w9.ownsRow wr.heap.size 39 4 (.slice (some ⟨gq, 0, none⟩) n cq) n (itCells ds)) (hb : Below wr.heap.size wr w9) :
    LayLaid u n ds wr (.pointer (some ⟨w9.heap.size, 0, none⟩)) (w9.alloc (.cells #[.int .i64 u, .slice (some ⟨gq, 0, none⟩) n cq] 33)) :=
  ⟨w9.heap.size, gq, cq, rfl, hb.size, by simp [go_sem], by simp [go_sem], fun j => by simp [go_sem], ho.alloc _, ⟨_, heap_alloc_new w9 _⟩, hb.alloc hb.size _⟩
theorem far_block {wz w9 : World} {o : Obj} {gq k cq pb : Nat} (hgrow : (wz.alloc o).grownBy w9 (Value.slice (some ⟨gq, 0, none⟩) k cq).ownBlock) (hne : gq ≠ pb) (hlt : pb < wz.heap.size) : w9.heap[pb]? = wz.heap[pb]? :=
  (hgrow.block pb (by simp; omega) (by simp [Value.ownBlock, Ne.symm hne])).trans (Below.heap_alloc _ _ _ hlt)
theorem far_cell {wz w9 : World} {o : Obj} {gq k cq pb i : Nat} {v : Value} (hgrow : (wz.alloc o).grownBy w9 (Value.slice (some ⟨gq, 0, none⟩) k cq).ownBlock) (hne : gq ≠ pb) (hc : wz.cell? ⟨pb, i, none⟩ = some v) : w9.cell? ⟨pb, i, none⟩ = some v := by
  have h := far_block hgrow hne (World.block_lt_of_cell? _ _ hc)
  simp only [World.cell?, h] at hc ⊢
  exact hc
theorem far_frozen {wz w9 : World} {o : Obj} {gq k cq pb i : Nat} (hgrow : (wz.alloc o).grownBy w9 (Value.slice (some ⟨gq, 0, none⟩) k cq).ownBlock) (hne : gq ≠ pb) (hlt : pb < wz.heap.size) (hc : wz.frozen? ⟨pb, i, none⟩ = false) : w9.frozen? ⟨pb, i, none⟩ = false := by
  rw [World.frozen?_of_block (far_block hgrow hne hlt)]
  exact hc

set_option maxRecDepth 100000 in
set_option maxHeartbeats 4000000 in
theorem specAdd_any (u : Int) (ga c : Nat) (ds : List It) (d : It) (w : World) (h : IRow w ga ds []) (hn : ds.length ≤ 1048576) (hc : ds.length ≤ c) (hs : ∀ d ∈ ds, d.name.size ≤ 1048576) (hs1 : d.name.size ≤ 1048576) :
    Calls Try.prog 7 #[.agg #[.int .i64 u, .slice (some ⟨ga, 0, none⟩) ds.length c], d.val] w (GivesAdd u ds d w) := by
  obtain ⟨nm, kd, f0, f1⟩ := d
  show Calls Try.prog 7 #[.agg #[.int .i64 u, .slice (some ⟨ga, 0, none⟩) ds.length c], .agg #[.string nm, .int .i64 kd, .int .i64 f0, .int .i64 f1]] w _
  have hcs := addC_cases u ds ⟨nm, kd, f0, f1⟩
  obtain ⟨W, eW⟩ : ∃ W, ((w.alloc (.cells #[.int .i64 u, .slice (some ⟨ga, 0, none⟩) ds.length c] 33)).alloc (.cells #[.string nm, .int .i64 kd, .int .i64 f0, .int .i64 f1] 39)).alloc (.cells #[.int .i64 0, .slice none 0 0] 33) = W := ⟨_, rfl⟩
  have BW : Below w.heap.size w W := by rw [← eW]; exact ((below_box w _).alloc (by simp) _).alloc (by simp; omega) _
  have zW : W.heap.size = w.heap.size + 1 + 1 + 1 := by rw [← eW]; simp
  have RW : IRow W ga ds [] := h.later BW
  have l0 : W.cell? ⟨w.heap.size, 0, none⟩ = some (.int .i64 u) := by rw [← eW]; simp [go_sem]
  have l1 : W.cell? ⟨w.heap.size, 1, none⟩ = some (.slice (some ⟨ga, 0, none⟩) ds.length c) := by rw [← eW]; simp [go_sem]
  have i0 : W.cell? ⟨w.heap.size + 1, 0, none⟩ = some (.string nm) := by rw [← eW]; simp [go_sem]
  have i1 : W.cell? ⟨w.heap.size + 1, 1, none⟩ = some (.int .i64 kd) := by rw [← eW]; simp [go_sem]
  have i2 : W.cell? ⟨w.heap.size + 1, 2, none⟩ = some (.int .i64 f0) := by rw [← eW]; simp [go_sem]
  have i3 : W.cell? ⟨w.heap.size + 1, 3, none⟩ = some (.int .i64 f1) := by rw [← eW]; simp [go_sem]
  have r0 : W.cell? ⟨w.heap.size + 1 + 1, 0, none⟩ = some (.int .i64 0) := by rw [← eW]; simp [go_sem]
  have r1 : W.cell? ⟨w.heap.size + 1 + 1, 1, none⟩ = some (.slice none 0 0) := by rw [← eW]; simp [go_sem]
  have fr : ∀ j, W.frozen? ⟨w.heap.size + 1 + 1, j, none⟩ = false := fun j => by rw [← eW]; simp [go_sem]
  have R0 := Lib.hid RW
  have HO := Lib.hid (l04Ok_any u (some ⟨ga, 0, none⟩) c ds (ga + 1) w.heap.size 0 W l0 l1 RW.items RW.lt hn)
  have HIT := Lib.hid (fun W' q0 q1 q2 q3 => l04Item_any ⟨nm, kd, f0, f1⟩ (w.heap.size + 1) 0 u W' q0 q1 q2 q3)
  have HF := Lib.hid (fun W' (hr : IRow W' ga ds []) q1 => l04Find_any nm u (some ⟨ga, 0, none⟩) c ds (ga + 1) w.heap.size 0 W' q1 hr.items hr.lt hn)
  have B0 := Lib.hid BW
  have G0 : Hid (w.heap.size + 1 + 1 < W.heap.size) := by show _ < _; omega
  clear RW BW zW h

  rcases hcs with ⟨hv, hC⟩ | ⟨hv, hi, hC⟩ | ⟨hv, hi, hnm, hC⟩ | ⟨hv, hi, hnm, hm, hC⟩ | ⟨hv, hi, hnm, hm, h12, hC⟩ | ⟨hv, hi, hnm, hm, h12, hC⟩
  · have HC := Lib.hid hC
    rw [hv] at HO
    obtain ⟨n, hN⟩ : ∃ n, ds.length = n := ⟨_, rfl⟩
    have HN := Lib.hid hN
    rw [hN] at HF hn eW l1 ⊢
    clear hv hC hN hs hs1 hc HIT
    skip
    go_enter Try.func7, Try.ntmps7
    go_wp2_with fail
    refine (HO.out).mono ?_
    rintro e w1 ⟨rfl, hb⟩
    have B1 := Lib.hid (below_step B0.out hb)
    have l0_1 := cell_kept l0 hb
    have l1_1 := cell_kept l1 hb
    have i0_1 := cell_kept i0 hb
    have i1_1 := cell_kept i1 hb
    have i2_1 := cell_kept i2 hb
    have i3_1 := cell_kept i3 hb
    have r0_1 := cell_kept r0 hb
    have r1_1 := cell_kept r1 hb
    have fr_1 : ∀ j, w1.frozen? ⟨w.heap.size + 1 + 1, j, none⟩ = false := fun j => (hb.frozen G0.out).trans (fr j)
    have R1 := Lib.hid (R0.out.later hb)
    have G1 : Hid (w.heap.size + 1 + 1 < w1.heap.size) := Nat.lt_of_lt_of_le G0.out hb.size
    clear hb l0 l1 i0 i1 i2 i3 r0 r1 fr B0 R0 G0
    go_wp2
    exact bodyPost_ret (v := .tuple #[.agg #[.int .i64 0, .slice none 0 0], .int .i64 1]) (by simp [results, Try.results7, go_sem, r0_1, r1_1, fr_1]) rfl (GivesAdd.bad 1 HC.out (by decide) ⟨rfl, (B1.out.setCell (by simp; omega) _).setCell (by simp; omega) _⟩)
  · have HC := Lib.hid hC
    rw [hv] at HO
    have hu := layoutB_u hv
    have h12' := layoutB_len hv
    have HI := Lib.hid (fun W' q0 q1 q2 q3 => HIT.out W' q0 q1 q2 q3 (by omega))
    simp only [hi] at HI
    obtain ⟨n, hN⟩ : ∃ n, ds.length = n := ⟨_, rfl⟩
    have HN := Lib.hid hN
    rw [hN] at HF hn eW l1 ⊢ h12'
    clear hv hC hN hs hs1 hc HIT hi
    skip
    go_enter Try.func7, Try.ntmps7
    go_wp2_with fail
    refine (HO.out).mono ?_
    rintro e w1 ⟨rfl, hb⟩
    have B1 := Lib.hid (below_step B0.out hb)
    have l0_1 := cell_kept l0 hb
    have l1_1 := cell_kept l1 hb
    have i0_1 := cell_kept i0 hb
    have i1_1 := cell_kept i1 hb
    have i2_1 := cell_kept i2 hb
    have i3_1 := cell_kept i3 hb
    have r0_1 := cell_kept r0 hb
    have r1_1 := cell_kept r1 hb
    have fr_1 : ∀ j, w1.frozen? ⟨w.heap.size + 1 + 1, j, none⟩ = false := fun j => (hb.frozen G0.out).trans (fr j)
    have R1 := Lib.hid (R0.out.later hb)
    have G1 : Hid (w.heap.size + 1 + 1 < w1.heap.size) := Nat.lt_of_lt_of_le G0.out hb.size
    clear hb l0 l1 i0 i1 i2 i3 r0 r1 fr B0 R0 G0
    go_wp2_with fail
    refine (HI.out _ i0_1 i1_1 i2_1 i3_1).mono ?_
    rintro e w2 ⟨rfl, hb⟩
    have B2 := Lib.hid (below_step B1.out hb)
    have l0_2 := cell_kept l0_1 hb
    have l1_2 := cell_kept l1_1 hb
    have i0_2 := cell_kept i0_1 hb
    have i1_2 := cell_kept i1_1 hb
    have i2_2 := cell_kept i2_1 hb
    have i3_2 := cell_kept i3_1 hb
    have r0_2 := cell_kept r0_1 hb
    have r1_2 := cell_kept r1_1 hb
    have fr_2 : ∀ j, w2.frozen? ⟨w.heap.size + 1 + 1, j, none⟩ = false := fun j => (hb.frozen G1.out).trans (fr_1 j)
    have R2 := Lib.hid (R1.out.later hb)
    have G2 : Hid (w.heap.size + 1 + 1 < w2.heap.size) := Nat.lt_of_lt_of_le G1.out hb.size
    clear hb l0_1 l1_1 i0_1 i1_1 i2_1 i3_1 r0_1 r1_1 fr_1 B1 R1 G1
    go_wp2
    exact bodyPost_ret (v := .tuple #[.agg #[.int .i64 0, .slice none 0 0], .int .i64 2]) (by simp [results, Try.results7, go_sem, r0_2, r1_2, fr_2]) rfl (GivesAdd.bad 2 HC.out (by decide) ⟨rfl, (B2.out.setCell (by simp; omega) _).setCell (by simp; omega) _⟩)
  · have HC := Lib.hid hC
    rw [hv] at HO
    have hu := layoutB_u hv
    have h12' := layoutB_len hv
    have HI := Lib.hid (fun W' q0 q1 q2 q3 => HIT.out W' q0 q1 q2 q3 (by omega))
    simp only [hi] at HI
    obtain ⟨q, hq, hf⟩ : ∃ q : Nat, q < ds.length ∧ firstTo ds nm ds.length = q := by
      rcases firstTo_cases ds nm ds.length with ⟨_, h2⟩ | ⟨q, hq, h1, _⟩
      · rw [hnm] at h2; cases h2
      · exact ⟨q, hq, h1⟩
    rw [hf] at HF
    have hq0 : (0 : Int) ≤ (q : Int) := Int.natCast_nonneg _
    obtain ⟨n, hN⟩ : ∃ n, ds.length = n := ⟨_, rfl⟩
    have HN := Lib.hid hN
    rw [hN] at HF hn eW l1 ⊢ h12'
    clear hv hC hN hs hs1 hc HIT hi hnm hf
    skip
    go_enter Try.func7, Try.ntmps7
    go_wp2_with fail
    refine (HO.out).mono ?_
    rintro e w1 ⟨rfl, hb⟩
    have B1 := Lib.hid (below_step B0.out hb)
    have l0_1 := cell_kept l0 hb
    have l1_1 := cell_kept l1 hb
    have i0_1 := cell_kept i0 hb
    have i1_1 := cell_kept i1 hb
    have i2_1 := cell_kept i2 hb
    have i3_1 := cell_kept i3 hb
    have r0_1 := cell_kept r0 hb
    have r1_1 := cell_kept r1 hb
    have fr_1 : ∀ j, w1.frozen? ⟨w.heap.size + 1 + 1, j, none⟩ = false := fun j => (hb.frozen G0.out).trans (fr j)
    have R1 := Lib.hid (R0.out.later hb)
    have G1 : Hid (w.heap.size + 1 + 1 < w1.heap.size) := Nat.lt_of_lt_of_le G0.out hb.size
    clear hb l0 l1 i0 i1 i2 i3 r0 r1 fr B0 R0 G0
    go_wp2_with fail
    refine (HI.out _ i0_1 i1_1 i2_1 i3_1).mono ?_
    rintro e w2 ⟨rfl, hb⟩
    have B2 := Lib.hid (below_step B1.out hb)
    have l0_2 := cell_kept l0_1 hb
    have l1_2 := cell_kept l1_1 hb
    have i0_2 := cell_kept i0_1 hb
    have i1_2 := cell_kept i1_1 hb
    have i2_2 := cell_kept i2_1 hb
    have i3_2 := cell_kept i3_1 hb
    have r0_2 := cell_kept r0_1 hb
    have r1_2 := cell_kept r1_1 hb
    have fr_2 : ∀ j, w2.frozen? ⟨w.heap.size + 1 + 1, j, none⟩ = false := fun j => (hb.frozen G1.out).trans (fr_1 j)
    have R2 := Lib.hid (R1.out.later hb)
    have G2 : Hid (w.heap.size + 1 + 1 < w2.heap.size) := Nat.lt_of_lt_of_le G1.out hb.size
    clear hb l0_1 l1_1 i0_1 i1_1 i2_1 i3_1 r0_1 r1_1 fr_1 B1 R1 G1
    go_wp2_with fail
    refine (HF.out _ R2.out l1_2).mono ?_
    rintro e w3 ⟨rfl, hb⟩
    have B3 := Lib.hid (below_step B2.out hb)
    have l0_3 := cell_kept l0_2 hb
    have l1_3 := cell_kept l1_2 hb
    have i0_3 := cell_kept i0_2 hb
    have i1_3 := cell_kept i1_2 hb
    have i2_3 := cell_kept i2_2 hb
    have i3_3 := cell_kept i3_2 hb
    have r0_3 := cell_kept r0_2 hb
    have r1_3 := cell_kept r1_2 hb
    have fr_3 : ∀ j, w3.frozen? ⟨w.heap.size + 1 + 1, j, none⟩ = false := fun j => (hb.frozen G2.out).trans (fr_2 j)
    have R3 := Lib.hid (R2.out.later hb)
    have G3 : Hid (w.heap.size + 1 + 1 < w3.heap.size) := Nat.lt_of_lt_of_le G2.out hb.size
    clear hb l0_2 l1_2 i0_2 i1_2 i2_2 i3_2 r0_2 r1_2 fr_2 B2 R2 G2
    go_wp2
    exact bodyPost_ret (v := .tuple #[.agg #[.int .i64 0, .slice none 0 0], .int .i64 4]) (by simp [results, Try.results7, go_sem, r0_3, r1_3, fr_3]) rfl (GivesAdd.bad 4 HC.out (by decide) ⟨rfl, (B3.out.setCell (by simp; omega) _).setCell (by simp; omega) _⟩)
  · have HC := Lib.hid hC
    rw [hv] at HO
    have hu := layoutB_u hv
    have h12' := layoutB_len hv
    have HI := Lib.hid (fun W' q0 q1 q2 q3 => HIT.out W' q0 q1 q2 q3 (by omega))
    simp only [hi] at HI
    have hf : firstTo ds nm ds.length = -1 := by
      rcases firstTo_cases ds nm ds.length with ⟨h1, _⟩ | ⟨q, hq, _, h2⟩
      · exact h1
      · rw [hnm] at h2; cases h2
    rw [hf] at HF
    obtain ⟨n, hN⟩ : ∃ n, ds.length = n := ⟨_, rfl⟩
    have HN := Lib.hid hN
    rw [hN] at HF hn eW l1 ⊢ h12' hm
    have HM := Lib.hid hm
    clear hv hC hN hs hs1 hc HIT hi hnm hf hm
    skip
    go_enter Try.func7, Try.ntmps7
    go_wp2_with fail
    refine (HO.out).mono ?_
    rintro e w1 ⟨rfl, hb⟩
    have B1 := Lib.hid (below_step B0.out hb)
    have l0_1 := cell_kept l0 hb
    have l1_1 := cell_kept l1 hb
    have i0_1 := cell_kept i0 hb
    have i1_1 := cell_kept i1 hb
    have i2_1 := cell_kept i2 hb
    have i3_1 := cell_kept i3 hb
    have r0_1 := cell_kept r0 hb
    have r1_1 := cell_kept r1 hb
    have fr_1 : ∀ j, w1.frozen? ⟨w.heap.size + 1 + 1, j, none⟩ = false := fun j => (hb.frozen G0.out).trans (fr j)
    have R1 := Lib.hid (R0.out.later hb)
    have G1 : Hid (w.heap.size + 1 + 1 < w1.heap.size) := Nat.lt_of_lt_of_le G0.out hb.size
    clear hb l0 l1 i0 i1 i2 i3 r0 r1 fr B0 R0 G0
    go_wp2_with fail
    refine (HI.out _ i0_1 i1_1 i2_1 i3_1).mono ?_
    rintro e w2 ⟨rfl, hb⟩
    have B2 := Lib.hid (below_step B1.out hb)
    have l0_2 := cell_kept l0_1 hb
    have l1_2 := cell_kept l1_1 hb
    have i0_2 := cell_kept i0_1 hb
    have i1_2 := cell_kept i1_1 hb
    have i2_2 := cell_kept i2_1 hb
    have i3_2 := cell_kept i3_1 hb
    have r0_2 := cell_kept r0_1 hb
    have r1_2 := cell_kept r1_1 hb
    have fr_2 : ∀ j, w2.frozen? ⟨w.heap.size + 1 + 1, j, none⟩ = false := fun j => (hb.frozen G1.out).trans (fr_1 j)
    have R2 := Lib.hid (R1.out.later hb)
    have G2 : Hid (w.heap.size + 1 + 1 < w2.heap.size) := Nat.lt_of_lt_of_le G1.out hb.size
    clear hb l0_1 l1_1 i0_1 i1_1 i2_1 i3_1 r0_1 r1_1 fr_1 B1 R1 G1
    go_wp2_with fail
    refine (HF.out _ R2.out l1_2).mono ?_
    rintro e w3 ⟨rfl, hb⟩
    have B3 := Lib.hid (below_step B2.out hb)
    have l0_3 := cell_kept l0_2 hb
    have l1_3 := cell_kept l1_2 hb
    have i0_3 := cell_kept i0_2 hb
    have i1_3 := cell_kept i1_2 hb
    have i2_3 := cell_kept i2_2 hb
    have i3_3 := cell_kept i3_2 hb
    have r0_3 := cell_kept r0_2 hb
    have r1_3 := cell_kept r1_2 hb
    have fr_3 : ∀ j, w3.frozen? ⟨w.heap.size + 1 + 1, j, none⟩ = false := fun j => (hb.frozen G2.out).trans (fr_2 j)
    have R3 := Lib.hid (R2.out.later hb)
    have G3 : Hid (w.heap.size + 1 + 1 < w3.heap.size) := Nat.lt_of_lt_of_le G2.out hb.size
    clear hb l0_2 l1_2 i0_2 i1_2 i2_2 i3_2 r0_2 r1_2 fr_2 B2 R2 G2
    go_wp2
    go_loopw [6] (fun x wr => ∃ k : Nat, k ≤ n ∧ x = .int .i64 k ∧ Hid (meetTo ds f0 f1 k = false) ∧ Hid (Below w3.heap.size w3 wr)) (fun x _ => n - (intOf x).toNat)
    case atStart => exact ⟨0, Nat.zero_le _, rfl, rfl, Below.refl _ _⟩
    case round =>
      obtain ⟨k, hk, rfl, HK, HB⟩ := hrel
      have hk0 : (0 : Int) ≤ (k : Int) := Int.natCast_nonneg _
      have l0_r := cell_kept l0_3 HB.out
      have l1_r := cell_kept l1_3 HB.out
      have i0_r := cell_kept i0_3 HB.out
      have i1_r := cell_kept i1_3 HB.out
      have i2_r := cell_kept i2_3 HB.out
      have i3_r := cell_kept i3_3 HB.out
      have RR := Lib.hid (R3.out.later HB.out)
      by_cases hlt : k < n
      · have hk1 : (k : Int) < (n : Int) := by omega
        obtain ⟨d, hd⟩ : ∃ d, ds[k]? = some d := ⟨ds[k]'(by rw [HN.out]; exact hlt), List.getElem?_eq_getElem _⟩
        obtain ⟨_, _, g2, g3⟩ := itCells_get ds k d hd
        have e2 := RR.out.cell g2
        have e3 := RR.out.cell g3
        have hst := meetTo_step (a := f0) (b := f1) hd
        rw [HK.out, Bool.false_or] at hst
        have hmt := fun W => l04Meet_any d.f0 d.f1 f0 f1 W
        rw [← hst] at hmt
        obtain ⟨r, hr⟩ : ∃ r, meetTo ds f0 f1 (k + 1) = r := ⟨_, rfl⟩
        rw [hr] at hmt
        have HR := Lib.hid hr
        have HMT := Lib.hid hmt
        obtain ⟨a0, ha0⟩ : ∃ a0, d.f0 = a0 := ⟨_, rfl⟩
        obtain ⟨a1, ha1⟩ : ∃ a1, d.f1 = a1 := ⟨_, rfl⟩
        rw [ha0] at e2 HMT
        rw [ha1] at e3 HMT
        have K0 : Hid (Below wr.heap.size wr wr.drew) := Below.drew (Below.refl _ _)
        clear hst hmt hr hd g2 g3 ha0 ha1
        cases r
        · go_wp2_with fail
          go_region_held3 (fun W => W.cell? ⟨w.heap.size, 1, none⟩ = some (.slice (some ⟨ga, 0, none⟩) n c) ∧ W.cell? ⟨ga, k * 4 + 2, none⟩ = some (.int .i64 a0) ∧ W.cell? ⟨ga, k * 4 + 3, none⟩ = some (.int .i64 a1) ∧ W.cell? ⟨w.heap.size + 1, 2, none⟩ = some (.int .i64 f0) ∧ W.cell? ⟨w.heap.size + 1, 3, none⟩ = some (.int .i64 f1))
            (first | exact ⟨l1_r, e2, e3, i2_r, i3_r⟩ | exact ⟨cell_kept l1_r K1.out, cell_kept e2 K1.out, cell_kept e3 K1.out, cell_kept i2_r K1.out, cell_kept i3_r K1.out⟩)
            (first
              | (go_at_call 31
                 refine (HMT.out _).mono ?_
                 rintro e w9 ⟨rfl, hb⟩
                 have K1 : Hid (Below wr.heap.size wr w9) := below_step K0.out hb
                 clear hb))
          have HB9 := Lib.hid (below_step HB.out K1.out)
          clear e2 e3
          go_wp2
          go_roundw
          case rel => exact ⟨k + 1, by omega, by go_num, HR.out, HB9.out⟩
          case measure => simp [intOf]; omega
        · go_wp2_with fail
          go_region_held3 (fun W => W.cell? ⟨w.heap.size, 1, none⟩ = some (.slice (some ⟨ga, 0, none⟩) n c) ∧ W.cell? ⟨ga, k * 4 + 2, none⟩ = some (.int .i64 a0) ∧ W.cell? ⟨ga, k * 4 + 3, none⟩ = some (.int .i64 a1) ∧ W.cell? ⟨w.heap.size + 1, 2, none⟩ = some (.int .i64 f0) ∧ W.cell? ⟨w.heap.size + 1, 3, none⟩ = some (.int .i64 f1))
            (first | exact ⟨l1_r, e2, e3, i2_r, i3_r⟩ | exact ⟨cell_kept l1_r K1.out, cell_kept e2 K1.out, cell_kept e3 K1.out, cell_kept i2_r K1.out, cell_kept i3_r K1.out⟩)
            (first
              | (go_at_call 31
                 refine (HMT.out _).mono ?_
                 rintro e w9 ⟨rfl, hb⟩
                 have K1 : Hid (Below wr.heap.size wr w9) := below_step K0.out hb
                 clear hb))
          have HB9 := Lib.hid (below_step HB.out K1.out)
          have r0_9 := cell_kept r0_3 HB9.out
          have r1_9 := cell_kept r1_3 HB9.out
          have fr_9 : ∀ j, w9.frozen? ⟨w.heap.size + 1 + 1, j, none⟩ = false := fun j => (HB9.out.frozen G3.out).trans (fr_3 j)
          have B9 := Lib.hid (below_step B3.out HB9.out)
          clear e2 e3
          go_wp2
          exact bodyPost_ret (v := .tuple #[.agg #[.int .i64 0, .slice none 0 0], .int .i64 9]) (by simp [results, Try.results7, go_sem, r0_9, r1_9, fr_9]) rfl (GivesAdd.bad 9 HC.out (by decide) ⟨rfl, (B9.out.setCell (by simp; omega) _).setCell (by simp; omega) _⟩)
      · obtain rfl : k = n := by omega
        have hk1 : ¬ (k : Int) < (k : Int) := by omega
        have hh := HK.out
        rw [HM.out] at hh
        cases hh
  · have HC := Lib.hid hC
    rw [hv] at HO
    have hu := layoutB_u hv
    have h12' := layoutB_len hv
    have HI := Lib.hid (fun W' q0 q1 q2 q3 => HIT.out W' q0 q1 q2 q3 (by omega))
    simp only [hi] at HI
    have hf : firstTo ds nm ds.length = -1 := by
      rcases firstTo_cases ds nm ds.length with ⟨h1, _⟩ | ⟨q, hq, _, h2⟩
      · exact h1
      · rw [hnm] at h2; cases h2
    rw [hf] at HF
    obtain ⟨n, hN⟩ : ∃ n, ds.length = n := ⟨_, rfl⟩
    have HN := Lib.hid hN
    rw [hN] at HF hn eW l1 ⊢ h12' hm h12
    have HM := Lib.hid hm
    clear hv hC hN hs hs1 hc HIT hi hnm hf hm
    skip
    go_enter Try.func7, Try.ntmps7
    go_wp2_with fail
    refine (HO.out).mono ?_
    rintro e w1 ⟨rfl, hb⟩
    have B1 := Lib.hid (below_step B0.out hb)
    have l0_1 := cell_kept l0 hb
    have l1_1 := cell_kept l1 hb
    have i0_1 := cell_kept i0 hb
    have i1_1 := cell_kept i1 hb
    have i2_1 := cell_kept i2 hb
    have i3_1 := cell_kept i3 hb
    have r0_1 := cell_kept r0 hb
    have r1_1 := cell_kept r1 hb
    have fr_1 : ∀ j, w1.frozen? ⟨w.heap.size + 1 + 1, j, none⟩ = false := fun j => (hb.frozen G0.out).trans (fr j)
    have R1 := Lib.hid (R0.out.later hb)
    have G1 : Hid (w.heap.size + 1 + 1 < w1.heap.size) := Nat.lt_of_lt_of_le G0.out hb.size
    clear hb l0 l1 i0 i1 i2 i3 r0 r1 fr B0 R0 G0
    go_wp2_with fail
    refine (HI.out _ i0_1 i1_1 i2_1 i3_1).mono ?_
    rintro e w2 ⟨rfl, hb⟩
    have B2 := Lib.hid (below_step B1.out hb)
    have l0_2 := cell_kept l0_1 hb
    have l1_2 := cell_kept l1_1 hb
    have i0_2 := cell_kept i0_1 hb
    have i1_2 := cell_kept i1_1 hb
    have i2_2 := cell_kept i2_1 hb
    have i3_2 := cell_kept i3_1 hb
    have r0_2 := cell_kept r0_1 hb
    have r1_2 := cell_kept r1_1 hb
    have fr_2 : ∀ j, w2.frozen? ⟨w.heap.size + 1 + 1, j, none⟩ = false := fun j => (hb.frozen G1.out).trans (fr_1 j)
    have R2 := Lib.hid (R1.out.later hb)
    have G2 : Hid (w.heap.size + 1 + 1 < w2.heap.size) := Nat.lt_of_lt_of_le G1.out hb.size
    clear hb l0_1 l1_1 i0_1 i1_1 i2_1 i3_1 r0_1 r1_1 fr_1 B1 R1 G1
    go_wp2_with fail
    refine (HF.out _ R2.out l1_2).mono ?_
    rintro e w3 ⟨rfl, hb⟩
    have B3 := Lib.hid (below_step B2.out hb)
    have l0_3 := cell_kept l0_2 hb
    have l1_3 := cell_kept l1_2 hb
    have i0_3 := cell_kept i0_2 hb
    have i1_3 := cell_kept i1_2 hb
    have i2_3 := cell_kept i2_2 hb
    have i3_3 := cell_kept i3_2 hb
    have r0_3 := cell_kept r0_2 hb
    have r1_3 := cell_kept r1_2 hb
    have fr_3 : ∀ j, w3.frozen? ⟨w.heap.size + 1 + 1, j, none⟩ = false := fun j => (hb.frozen G2.out).trans (fr_2 j)
    have R3 := Lib.hid (R2.out.later hb)
    have G3 : Hid (w.heap.size + 1 + 1 < w3.heap.size) := Nat.lt_of_lt_of_le G2.out hb.size
    clear hb l0_2 l1_2 i0_2 i1_2 i2_2 i3_2 r0_2 r1_2 fr_2 B2 R2 G2
    go_wp2
    go_loopw [6] (fun x wr => ∃ k : Nat, k ≤ n ∧ x = .int .i64 k ∧ Hid (meetTo ds f0 f1 k = false) ∧ Hid (Below w3.heap.size w3 wr)) (fun x _ => n - (intOf x).toNat)
    case atStart => exact ⟨0, Nat.zero_le _, rfl, rfl, Below.refl _ _⟩
    case round =>
      obtain ⟨k, hk, rfl, HK, HB⟩ := hrel
      have hk0 : (0 : Int) ≤ (k : Int) := Int.natCast_nonneg _
      have l0_r := cell_kept l0_3 HB.out
      have l1_r := cell_kept l1_3 HB.out
      have i0_r := cell_kept i0_3 HB.out
      have i1_r := cell_kept i1_3 HB.out
      have i2_r := cell_kept i2_3 HB.out
      have i3_r := cell_kept i3_3 HB.out
      have RR := Lib.hid (R3.out.later HB.out)
      by_cases hlt : k < n
      · have hk1 : (k : Int) < (n : Int) := by omega
        obtain ⟨d, hd⟩ : ∃ d, ds[k]? = some d := ⟨ds[k]'(by rw [HN.out]; exact hlt), List.getElem?_eq_getElem _⟩
        obtain ⟨_, _, g2, g3⟩ := itCells_get ds k d hd
        have e2 := RR.out.cell g2
        have e3 := RR.out.cell g3
        have hst := meetTo_step (a := f0) (b := f1) hd
        rw [HK.out, Bool.false_or] at hst
        have hmt := fun W => l04Meet_any d.f0 d.f1 f0 f1 W
        rw [← hst] at hmt
        obtain ⟨r, hr⟩ : ∃ r, meetTo ds f0 f1 (k + 1) = r := ⟨_, rfl⟩
        rw [hr] at hmt
        have HR := Lib.hid hr
        have HMT := Lib.hid hmt
        obtain ⟨a0, ha0⟩ : ∃ a0, d.f0 = a0 := ⟨_, rfl⟩
        obtain ⟨a1, ha1⟩ : ∃ a1, d.f1 = a1 := ⟨_, rfl⟩
        rw [ha0] at e2 HMT
        rw [ha1] at e3 HMT
        have K0 : Hid (Below wr.heap.size wr wr.drew) := Below.drew (Below.refl _ _)
        clear hst hmt hr hd g2 g3 ha0 ha1
        obtain rfl : r = false := by
          cases r with
          | false => rfl
          | true => have := meetTo_true HR.out (Nat.succ_le_of_lt hlt); rw [HM.out] at this; cases this
        go_wp2_with fail
        go_region_held3 (fun W => W.cell? ⟨w.heap.size, 1, none⟩ = some (.slice (some ⟨ga, 0, none⟩) n c) ∧ W.cell? ⟨ga, k * 4 + 2, none⟩ = some (.int .i64 a0) ∧ W.cell? ⟨ga, k * 4 + 3, none⟩ = some (.int .i64 a1) ∧ W.cell? ⟨w.heap.size + 1, 2, none⟩ = some (.int .i64 f0) ∧ W.cell? ⟨w.heap.size + 1, 3, none⟩ = some (.int .i64 f1))
          (first | exact ⟨l1_r, e2, e3, i2_r, i3_r⟩ | exact ⟨cell_kept l1_r K1.out, cell_kept e2 K1.out, cell_kept e3 K1.out, cell_kept i2_r K1.out, cell_kept i3_r K1.out⟩)
          (first
            | (go_at_call 31
               refine (HMT.out _).mono ?_
               rintro e w9 ⟨rfl, hb⟩
               have K1 : Hid (Below wr.heap.size wr w9) := below_step K0.out hb
               clear hb))
        have HB9 := Lib.hid (below_step HB.out K1.out)
        clear e2 e3
        go_wp2
        go_roundw
        case rel => exact ⟨k + 1, by omega, by go_num, HR.out, HB9.out⟩
        case measure => simp [intOf]; omega
      · obtain rfl : k = n := by omega
        have hk1 : ¬ (k : Int) < (k : Int) := by omega
        have r0_r := cell_kept r0_3 HB.out
        have r1_r := cell_kept r1_3 HB.out
        have fr_r : ∀ j, wr.frozen? ⟨w.heap.size + 1 + 1, j, none⟩ = false := fun j => (HB.out.frozen G3.out).trans (fr_3 j)
        have BR := Lib.hid (below_step B3.out HB.out)
        have GR : Hid (w.heap.size + 1 + 1 < wr.heap.size) := Nat.lt_of_lt_of_le G3.out HB.out.size
        have hk12 : (12 : Int) ≤ (k : Int) := by omega
        go_wp2
        exact bodyPost_ret (v := .tuple #[.agg #[.int .i64 0, .slice none 0 0], .int .i64 5]) (by simp [results, Try.results7, go_sem, r0_r, r1_r, fr_r]) rfl (GivesAdd.bad 5 HC.out (by decide) ⟨rfl, (BR.out.setCell (by simp; omega) _).setCell (by simp; omega) _⟩)
  · have HC := Lib.hid hC
    rw [hv] at HO
    have hu := layoutB_u hv
    have h12' := layoutB_len hv
    have HI := Lib.hid (fun W' q0 q1 q2 q3 => HIT.out W' q0 q1 q2 q3 (by omega))
    simp only [hi] at HI
    have hf : firstTo ds nm ds.length = -1 := by
      rcases firstTo_cases ds nm ds.length with ⟨h1, _⟩ | ⟨q, hq, _, h2⟩
      · exact h1
      · rw [hnm] at h2; cases h2
    rw [hf] at HF
    obtain ⟨n, hN⟩ : ∃ n, ds.length = n := ⟨_, rfl⟩
    have HN := Lib.hid hN
    rw [hN] at HF hn eW l1 ⊢ h12' hm h12
    have HM := Lib.hid hm
    clear hv hC hN hs hs1 hc HIT hi hnm hf hm
    skip
    go_enter Try.func7, Try.ntmps7
    go_wp2_with fail
    refine (HO.out).mono ?_
    rintro e w1 ⟨rfl, hb⟩
    have B1 := Lib.hid (below_step B0.out hb)
    have l0_1 := cell_kept l0 hb
    have l1_1 := cell_kept l1 hb
    have i0_1 := cell_kept i0 hb
    have i1_1 := cell_kept i1 hb
    have i2_1 := cell_kept i2 hb
    have i3_1 := cell_kept i3 hb
    have r0_1 := cell_kept r0 hb
    have r1_1 := cell_kept r1 hb
    have fr_1 : ∀ j, w1.frozen? ⟨w.heap.size + 1 + 1, j, none⟩ = false := fun j => (hb.frozen G0.out).trans (fr j)
    have R1 := Lib.hid (R0.out.later hb)
    have G1 : Hid (w.heap.size + 1 + 1 < w1.heap.size) := Nat.lt_of_lt_of_le G0.out hb.size
    clear hb l0 l1 i0 i1 i2 i3 r0 r1 fr B0 R0 G0
    go_wp2_with fail
    refine (HI.out _ i0_1 i1_1 i2_1 i3_1).mono ?_
    rintro e w2 ⟨rfl, hb⟩
    have B2 := Lib.hid (below_step B1.out hb)
    have l0_2 := cell_kept l0_1 hb
    have l1_2 := cell_kept l1_1 hb
    have i0_2 := cell_kept i0_1 hb
    have i1_2 := cell_kept i1_1 hb
    have i2_2 := cell_kept i2_1 hb
    have i3_2 := cell_kept i3_1 hb
    have r0_2 := cell_kept r0_1 hb
    have r1_2 := cell_kept r1_1 hb
    have fr_2 : ∀ j, w2.frozen? ⟨w.heap.size + 1 + 1, j, none⟩ = false := fun j => (hb.frozen G1.out).trans (fr_1 j)
    have R2 := Lib.hid (R1.out.later hb)
    have G2 : Hid (w.heap.size + 1 + 1 < w2.heap.size) := Nat.lt_of_lt_of_le G1.out hb.size
    clear hb l0_1 l1_1 i0_1 i1_1 i2_1 i3_1 r0_1 r1_1 fr_1 B1 R1 G1
    go_wp2_with fail
    refine (HF.out _ R2.out l1_2).mono ?_
    rintro e w3 ⟨rfl, hb⟩
    have B3 := Lib.hid (below_step B2.out hb)
    have l0_3 := cell_kept l0_2 hb
    have l1_3 := cell_kept l1_2 hb
    have i0_3 := cell_kept i0_2 hb
    have i1_3 := cell_kept i1_2 hb
    have i2_3 := cell_kept i2_2 hb
    have i3_3 := cell_kept i3_2 hb
    have r0_3 := cell_kept r0_2 hb
    have r1_3 := cell_kept r1_2 hb
    have fr_3 : ∀ j, w3.frozen? ⟨w.heap.size + 1 + 1, j, none⟩ = false := fun j => (hb.frozen G2.out).trans (fr_2 j)
    have R3 := Lib.hid (R2.out.later hb)
    have G3 : Hid (w.heap.size + 1 + 1 < w3.heap.size) := Nat.lt_of_lt_of_le G2.out hb.size
    clear hb l0_2 l1_2 i0_2 i1_2 i2_2 i3_2 r0_2 r1_2 fr_2 B2 R2 G2
    go_wp2
    go_loopw [6] (fun x wr => ∃ k : Nat, k ≤ n ∧ x = .int .i64 k ∧ Hid (meetTo ds f0 f1 k = false) ∧ Hid (Below w3.heap.size w3 wr)) (fun x _ => n - (intOf x).toNat)
    case atStart => exact ⟨0, Nat.zero_le _, rfl, rfl, Below.refl _ _⟩
    case round =>
      obtain ⟨k, hk, rfl, HK, HB⟩ := hrel
      have hk0 : (0 : Int) ≤ (k : Int) := Int.natCast_nonneg _
      have l0_r := cell_kept l0_3 HB.out
      have l1_r := cell_kept l1_3 HB.out
      have i0_r := cell_kept i0_3 HB.out
      have i1_r := cell_kept i1_3 HB.out
      have i2_r := cell_kept i2_3 HB.out
      have i3_r := cell_kept i3_3 HB.out
      have RR := Lib.hid (R3.out.later HB.out)
      by_cases hlt : k < n
      · have hk1 : (k : Int) < (n : Int) := by omega
        obtain ⟨d, hd⟩ : ∃ d, ds[k]? = some d := ⟨ds[k]'(by rw [HN.out]; exact hlt), List.getElem?_eq_getElem _⟩
        obtain ⟨_, _, g2, g3⟩ := itCells_get ds k d hd
        have e2 := RR.out.cell g2
        have e3 := RR.out.cell g3
        have hst := meetTo_step (a := f0) (b := f1) hd
        rw [HK.out, Bool.false_or] at hst
        have hmt := fun W => l04Meet_any d.f0 d.f1 f0 f1 W
        rw [← hst] at hmt
        obtain ⟨r, hr⟩ : ∃ r, meetTo ds f0 f1 (k + 1) = r := ⟨_, rfl⟩
        rw [hr] at hmt
        have HR := Lib.hid hr
        have HMT := Lib.hid hmt
        obtain ⟨a0, ha0⟩ : ∃ a0, d.f0 = a0 := ⟨_, rfl⟩
        obtain ⟨a1, ha1⟩ : ∃ a1, d.f1 = a1 := ⟨_, rfl⟩
        rw [ha0] at e2 HMT
        rw [ha1] at e3 HMT
        have K0 : Hid (Below wr.heap.size wr wr.drew) := Below.drew (Below.refl _ _)
        clear hst hmt hr hd g2 g3 ha0 ha1
        obtain rfl : r = false := by
          cases r with
          | false => rfl
          | true => have := meetTo_true HR.out (Nat.succ_le_of_lt hlt); rw [HM.out] at this; cases this
        go_wp2_with fail
        go_region_held3 (fun W => W.cell? ⟨w.heap.size, 1, none⟩ = some (.slice (some ⟨ga, 0, none⟩) n c) ∧ W.cell? ⟨ga, k * 4 + 2, none⟩ = some (.int .i64 a0) ∧ W.cell? ⟨ga, k * 4 + 3, none⟩ = some (.int .i64 a1) ∧ W.cell? ⟨w.heap.size + 1, 2, none⟩ = some (.int .i64 f0) ∧ W.cell? ⟨w.heap.size + 1, 3, none⟩ = some (.int .i64 f1))
          (first | exact ⟨l1_r, e2, e3, i2_r, i3_r⟩ | exact ⟨cell_kept l1_r K1.out, cell_kept e2 K1.out, cell_kept e3 K1.out, cell_kept i2_r K1.out, cell_kept i3_r K1.out⟩)
          (first
            | (go_at_call 31
               refine (HMT.out _).mono ?_
               rintro e w9 ⟨rfl, hb⟩
               have K1 : Hid (Below wr.heap.size wr w9) := below_step K0.out hb
               clear hb))
        have HB9 := Lib.hid (below_step HB.out K1.out)
        clear e2 e3
        go_wp2
        go_roundw
        case rel => exact ⟨k + 1, by omega, by go_num, HR.out, HB9.out⟩
        case measure => simp [intOf]; omega
      · obtain rfl : k = n := by omega
        have hk1 : ¬ (k : Int) < (k : Int) := by omega
        have r0_r := cell_kept r0_3 HB.out
        have r1_r := cell_kept r1_3 HB.out
        have fr_r : ∀ j, wr.frozen? ⟨w.heap.size + 1 + 1, j, none⟩ = false := fun j => (HB.out.frozen G3.out).trans (fr_3 j)
        have BR := Lib.hid (below_step B3.out HB.out)
        have GR : Hid (w.heap.size + 1 + 1 < wr.heap.size) := Nat.lt_of_lt_of_le G3.out HB.out.size
        have hk12 : ¬ (12 : Int) ≤ (k : Int) := by omega
        obtain ⟨t0, hi0, hz0, hz1, hz2⟩ := info_parts info_item
        have HLC := Lib.hid ((itCells_length ds).trans (by rw [HN.out]) : (itCells ds).length = k * 4)
        have H1 := Lib.hid (itCells_one ds)
        have h63 : 0 + k ≤ maxLen := by unfold maxLen; omega
        have hby : (0 + k) * 40 ≤ 140737488355328 := by omega
        have BD : Hid (Below wr.heap.size wr wr.drew) := Below.drew (Below.refl _ _)
        have RD : Hid (IRow wr.drew ga ds []) := RR.out.drew
        have HLT : Hid (w.heap.size < wr.heap.size) := by have := GR.out; show _ < _; omega
        go_upto_region 14 with fail
        go_cut [7] (fun s7 wx => LayLaid u k ds wr s7 wx)
        case first =>
          go_region_held3 (fun W => W.cell? ⟨w.heap.size, 0, none⟩ = some (.int .i64 u) ∧ W.cell? ⟨w.heap.size, 1, none⟩ = some (.slice (some ⟨ga, 0, none⟩) k c))
            (first | exact ⟨l0_9, l1_9⟩ | exact ⟨l0_r, l1_r⟩ | exact ⟨keep_two l0_9 (Nat.ne_of_lt HLT.out), keep_two l1_9 (Nat.ne_of_lt HLT.out)⟩ | exact ⟨keep_two l0_9 (Nat.ne_of_lt (Nat.lt_succ_of_lt HLT.out)), keep_two l1_9 (Nat.ne_of_lt (Nat.lt_succ_of_lt HLT.out))⟩ | exact ⟨keep_two (cell_kept l0_9 (below_box _ _)) (Nat.ne_of_lt (Nat.lt_of_lt_of_le HLT.out HB9.out.size)), keep_two (cell_kept l1_9 (below_box _ _)) (Nat.ne_of_lt (Nat.lt_of_lt_of_le HLT.out HB9.out.size))⟩ | go_keep)
            (first
              | (refine step_append_own _ rfl _ _ 31 rfl wr.heap.size 39 t0 _ 4 40 Try.underlying31 hi0 hz0 hz1 hz2 rfl (by decide) _ 0 (itCells []) rfl (room_first wr wr.drew (Nat.le_refl _)) ⟨ga, 0, none⟩ k c (itCells ds) rfl HLC.out (RD.out.alloc _).news H1.out h63 hby (BD.out.alloc (Nat.le_refl _) _).size ?_
                 intro v' w9 hown hgrow hiff
                 obtain ⟨gq, cq, rfl⟩ := item_shape hown hiff (some_ne_nil _ _ _)
                 have l0_9 := own_cell hgrow (room_first wr wr.drew (Nat.le_refl _)) (cell_kept l0_r (BD.out.alloc (Nat.le_refl _) _)) HLT.out
                 have l1_9 := own_cell hgrow (room_first wr wr.drew (Nat.le_refl _)) (cell_kept l1_r (BD.out.alloc (Nat.le_refl _) _)) HLT.out
                 have HO9 := Lib.hid hown
                 have HG9 := Lib.hid hgrow
                 have HB9 := Lib.hid ((BD.out.alloc (Nat.le_refl _) _).grown hgrow (BD.out.alloc (Nat.le_refl _) _).size (fun k hk => ((room_first wr wr.drew (Nat.le_refl _)).lt k hk).1))
                 clear hown hgrow hiff)
              | (refine step_append_own _ rfl _ _ 31 rfl wr.heap.size 39 t0 _ 4 40 Try.underlying31 hi0 hz0 hz1 hz2 rfl (by decide) _ 0 (itCells []) rfl (room_second wr) ⟨ga, 0, none⟩ k c (itCells ds) rfl HLC.out ((RD.out.alloc (.cells #[.int .i64 0, .slice none 0 0] 33)).alloc _).news H1.out h63 hby ((BD.out.alloc (Nat.le_refl _) (.cells #[.int .i64 0, .slice none 0 0] 33)).alloc (below_box wr.drew _).size _).size ?_
                 intro v' w9 hown hgrow hiff
                 obtain ⟨gq, cq, rfl⟩ := item_shape hown hiff (some_ne_nil _ _ _)
                 have l0_9 := own_cell hgrow (room_second wr) (cell_kept l0_r ((BD.out.alloc (Nat.le_refl _) (.cells #[.int .i64 0, .slice none 0 0] 33)).alloc (below_box wr.drew _).size _)) HLT.out
                 have l1_9 := own_cell hgrow (room_second wr) (cell_kept l1_r ((BD.out.alloc (Nat.le_refl _) (.cells #[.int .i64 0, .slice none 0 0] 33)).alloc (below_box wr.drew _).size _)) HLT.out
                 obtain ⟨q0, q1, qf, QH⟩ := lay_order2 wr w9 hgrow
                 have HO9 := Lib.hid hown
                 have HG9 := Lib.hid hgrow
                 have HB9 := Lib.hid (((BD.out.alloc (Nat.le_refl _) (.cells #[.int .i64 0, .slice none 0 0] 33)).alloc (below_box wr.drew _).size _).grown hgrow ((BD.out.alloc (Nat.le_refl _) (.cells #[.int .i64 0, .slice none 0 0] 33)).alloc (below_box wr.drew _).size _).size (fun k hk => ((room_second wr).lt k hk).1))
                 clear hown hgrow hiff)
              | (refine step_append_own _ rfl _ _ 31 rfl wr.heap.size 39 t0 _ 4 40 Try.underlying31 hi0 hz0 hz1 hz2 rfl (by decide) _ 0 (itCells []) rfl ((room_first wr wr.drew (Nat.le_refl _)).alloc (.cells #[.int .i64 0, .slice none 0 0] 33)) ⟨ga, 0, none⟩ k c (itCells ds) rfl HLC.out ((RD.out.alloc (.cells #[] 39)).alloc (.cells #[.int .i64 0, .slice none 0 0] 33)).news H1.out h63 hby ((BD.out.alloc (Nat.le_refl _) (.cells #[] 39)).alloc (below_box wr.drew _).size (.cells #[.int .i64 0, .slice none 0 0] 33)).size ?_
                 intro v' w9 hown hgrow hiff
                 obtain ⟨gq, cq, rfl⟩ := item_shape hown hiff (some_ne_nil _ _ _)
                 have l0_9 := own_cell hgrow ((room_first wr wr.drew (Nat.le_refl _)).alloc (.cells #[.int .i64 0, .slice none 0 0] 33)) (cell_kept l0_r ((BD.out.alloc (Nat.le_refl _) (.cells #[] 39)).alloc (below_box wr.drew _).size (.cells #[.int .i64 0, .slice none 0 0] 33))) HLT.out
                 have l1_9 := own_cell hgrow ((room_first wr wr.drew (Nat.le_refl _)).alloc (.cells #[.int .i64 0, .slice none 0 0] 33)) (cell_kept l1_r ((BD.out.alloc (Nat.le_refl _) (.cells #[] 39)).alloc (below_box wr.drew _).size (.cells #[.int .i64 0, .slice none 0 0] 33))) HLT.out
                 obtain ⟨q0, q1, qf, QH⟩ := lay_order3 wr w9 hgrow
                 have HO9 := Lib.hid hown
                 have HG9 := Lib.hid hgrow
                 have HB9 := Lib.hid (((BD.out.alloc (Nat.le_refl _) (.cells #[] 39)).alloc (below_box wr.drew _).size (.cells #[.int .i64 0, .slice none 0 0] 33)).grown hgrow ((BD.out.alloc (Nat.le_refl _) (.cells #[] 39)).alloc (below_box wr.drew _).size (.cells #[.int .i64 0, .slice none 0 0] 33)).size (fun k hk => (((room_first wr wr.drew (Nat.le_refl _)).alloc (.cells #[.int .i64 0, .slice none 0 0] 33)).lt k hk).1))
                 clear hown hgrow hiff))
          all_goals
            go_wp2_with fail
            go_meet
            have ho := HO9.out
            rw [Nat.zero_add] at ho
            first
              | exact lay_mk (Nat.le_refl _) QH.out ho HB9.out
              | exact lay_mk (Nat.le_succ _) QH.out ho HB9.out
              | exact lay_mk2 ho HB9.out
        case rest =>
          obtain ⟨pb, gq, cq, rfl, hpb, c0, c1, fp, ho, ⟨arr, harr⟩, hb⟩ := hcut
          rename World => wz
          have HO := Lib.hid ho
          have HARR := Lib.hid harr
          have i0_z := cell_kept i0_r hb
          have i1_z := cell_kept i1_r hb
          have i2_z := cell_kept i2_r hb
          have i3_z := cell_kept i3_r hb
          have r0_z := cell_kept r0_r hb
          have r1_z := cell_kept r1_r hb
          have fr_z : ∀ j, wz.frozen? ⟨w.heap.size + 1 + 1, j, none⟩ = false := fun j => (hb.frozen GR.out).trans (fr_r j)
          have BZ := Lib.hid (below_step BR.out hb)
          have hsz := hb.size
          have hne := own_ne ho harr
          have hnr : gq ≠ w.heap.size + 1 + 1 := by have := (ho.lt gq rfl).1; have := GR.out; omega
          have hgr := GR.out
          have hpbz : pb < wz.heap.size := World.block_lt_of_cell? _ _ c0
          have e63 : k + 1 ≤ maxLen := by unfold maxLen; omega
          have eby : (k + 1) * 40 ≤ 140737488355328 := by omega
          clear hb ho harr l0_r l1_r i0_r i1_r i2_r i3_r r0_r r1_r fr_r BR RR HK HB
          go_wp2_with (at_builtin; refine wpList_append_own _ rfl _ _ 31 rfl wr.heap.size 39 t0 _ 4 40 Try.underlying31 hi0 hz0 hz1 hz2 rfl (by decide) _ _ _ rfl (HO.out.alloc _) ⟨wz.heap.size, 0, none⟩ 1 1 [.string nm, .int .i64 kd, .int .i64 f0, .int .i64 f1] rfl rfl ?c1 ?c2 ?c3 ?c4 ?c5 ?_; rotate_left 5; intro v' w9 hown hgrow hiff; obtain ⟨g9, c9, rfl⟩ := item_shape hown hiff (some_ne_nil _ _ _); have p0_9 := far_cell hgrow hne c0; have p1_9 := far_cell hgrow hne c1; have fp_9 : ∀ j, w9.frozen? ⟨pb, j, none⟩ = false := fun j => far_frozen hgrow hne hpbz (fp j); have r0_9 := far_cell hgrow (hnr) r0_z; have r1_9 := far_cell hgrow (hnr) r1_z; have fr_9 : ∀ j, w9.frozen? ⟨w.heap.size + 1 + 1, j, none⟩ = false := fun j => far_frozen hgrow hnr (Nat.lt_of_lt_of_le GR.out hsz) (fr_z j); have HO9 := Lib.hid hown; have HA9 := Lib.hid ((far_block hgrow hne hpbz).trans HARR.out); have B9 := Lib.hid ((BZ.out.alloc BZ.out.size _).grown hgrow (by simp; omega) (fun k hk => by have := (HO.out.lt k hk).1; omega)); clear hown hgrow hiff)
          case c2 => exact ⟨rfl, rfl, rfl, rfl⟩
          case c5 => first | omega | (simp; omega)
          have ho9 := HO9.out
          have hcell : itCells ds ++ [.string nm, .int .i64 kd, .int .i64 f0, .int .i64 f1] = itCells (ds ++ [⟨nm, kd, f0, f1⟩]) := by rw [itCells_append]; rfl
          rw [hcell] at ho9
          obtain ⟨g', cap', ex', hv', hg', hrow⟩ := owned_items ho9 (Nat.succ_pos _) (by simp [HN.out])
          have hl' : (ds ++ [(⟨nm, kd, f0, f1⟩ : It)]).length = k + 1 := by simp [HN.out]
          obtain ⟨rfl, rfl⟩ : g9 = g' ∧ c9 = cap' := by injection hv' with h1 h2 h3; injection h1 with h1; injection h1 with h1; exact ⟨h1, h3⟩
          have hnp : g9 ≠ pb := own_ne ho9 HA9.out
          have hnr9 : g9 ≠ w.heap.size + 1 + 1 := by omega
          exact bodyPost_ret (v := .tuple #[.agg #[.int .i64 u, .slice (some ⟨g9, 0, none⟩) (k + 1) c9], .int .i64 0]) (by simp [results, Try.results7, go_sem, r0_9, r1_9, fr_9, p0_9, p1_9, fp_9]) rfl (GivesAdd.good HC.out ⟨g9, c9, ex', by rw [hl'], by omega, (((B9.out.setCell (by simp; omega) _).setCell (by simp; omega) _).setCell (by simp; omega) _), ((hrow.far hnp _).far hnr9 _).far hnr9 _⟩)
end Go.Proofs.Ytngbmkbilopddaa
