/- slices.Grow and slices.Concat at lists of items: what comes back of a list of items and of one item is their list in new memory, for lists of at most 1048576 items: contracts. -/
import Derived.Test.YtngbmkbilopddaaLayouts
import Derived.Maps.AppendAt
import Derived.Deep.AppendLies
import Derived.Lib.AppendZerosOnto
import Derived.OwnWalk
namespace Go.Proofs.Ytngbmkbilopddaa
open Go.ChangeShapes Go.WideShapes Go.ChangeAt Go.RowKit

theorem itCells_one (ds : List It) : ∀ u ∈ itCells ds, u.oneCell' = true := by
  intro u hu
  rw [itCells, List.mem_flatMap] at hu
  obtain ⟨d, _, hd⟩ := hu
  simp only [List.mem_cons, List.not_mem_nil, or_false] at hd
  rcases hd with rfl | rfl | rfl | rfl <;> rfl
theorem IRow.news {w : World} {g : Nat} {ds : List It} {ex : List Value} (h : IRow w g ds ex) : ∀ j u, (itCells ds)[j]? = some u → w.cell? ((⟨g, 0, none⟩ : Addr).add j) = some u := by
  intro j u hu
  rw [Go.WideShapes.add_plain, Nat.zero_add]
  exact h.cell hu
theorem owned_items {w : World} {base n : Nat} {v : Value} {ds : List It} (h : w.ownsRow base 39 4 v n (itCells ds)) (hn : 0 < n) (hl : ds.length = n) :
    ∃ g cap ex, v = .slice (some ⟨g, 0, none⟩) ds.length cap ∧ base ≤ g ∧ IRow w g ds ex := by
  rcases h.2 with ⟨_, h0⟩ | ⟨g, cap, cur, hv, hb, hh, _, _, _, ht⟩
  · omega
  · refine ⟨g, cap, cur.toList.drop (n * 4), by rw [hl]; exact hv, hb, ?_⟩
    unfold IRow
    rw [hh]
    congr 2
    apply Array.ext'
    rw [← List.take_append_drop (n * 4) cur.toList, ← ht]
    simp
theorem empty_items (w : World) : (w.alloc (.cells #[] 39)).ownsRow w.heap.size 39 4 (.slice (some ⟨w.heap.size, 0, none⟩) 0 0) 0 (itCells []) :=
  ⟨rfl, Or.inr ⟨w.heap.size, 0, #[], rfl, Nat.le_refl _, heap_alloc_new w _, Nat.le_refl _, Nat.zero_le _, rfl, rfl⟩⟩

/-- A list of no items yet, with room of its own. -/
def GivesRoom (w : World) (e : Ending) (w' : World) : Prop :=
  ∃ v, e = .returned v ∧ Below w.heap.size w w' ∧ w'.ownsRow w.heap.size 39 4 v 0 (itCells [])

theorem growItems_any (n : Nat) (w : World) (h0 : 0 < n) (hn : n ≤ 1048577) :
    Calls Try.prog 63 #[.slice none 0 0, .int .i64 n] w (GivesRoom w) := by
  obtain ⟨i0, hi0, hz0, hz1, hz2⟩ := info_parts info_item
  have hs0 : 0 < i0.size := by omega
  have hge := grownCap_ge w n 0 39
  have hle := grownCap_le_maxLen w n 0 39 (by unfold maxLen; omega)
  have hrz : ∃ (G : Nat) (cs : Array Value), n ≤ G ∧ G ≤ maxLen ∧ cs.size = G * 4 ∧ ∀ ty, (Builtin.append_ #[31, 3] ty #[.slice none 0 0, .int .i64 (n : Int)]).run Try.prog w = .ok (.slice (some ⟨w.heap.size, 0, none⟩) n G) (w.drew.alloc (.cells cs 39)) := by
    have h := fun ty => Lib.run_append_grow_zeros w 31 3 ty 39 i0 _ .i64 .i64 Try.underlying31 Try.underlying3 hi0 hz0 none 0 0 [] (run_firstCells_none w.drew i0.size 0 0 0) n h0 hs0 (by omega) (by omega) (by rw [hz2]; omega) (growslice_fits (by omega) (by rw [hz2]; omega))
    simp only [Nat.zero_add] at h
    exact ⟨_, _, hge, hle, by simp [size_zeroCells, Value.cells]; omega, h⟩
  obtain ⟨G, cs, hG1, hG2, hcs, hrun⟩ := hrz
  unfold maxLen at hG2
  have hR := Lib.hid (show (w.drew.alloc (.cells cs 39)).ownsRow w.heap.size 39 4 (.slice (some ⟨w.heap.size, 0, none⟩) 0 G) 0 (itCells []) from ⟨rfl, Or.inr ⟨w.heap.size, G, cs, rfl, Nat.le_refl _, heap_alloc_new w.drew _, Nat.zero_le _, by unfold maxLen; omega, hcs, by simp [itCells]⟩⟩)
  have h1 : ¬ ((n : Int) < 0) := by omega
  have h2 : (0 : Int) < (n : Int) := by omega
  clear hi0 hz0 hz1 hz2 hs0 hge hle hcs
  go_enter Try.func63, Try.ntmps63
  go_wp2_with (at_builtin; refine Lib.wpList_append_run _ rfl _ _ _ _ rfl _ _ rfl rfl _ _ (hrun _) ?_)
  go_ret
  exact ⟨_, rfl, (Below.drew (Below.refl _ _)).alloc (Nat.le_refl _) _, hR.out⟩

/-- A list of items of the call's own. -/
def GivesIts (ys : List It) (w : World) (e : Ending) (w' : World) : Prop :=
  ∃ g cap ex, e = .returned (.slice (some ⟨g, 0, none⟩) ys.length cap) ∧ w.heap.size ≤ g ∧ Below w.heap.size w w' ∧ IRow w' g ys ex

theorem own_size {w w' : World} {x : Option Nat} (h : w.grownBy w' x) : w.heap.size ≤ w'.heap.size := h.size
theorem own_cell {w w' : World} {base n size : Nat} {et : TypeId} {v : Value} {xs : List Value} (hgrow : w.grownBy w' v.ownBlock) (hown : w.ownsRow base et size v n xs) {p : Addr} {u : Value} (hc : w.cell? p = some u) (hp : p.block < base) : w'.cell? p = some u := by
  rw [hgrow.cell_far _ (World.block_lt_of_cell? _ _ hc) (fun e => by have := (hown.lt _ e.symm).1; omega)]
  exact hc

set_option maxHeartbeats 1000000 in
theorem concatItems_any (ga ca g2 g3 : Nat) (ds : List It) (d : It) (ex : List Value) (w : World) (h : IRow w ga ds ex) (h2 : IRow w g2 [d] []) (c0 : w.cell? ⟨g3, 0, none⟩ = some (.slice (some ⟨ga, 0, none⟩) ds.length ca)) (c1 : w.cell? ⟨g3, 1, none⟩ = some (.slice (some ⟨g2, 0, none⟩) 1 1)) (hn : ds.length ≤ 1048576) :
    Calls Try.prog 37 #[.slice (some ⟨g3, 0, none⟩) 2 2] w (GivesIts (ds ++ [d]) w) := by
  obtain ⟨i0, hi0, hz0, hz1, hz2⟩ := info_parts info_item
  have hg := fun W => growItems_any (ds.length + 1) W (by omega) (by omega)
  have hl2 : (ds ++ [d]).length = ds.length + 1 := by simp
  have HLC := Lib.hid (itCells_length ds)
  obtain ⟨n, hN⟩ : ∃ n, ds.length = n := ⟨_, rfl⟩
  rw [hN] at hg hl2 HLC hn c0
  unfold GivesRoom at hg
  simp only [Int.natCast_add, Int.natCast_one] at hg
  have H := Lib.hid h
  have H2 := Lib.hid h2
  have HG := Lib.hid hg
  have HL2 := Lib.hid hl2
  have HAP := Lib.hid (itCells_append ds [d])
  have H1 := Lib.hid (itCells_one ds)
  have H12 := Lib.hid (itCells_one [d])
  clear h h2 hg hl2 hN
  go_enter Try.func37, Try.ntmps37
  go_wp2
  go_loop [3, 11] (fun s i => (i = .int .i64 0 ∧ s = .int .i64 0) ∨ (i = .int .i64 1 ∧ s = .int .i64 n) ∨ (i = .int .i64 2 ∧ s = .int .i64 (n + 1))) (fun _ i => 2 - (intOf i).toNat)
  case atStart => exact Or.inl ⟨rfl, rfl⟩
  case round =>
    rcases hrel with ⟨rfl, rfl⟩ | ⟨rfl, rfl⟩ | ⟨rfl, rfl⟩
    · have hn0 : ¬ ((n : Int) < 0) := by omega
      go_wp2
      go_round
      case rel => exact Or.inr (Or.inl ⟨rfl, by simp⟩)
      case measure => simp [intOf]
    · have hn0 : ¬ ((n : Int) + 1 < 0) := by omega
      go_wp2
      go_round
      case rel => exact Or.inr (Or.inr ⟨rfl, rfl⟩)
      case measure => simp [intOf]
    · go_wp2_with fail
      refine (HG.out _).mono ?_
      rintro e w1 ⟨v, rfl, hb, hown⟩
      have B1 := Lib.hid hb
      have O1 := Lib.hid hown
      have x0 := cell_kept c0 hb
      have x1 := cell_kept c1 hb
      have R1 := Lib.hid (H.out.later hb)
      have R2 := Lib.hid (H2.out.later hb)
      have L0 := Lib.hid (World.block_lt_of_cell? _ _ c0)
      have L1 := Lib.hid H.out.lt
      have L2 := Lib.hid H2.out.lt
      have hg0 : g3 < w.heap.size := L0.out
      have hsz := hb.size
      clear hb hown
      go_wp2
      go_loopw [6, 27] (fun v6 i wr => Hid (Below w.heap.size w wr) ∧ Hid (w1.heap.size ≤ wr.heap.size) ∧ ((i = .int .i64 0 ∧ Hid (wr.ownsRow w.heap.size 39 4 v6 0 (itCells []))) ∨ (i = .int .i64 1 ∧ Hid (wr.ownsRow w.heap.size 39 4 v6 n (itCells ds))) ∨ (i = .int .i64 2 ∧ Hid (wr.ownsRow w.heap.size 39 4 v6 (n + 1) (itCells (ds ++ [d])))))) (fun _ i _ => 2 - (intOf i).toNat)
      case atStart => exact ⟨B1.out, Nat.le_refl _, Or.inl ⟨rfl, O1.out⟩⟩
      case round =>
        obtain ⟨HB, HS, hr⟩ := hrel
        have hss := HS.out
        have y0 := cell_kept c0 HB.out
        have y1 := cell_kept c1 HB.out
        have S1 := Lib.hid (H.out.later HB.out)
        have S2 := Lib.hid (H2.out.later HB.out)
        rcases hr with ⟨rfl, HO⟩ | ⟨rfl, HO⟩ | ⟨rfl, HO⟩
        · go_wp2_with (at_builtin; refine wpList_append_own _ rfl _ _ 31 rfl w.heap.size 39 i0 _ 4 40 Try.underlying31 hi0 hz0 hz1 hz2 rfl (by decide) _ _ _ rfl HO.out ⟨ga, 0, none⟩ n ca (itCells ds) rfl HLC.out S1.out.news H1.out ?c1 ?c2 ?c3 ?_; rotate_left 3; intro v' w9 hown hgrow _; have HO9 := Lib.hid hown; have HB9 := Lib.hid (HB.out.grown hgrow (by omega) (fun k hk => (HO.out.lt k hk).1)); have HS9 := hgrow.size; clear hown hgrow)
          case c1 => unfold maxLen; omega
          case c2 => omega
          case c3 => omega
          go_roundw
          case rel => exact ⟨HB9.out, Nat.le_trans hss HS9, Or.inr (Or.inl ⟨rfl, by simpa [Hid, itCells] using HO9.out⟩)⟩
          case measure => simp [intOf]
        · go_wp2_with (at_builtin; refine wpList_append_own _ rfl _ _ 31 rfl w.heap.size 39 i0 _ 4 40 Try.underlying31 hi0 hz0 hz1 hz2 rfl (by decide) _ _ _ rfl HO.out ⟨g2, 0, none⟩ 1 1 (itCells [d]) rfl rfl S2.out.news H12.out ?c1 ?c2 ?c3 ?_; rotate_left 3; intro v' w9 hown hgrow _; have HO9 := Lib.hid hown; have HB9 := Lib.hid (HB.out.grown hgrow (by omega) (fun k hk => (HO.out.lt k hk).1)); have HS9 := hgrow.size; clear hown hgrow)
          case c1 => unfold maxLen; omega
          case c2 => omega
          case c3 => omega
          go_roundw
          case rel => exact ⟨HB9.out, Nat.le_trans hss HS9, Or.inr (Or.inr ⟨rfl, by have := HO9.out; rw [← HAP.out] at this; exact this⟩)⟩
          case measure => simp [intOf]
        · obtain ⟨g, cap, ex', rfl, hg, hrow⟩ := owned_items HO.out (Nat.succ_pos _) HL2.out
          have HR := Lib.hid hrow
          clear hrow
          go_wp2
          go_ret
          exact ⟨g, cap, ex', rfl, hg, HB.out, HR.out⟩
end Go.Proofs.Ytngbmkbilopddaa
