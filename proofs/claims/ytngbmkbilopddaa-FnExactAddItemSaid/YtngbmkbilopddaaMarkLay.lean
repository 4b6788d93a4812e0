/- The laws' helpers that write marks into the items of a layout and look for them again do so: contracts of laws.markItemS, heldItemS, markLayout, heldLayout, for at most 1048576 items. -/
import Derived.Test.YtngbmkbilopddaaLayLaw
import Derived.Test.YtngbmkbilopddaaMarkTexts
namespace Go.Proofs.Ytngbmkbilopddaa
open Go.ChangeShapes Go.WideShapes Go.ChangeAt Go.RowKit

/-- the item that the marks from k on make -/
def mitem (k : Nat) : It := ⟨mtext k, (k : Int) + 1, (k : Int) + 1 + 1, (k : Int) + 1 + 1 + 1⟩
def mitems (k n : Nat) : List It := (List.range n).map fun i => mitem (k + i * 4)
theorem mitems_length (k n : Nat) : (mitems k n).length = n := by simp [mitems]
theorem mitems_get (k n i : Nat) (h : i < n) : (mitems k n)[i]? = some (mitem (k + i * 4)) := by simp [mitems, h]
/-- what the items are after j of them were marked -/
def imarked (ds : List It) (k j : Nat) : List It := mitems k j ++ ds.drop j
theorem imarked_length (ds : List It) (k j : Nat) (h : j ≤ ds.length) : (imarked ds k j).length = ds.length := by simp [imarked, mitems]; omega
theorem imarked_all (ds : List It) (k : Nat) : imarked ds k ds.length = mitems k ds.length := by simp [imarked]
theorem imarked_set (ds : List It) (k j : Nat) (h : j < ds.length) : (imarked ds k j).set j (mitem (k + j * 4)) = imarked ds k (j + 1) := by
  apply List.ext_getElem?
  intro i
  have h1 : (mitems k j).length = j := mitems_length k j
  have h2 : (mitems k (j + 1)).length = j + 1 := mitems_length k (j + 1)
  have h3 : j < (imarked ds k j).length := by rw [imarked_length ds k j (by omega)]; exact h
  rw [List.getElem?_set]
  unfold imarked at h3 ⊢
  by_cases hi : j = i
  · subst hi
    rw [if_pos rfl, if_pos h3, List.getElem?_append_left (by omega)]
    simp [mitems]
  · rw [if_neg hi]
    by_cases hlt : i < j
    · rw [List.getElem?_append_left (by omega), List.getElem?_append_left (by omega)]
      simp [mitems, hlt, show i < j + 1 by omega]
    · rw [List.getElem?_append_right (by omega), List.getElem?_append_right (by omega), h1, h2, List.getElem?_drop, List.getElem?_drop]
      congr 1
      omega
theorem itCells_set (d : It) : ∀ (ds : List It) (j : Nat), j < ds.length → itCells (ds.set j d) = (((((itCells ds).set (j * 4) (.string d.name)).set (j * 4 + 1) (.int .i64 d.kind)).set (j * 4 + 2) (.int .i64 d.f0)).set (j * 4 + 3) (.int .i64 d.f1))
  | [], j, h => by simp at h
  | x :: ds, 0, _ => by simp [itCells]
  | x :: ds, j + 1, h => by
    have ih := itCells_set d ds j (by simpa using h)
    have e : ∀ y zs, itCells (y :: zs) = [.string y.name, .int .i64 y.kind, .int .i64 y.f0, .int .i64 y.f1] ++ itCells zs := fun _ _ => rfl
    rw [List.set_cons_succ, e, e, ih, List.set_append_right _ _ (by simp; omega), List.set_append_right _ _ (by simp; omega), List.set_append_right _ _ (by simp; omega), List.set_append_right _ _ (by simp; omega)]
    have e1 : (j + 1) * 4 - 4 = j * 4 := by omega
    have e2 : (j + 1) * 4 + 1 - 4 = j * 4 + 1 := by omega
    have e3 : (j + 1) * 4 + 2 - 4 = j * 4 + 2 := by omega
    have e4 : (j + 1) * 4 + 3 - 4 = j * 4 + 3 := by omega
    simp only [List.length_cons, List.length_nil, Nat.zero_add, Nat.reduceAdd, e1, e2, e3, e4]
theorem IRow.put {w : World} {g : Nat} {ds : List It} {ex : List Value} (h : IRow w g ds ex) {j : Nat} (hj : j < ds.length) (d : It) :
    IRow ((((w.setCell ⟨g, j * 4, none⟩ (.string d.name)).setCell ⟨g, j * 4 + 1, none⟩ (.int .i64 d.kind)).setCell ⟨g, j * 4 + 2, none⟩ (.int .i64 d.f0)).setCell ⟨g, j * 4 + 3, none⟩ (.int .i64 d.f1)) g (ds.set j d) ex := by
  have hl := itCells_length ds
  have e : itCells (ds.set j d) ++ ex = (((((itCells ds ++ ex).set (j * 4) (.string d.name)).set (j * 4 + 1) (.int .i64 d.kind)).set (j * 4 + 2) (.int .i64 d.f0)).set (j * 4 + 3) (.int .i64 d.f1)) := by
    rw [itCells_set d ds j hj, List.set_append_left _ _ (by omega), List.set_append_left _ _ (by rw [List.length_set]; omega), List.set_append_left _ _ (by rw [List.length_set, List.length_set]; omega), List.set_append_left _ _ (by rw [List.length_set, List.length_set, List.length_set]; omega)]
  unfold IRow at h ⊢
  rw [e]
  clear e
  generalize itCells ds ++ ex = l at h ⊢
  simp [World.setCell, Array.getElem?_modify, h]

set_option maxHeartbeats 1000000 in
theorem markItems_any (g c : Nat) (ds : List It) (ex : List Value) (k : Nat) (w : World) (h : IRow w g ds ex) (h0 : 1 ≤ k) (h1 : k ≤ 1073741824) (hn : ds.length ≤ 1048576) :
    Calls Try.prog 39 #[.slice (some ⟨g, 0, none⟩) ds.length c, .int .i64 k] w fun e w' => e = .returned (.int .i64 ((k : Int) + ds.length * 4)) ∧ w.grownBy w' (some g) ∧ IRow w' g (mitems k ds.length) ex := by
  obtain ⟨n, hN⟩ : ∃ n, ds.length = n := ⟨_, rfl⟩
  have H := Lib.hid h
  have HN := Lib.hid hN
  rw [hN] at hn ⊢
  clear h hN
  go_enter Try.func39, Try.ntmps39
  go_wp2
  go_loopw [1, 5] (fun kk i wr => ∃ j q : Nat, j ≤ n ∧ i = .int .i64 j ∧ kk = .int .i64 q ∧ Hid (q = k + j * 4) ∧ Hid (w.grownBy wr (some g)) ∧ Hid (IRow wr g (imarked ds k j) ex)) (fun _ i _ => n - (intOf i).toNat)
  case atStart => exact ⟨0, k, Nat.zero_le _, rfl, rfl, rfl, World.grownBy.refl w _, by simpa [Hid, imarked, mitems] using H.out⟩
  case round =>
    obtain ⟨j, q, hj, rfl, rfl, HQ, HG, HR⟩ := hrel
    have hq1 : 1 ≤ q := by have := HQ.out; omega
    have hq2 : q ≤ 1099511627776 := by have := HQ.out; omega
    by_cases hlt : j < n
    · have hl := imarked_length ds k j (by rw [HN.out]; exact hj)
      obtain ⟨u, hu⟩ : ∃ u, (imarked ds k j)[j]? = some u := ⟨(imarked ds k j)[j]'(by rw [hl, HN.out]; exact hlt), List.getElem?_eq_getElem _⟩
      obtain ⟨g0, g1, g2, g3⟩ := itCells_get _ _ _ hu
      have HL := Lib.hid (hl.trans HN.out)
      have HC := Lib.hid (markText_any q wr hq1 hq2)
      have hk0 : (0 : Int) ≤ (j : Int) := Int.natCast_nonneg _
      have hk1 : (j : Int) < (n : Int) := by omega
      clear hl hu H
      go_wp2_with fail
      refine HC.out.mono ?_
      rintro e w2 ⟨rfl, hb⟩
      have HR2 := Lib.hid (HR.out.later hb)
      have HG2 := Lib.hid (only_step HG.out (only_below hb))
      have x0 := HR2.out.cell g0
      have x1 := HR2.out.cell g1
      have x2 := HR2.out.cell g2
      have x3 := HR2.out.cell g3
      have fz := HR2.out.frozen
      clear hb HC g0 g1 g2 g3
      go_wp2
      go_roundw
      case rel =>
        refine ⟨j + 1, q + 4, by omega, by go_num, by go_num, by have := HQ.out; show _ = _; omega, only_step (only_step (only_step (only_step HG2.out (only_set _ _ _ _)) (only_set _ _ _ _)) (only_set _ _ _ _)) (only_set _ _ _ _), ?_⟩
        have := HR2.out.put (j := j) (by rw [HL.out]; exact hlt) (mitem q)
        rw [HQ.out, imarked_set ds k j (by rw [HN.out]; exact hlt), ← HQ.out] at this
        exact this
      case measure => simp [intOf]; omega
    · have hjn : j = n := by omega
      have hk1 : ¬ (j : Int) < (n : Int) := by omega
      have HQ2 : Hid ((q : Int) = k + n * 4) := by have := HQ.out; show _ = _; omega
      have HR2 : Hid (IRow wr g (mitems k n) ex) := by
        have := HR.out
        rw [hjn, ← HN.out, imarked_all, HN.out] at this
        exact this
      clear hjn H
      go_wp2
      go_ret
      have hq := HQ2.out
      refine ⟨?_, HG.out, HR2.out⟩
      rw [← hq]
      rfl

theorem markLayout_any (g c : Nat) (u : Int) (ds : List It) (ex : List Value) (k : Nat) (w : World) (h : IRow w g ds ex) (h0 : 1 ≤ k) (h1 : k ≤ 1073741824) (hn : ds.length ≤ 1048576) :
    Calls Try.prog 12 #[.agg #[.int .i64 u, .slice (some ⟨g, 0, none⟩) ds.length c], .int .i64 k] w fun e w' => e = .returned (.int .i64 ((k : Int) + ds.length * 4)) ∧ w.grownBy w' (some g) ∧ IRow w' g (mitems k ds.length) ex := by
  have hc := markItems_any g c ds ex k _ (h.alloc (.cells #[.int .i64 u, .slice (some ⟨g, 0, none⟩) ds.length c] 33)) h0 h1 hn
  obtain ⟨n, hN⟩ : ∃ n, ds.length = n := ⟨_, rfl⟩
  rw [hN] at hc hn ⊢
  have HC := Lib.hid hc
  clear hc h hN
  go_enter Try.func12, Try.ntmps12
  go_wp2_with fail
  refine HC.out.mono ?_
  rintro e w' ⟨rfl, hg, hr⟩
  have HG := Lib.hid (only_step (only_box w _ g) hg)
  have HR := Lib.hid hr
  clear hg hr
  go_wp2
  go_ret
  exact ⟨rfl, HG.out, HR.out⟩

theorem markItems_nil (A : Option Addr) (c : Nat) (k : Int) (w : World) :
    Calls Try.prog 39 #[.slice A 0 c, .int .i64 k] w fun e w' => e = .returned (.int .i64 k) ∧ Below w.heap.size w w' := by
  go_enter Try.func39, Try.ntmps39
  go_wp2
  go_loop [1, 5] (fun kk i => i = .int .i64 0 ∧ kk = .int .i64 k) (fun _ _ => 0)
  case atStart => exact ⟨rfl, rfl⟩
  case round =>
    obtain ⟨rfl, rfl⟩ := hrel
    go_wp2
    go_ret
    exact ⟨rfl, Below.refl _ _⟩

theorem markLayout_nil (A : Option Addr) (c : Nat) (u : Int) (k : Int) (w : World) :
    Calls Try.prog 12 #[.agg #[.int .i64 u, .slice A 0 c], .int .i64 k] w fun e w' => e = .returned (.int .i64 k) ∧ Below w.heap.size w w' := by
  have HC := Lib.hid (fun W => markItems_nil A c k W)
  go_enter Try.func12, Try.ntmps12
  go_wp2_with fail
  refine (HC.out _).mono ?_
  rintro e w1 ⟨rfl, hb⟩
  have HB := Lib.hid (below_step (below_box w _) hb)
  clear hb
  go_wp2
  go_ret
  exact ⟨rfl, HB.out⟩
end Go.Proofs.Ytngbmkbilopddaa
