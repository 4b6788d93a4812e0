/- The ranks by which a deck is sorted: impl.keysOf and what it calls: contracts. -/
import Derived.Test.YtmdamciheekeoaaDoorSortMath
import Derived.Lib.SliceRun
namespace Go.Proofs.YtmdamciheekeoaaDoor
open Go.ChangeShapes Go.WideShapes Go.ChangeAt Go.RowKit

theorem info_list : (Tryd.prog.info? 40).map (fun i => (i.zero, i.size, i.bytes)) = some (some (.slice none 0 0), 1, 24) := by kernel_rfl

/-- A list of lists of numbers in memory of its own: the block g of the lists, and for each a block of its own behind it. -/
structure OwnRows (w : World) (g : Nat) (E : List CardV) (n : Nat) : Prop where
  cards : w.heap[g]? = some (.cells (cellsOf E n).toArray 40 (0, 0))
  each : ∀ e ∈ E, ∃ ge, e.at_ = some ⟨ge, 0, none⟩ ∧ g < ge ∧ e.cap = e.xs.length ∧ Row w ge e.xs []

section
variable {w w' : World} {g n : Nat} {E : List CardV}
theorem OwnRows.lt (h : OwnRows w g E n) : g < w.heap.size := by
  rcases Nat.lt_or_ge g w.heap.size with hlt | hge
  · exact hlt
  · have := h.cards
    rw [Array.getElem?_eq_none hge] at this
    cases this
theorem OwnRows.later (h : OwnRows w g E n) (hb : Below w.heap.size w w') : OwnRows w' g E n :=
  ⟨(hb.block g h.lt).trans h.cards, fun e he => by
    obtain ⟨ge, h1, h2, h3, h4⟩ := h.each e he
    exact ⟨ge, h1, h2, h3, h4.later hb⟩⟩
theorem OwnRows.drew (h : OwnRows w g E n) : OwnRows w.drew g E n := ⟨h.cards, fun e he => by
  obtain ⟨ge, h1, h2, h3, h4⟩ := h.each e he
  exact ⟨ge, h1, h2, h3, h4.drew⟩⟩
theorem OwnRows.alloc (h : OwnRows w g E n) (o : Obj) : OwnRows (w.alloc o) g E n := h.later (below_box w o)
theorem OwnRows.cell (h : OwnRows w g E n) (i : Nat) : w.cell? ⟨g, i, none⟩ = (cellsOf E n)[i]? := by
  rw [cell_of_row w g i _ _ _ h.cards]
  simp
theorem OwnRows.frozen (h : OwnRows w g E n) (i : Nat) : w.frozen? ⟨g, i, none⟩ = false := by
  have := h.cards
  simp [World.frozen?, this]
theorem OwnRows.put (h : OwnRows w g E n) (e : CardV) (ge : Nat) (hn : E.length < n) (h1 : e.at_ = some ⟨ge, 0, none⟩) (h2 : g < ge) (h3 : e.cap = e.xs.length) (h4 : Row w ge e.xs []) :
    OwnRows (w.setCell ⟨g, E.length, none⟩ e.value) g (E ++ [e]) n := by
  refine ⟨?_, fun x hx => ?_⟩
  · have hc := h.cards
    simp only [World.setCell, Array.getElem?_modify, if_true, hc, Option.map_some]
    congr 2
    apply Array.ext'
    simp [cellsOf_set E n e hn]
  · rcases List.mem_append.1 hx with hx | hx
    · obtain ⟨gx, a1, a2, a3, a4⟩ := h.each x hx
      exact ⟨gx, a1, a2, a3, a4.far (by show gx ≠ g; omega) _⟩
    · obtain rfl : x = e := by simpa using hx
      exact ⟨ge, h1, h2, h3, h4.far (by show ge ≠ g; omega) _⟩
theorem OwnRows.deck (h : OwnRows w g E E.length) : Deck w w.heap.size (some ⟨g, 0, none⟩) E := fun _ => by
  refine ⟨g, 0, rfl, h.lt, fun i d hi => ?_⟩
  rw [Nat.zero_add, h.cell i, cellsOf_get E _ i d hi]
  obtain ⟨ge, h1, h2, _, h4⟩ := h.each d (List.mem_of_getElem? hi)
  refine ⟨rfl, ?_⟩
  rw [h1]
  exact h4.ints.more h4.lt
end


theorem ranks_any (A : Option Addr) (c : Nat) (ps : List Int) (B : Nat) (w : World) (h : Ints w B A ps) (hB : B ≤ w.heap.size) (hn : ps.length ≤ 1048576) (hP : Places w) :
    Calls Tryd.prog 100 #[.slice A ps.length c] w fun e w' => (textOk ps = false ∧ e = .returned (.tuple #[.slice none 0 0, .bool false]) ∧ Below w.heap.size w w') ∨
      (textOk ps = true ∧ ∃ g, e = .returned (.tuple #[.slice (some ⟨g, 0, none⟩) ps.length ps.length, .bool true]) ∧ w.heap.size ≤ g ∧ Below w.heap.size w w' ∧ Row w' g (ps.map rkI) []) := by
  obtain ⟨n, hN⟩ : ∃ n, ps.length = n := ⟨_, rfl⟩
  have hn' : n ≤ 1048576 := by omega
  have hmk := run_make_row' (P := Tryd.prog) 40 2 (.int .i64 0) 8 Tryd.underlying40 info_int64 rfl .i64 .i64 n (by omega) (by omega)
  have hlm : (ps.map rkI).length = n := by simp [hN]
  obtain ⟨qs, hq⟩ : ∃ qs, ps.map rkI = qs := ⟨_, rfl⟩
  have hqg : ∀ k, k < n → qs[k]?.getD 0 = rkI (ps[k]?.getD 0) := fun k hk => by
    rw [← hq, List.getElem?_map, List.getElem?_eq_getElem (by omega)]
    rfl
  rw [hq] at hlm ⊢
  obtain ⟨r, hr⟩ : ∃ r, textOk ps = r := ⟨_, rfl⟩
  rw [hr, hN]
  have H := Lib.hid h
  have HN := Lib.hid hN
  have HQ := Lib.hid hqg
  have HLM := Lib.hid hlm
  have HR := Lib.hid hr
  have HPL := Lib.hid hP
  have HRI := Lib.hid rankIn_any
  clear h hN hq hqg hlm hr hP
  go_enter Tryd.func100, Tryd.ntmps100
  go_wp2
  clear hmk
  go_loopw [14] (fun i wr => ∃ k : Nat, k ≤ n ∧ i = .int .i64 k ∧ Hid (textOk (ps.take k) = true) ∧ Copied w wr (part qs k)) (fun i _ => n - (intOf i).toNat)
  case atStart =>
    refine ⟨0, Nat.zero_le _, rfl, by show _ = _; simp [textOk], (Below.refl _ _).alloc (Nat.le_refl _) _, by simp, ?_⟩
    rw [madeCells_int, part_zero, HLM.out]
    exact heap_alloc_new w _
  case round =>
    obtain ⟨k, hk, rfl, HT, hc⟩ := hrel
    by_cases hlt : k < n
    · obtain ⟨b, off, rfl, hb, hcell⟩ := (H.out.below (hc.below.mono hB)) (by rw [HN.out]; omega)
      have h1 := hcell k (by rw [HN.out]; exact hlt)
      have hp := part_length qs k (by rw [HLM.out]; exact hk)
      have h2 := hc.row.cell (i := k) (by rw [hp, HLM.out]; omega)
      have h3 := hc.row.frozen k
      obtain ⟨x, hx⟩ : ∃ x, ps[k]?.getD 0 = x := ⟨_, rfl⟩
      rw [hx] at h1
      obtain ⟨u, hu⟩ : ∃ u, charOk x = u := ⟨_, rfl⟩
      have hri := HRI.out x wr (HPL.out.below hc.below)
      rw [hu] at hri
      have HI := Lib.hid hri
      have HX := Lib.hid hx
      have HU := Lib.hid hu
      have HC := Lib.hid hc
      have Hp := Lib.hid hp
      have k0 : (0 : Int) ≤ (k : Int) := Int.natCast_nonneg _
      have k1 : (k : Int) < (n : Int) := by omega
      clear hc hcell H hp hx hu hri hb
      cases u
      · obtain rfl : r = false := by
          rw [← HR.out]
          have hkl : k < ps.length := by rw [HN.out]; exact hlt
          rw [textOk, List.all_eq_false]
          refine ⟨ps[k], List.getElem_mem hkl, ?_⟩
          have := HX.out
          rw [List.getElem?_eq_getElem hkl] at this
          have e : ps[k] = x := this
          rw [e, HU.out]
          simp
        go_wp2_with (go_at_call 108; refine HI.out.mono ?_; rintro e w' ⟨rfl, rfl⟩)
        go_ret2
        exact ⟨rfl, HC.out.below⟩
      · have HT1 : Hid (textOk (ps.take (k + 1)) = true) := by
          show textOk (ps.take (k + 1)) = true
          have hkl : k < ps.length := by rw [HN.out]; exact hlt
          have := HX.out
          rw [List.getElem?_eq_getElem hkl] at this
          have e : ps[k] = x := this
          have h0 := HT.out
          rw [textOk] at h0 ⊢
          rw [List.take_succ_eq_append_getElem hkl, List.all_append, h0, e]
          simp [HU.out]
        obtain ⟨y, hy⟩ : ∃ y, rkI x = y := ⟨_, rfl⟩
        have hy' : qs[k]?.getD 0 = y := by rw [HQ.out k hlt, HX.out, hy]
        rw [hy] at HI
        have HY := Lib.hid hy'
        clear hy hy'
        go_wp2_with (go_at_call 108; refine HI.out.mono ?_; rintro e w' ⟨rfl, rfl⟩)
        go_roundw
        case rel =>
          refine ⟨k + 1, by omega, by go_num, HT1, ?_, ?_, ?_⟩
          · exact HC.out.below.setCell (by simp) _
          · have := HC.out.size
            simpa [World.setCell] using this
          · rw [← part_set qs k (by rw [HLM.out]; exact hlt), HY.out]
            exact HC.out.row.set (by rw [Hp.out, HLM.out]; exact hlt) _
        case measure => simp [intOf]; omega
    · have hkn : k = n := by omega
      have k1 : ¬ (k : Int) < (n : Int) := by omega
      have hpa : part qs k = qs := by rw [hkn, ← HLM.out, part_all]
      rw [hpa] at hc
      obtain rfl : r = true := by
        rw [← HR.out]
        have := HT.out
        rwa [List.take_of_length_le (by rw [HN.out]; omega)] at this
      have HC := Lib.hid hc
      clear hc H hkn hpa
      go_wp2
      go_ret2
      exact ⟨w.heap.size, rfl, Nat.le_refl _, HC.out.below, HC.out.row⟩

/-- slices.Compare of two lists of ranks -/
theorem slicesCompare_any (A A' : Option Addr) (c c' : Nat) (xs ys : List Int) (n B B' : Nat) (w : World) (h : Ints w B A (xs.map rkI)) (h' : Ints w B' A' (ys.map rkI)) (hx : xs.length = n) (hy : ys.length = n) (hn : n ≤ 1048576) :
    Calls Tryd.prog 67 #[.slice A n c, .slice A' n c'] w fun e w' => e = .returned (.int .i64 (cmpTo xs ys n)) ∧ w = w' := by
  obtain ⟨r, hr⟩ : ∃ r, cmpTo xs ys n = r := ⟨_, rfl⟩
  rw [hr]
  have H := Lib.hid h
  have H' := Lib.hid h'
  have HX := Lib.hid hx
  have HY := Lib.hid hy
  have HR := Lib.hid hr
  have HCC := Lib.hid cmpCompare_any
  clear h h' hx hy hr
  go_enter Tryd.func67, Tryd.ntmps67
  go_wp2
  go_loop [11] (fun i => ∃ k : Nat, k ≤ n ∧ i = .int .i64 k ∧ Hid (cmpTo xs ys k = 0)) (fun i => n - (intOf i).toNat)
  case atStart => exact ⟨0, Nat.zero_le _, rfl, rfl⟩
  case round =>
    obtain ⟨k, hk, rfl, HZ⟩ := hrel
    by_cases hlt : k < n
    · obtain ⟨b, off, rfl, hb, hcell⟩ := H.out (by simp [HX.out]; omega)
      obtain ⟨b', off', rfl, hb', hcell'⟩ := H'.out (by simp [HY.out]; omega)
      have hx : k < xs.length := by rw [HX.out]; exact hlt
      have hy : k < ys.length := by rw [HY.out]; exact hlt
      have h1 := hcell k (by simpa using hx)
      have h2 := hcell' k (by simpa using hy)
      rw [List.getElem?_map, List.getElem?_eq_getElem hx] at h1
      rw [List.getElem?_map, List.getElem?_eq_getElem hy] at h2
      have hcs := cmpTo_step xs ys k
      rw [HZ.out, if_neg (by simp), List.getElem?_eq_getElem hx, List.getElem?_eq_getElem hy] at hcs
      simp only [Option.map_some, Option.getD_some] at h1 h2 hcs
      obtain ⟨x, ex⟩ : ∃ x, rkI xs[k] = x := ⟨_, rfl⟩
      obtain ⟨y, ey⟩ : ∃ y, rkI ys[k] = y := ⟨_, rfl⟩
      rw [ex] at h1
      rw [ey] at h2
      rw [ex, ey] at hcs
      obtain ⟨v, ev⟩ : ∃ v, cmpI x y = v := ⟨_, rfl⟩
      have hc := fun W => HCC.out x y W
      simp only [ev] at hc
      rw [ev] at hcs
      have HC := Lib.hid hc
      have HCS := Lib.hid hcs
      have k0 : (0 : Int) ≤ (k : Int) := Int.natCast_nonneg _
      have k1 : (k : Int) < (n : Int) := by omega
      have k2 : ¬ (k : Int) ≥ (n : Int) := by omega
      clear hcell hcell' hc hcs hx hy ex ey ev H H' hb hb'
      by_cases hv : v = 0
      · have HZ1 : Hid (cmpTo xs ys (k + 1) = 0) := by
          show _ = _
          rw [HCS.out, hv]
        have e0 : (v != 0) = false := by simp [hv]
        clear hv
        go_wp2_with (go_at_call 90; refine (HC.out _).mono ?_; rintro e w' ⟨rfl, rfl⟩)
        go_round
        case rel => exact ⟨k + 1, by omega, by go_num, HZ1⟩
        case measure => simp [intOf]; omega
      · obtain rfl : r = v := by
          have := cmpTo_stays xs ys (k + 1) (by rw [HCS.out]; exact hv) (n - (k + 1))
          rw [show k + 1 + (n - (k + 1)) = n by omega, HCS.out] at this
          rw [← HR.out, this]
        have e0 : (r != 0) = true := by simpa using hv
        clear hv
        go_wp2_with (go_at_call 90; refine (HC.out _).mono ?_; rintro e w' ⟨rfl, rfl⟩)
        go_ret
        exact ⟨rfl, rfl⟩
    · have hkn : k = n := by omega
      obtain rfl : r = 0 := by rw [← HR.out, ← hkn]; exact HZ.out
      have k1 : ¬ (k : Int) < (n : Int) := by omega
      clear hkn
      go_wp2
      go_ret
      exact ⟨rfl, rfl⟩
end Go.Proofs.YtmdamciheekeoaaDoor
