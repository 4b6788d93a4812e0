/- The ranks by which a deck is sorted: impl.keysOf and what it calls: contracts. -/
import Derived.Test.YtdakbbgbglgioaaDoorH1
import Derived.Lib.SliceRun
import Derived.Test.YtdakbbgbglgioaaDoorH2
import Derived.Test.YtdakbbgbglgioaaDoorLegal
import Derived.Test.YtdakbbgbglgioaaDoorDeckMem
import Derived.Test.YtdakbbgbglgioaaDoorH4
import Derived.Test.YtdakbbgbglgioaaDoorGrow
import Derived.RangeFuncNested
import Derived.RangeFuncBound
import Derived.RangeFuncCalls
import Derived.RangeFuncLeaves
import Derived.Shelf.Abstract
import Derived.Shelf.RegionOpen
import Derived.WalkKit
import Derived.OwnWalkIn
import Derived.TacticsInMore
import Derived.LoopNIn
import Derived.LoopIn
import Derived.Maps.AppendAt
import Derived.RangeFuncBox
namespace Go.Proofs.YtdakbbgbglgioaaDoor
open Go.ChangeShapes Go.WideShapes Go.ChangeAt Go.RowKit

theorem info_list : (Tryd.prog.info? 34).map (fun i => (i.zero, i.size, i.bytes)) = some (some (.slice none 0 0), 1, 24) := by kernel_rfl

/-- A list of lists of numbers in memory of its own: the block g of the lists, and for each a block of its own behind it. -/
structure OwnRows (w : World) (g : Nat) (E : List CardV) (n : Nat) : Prop where
  cards : w.heap[g]? = some (.cells (cellsOf E n).toArray 34 (0, 0))
  each : ∀ e ∈ E, ∃ ge, e.at_ = some ⟨ge, 0, none⟩ ∧ g < ge ∧ e.cap = e.xs.length ∧ Row w ge e.xs []

section
variable {w w' : World} {g n : Nat} {E : List CardV}
theorem OwnRows.lt (h : OwnRows w g E n) : g < w.heap.size := by
  rcases Nat.lt_or_ge g w.heap.size with hlt | hge
  · exact hlt
  · have := h.cards
    rw [Array.getElem?_eq_none hge] at this
    cases this
theorem OwnRows.later (h : OwnRows w g E n) (hb : Below w.heap.size w w') : OwnRows w' g E n :=
  ⟨(hb.block g h.lt).trans h.cards, fun e he => by
    obtain ⟨ge, h1, h2, h3, h4⟩ := h.each e he
    exact ⟨ge, h1, h2, h3, h4.later hb⟩⟩
theorem OwnRows.drew (h : OwnRows w g E n) : OwnRows w.drew g E n := ⟨h.cards, fun e he => by
  obtain ⟨ge, h1, h2, h3, h4⟩ := h.each e he
  exact ⟨ge, h1, h2, h3, h4.drew⟩⟩
theorem OwnRows.alloc (h : OwnRows w g E n) (o : Obj) : OwnRows (w.alloc o) g E n := h.later (below_box w o)
theorem OwnRows.cell (h : OwnRows w g E n) (i : Nat) : w.cell? ⟨g, i, none⟩ = (cellsOf E n)[i]? := by
  rw [cell_of_row w g i _ _ _ h.cards]
  simp
theorem OwnRows.frozen (h : OwnRows w g E n) (i : Nat) : w.frozen? ⟨g, i, none⟩ = false := by
  have := h.cards
  simp [World.frozen?, this]
theorem OwnRows.put (h : OwnRows w g E n) (e : CardV) (ge : Nat) (hn : E.length < n) (h1 : e.at_ = some ⟨ge, 0, none⟩) (h2 : g < ge) (h3 : e.cap = e.xs.length) (h4 : Row w ge e.xs []) :
    OwnRows (w.setCell ⟨g, E.length, none⟩ e.value) g (E ++ [e]) n := by
  refine ⟨?_, fun x hx => ?_⟩
  · have hc := h.cards
    simp only [World.setCell, Array.getElem?_modify, if_true, hc, Option.map_some]
    congr 2
    apply Array.ext'
    simp [cellsOf_set E n e hn]
  · rcases List.mem_append.1 hx with hx | hx
    · obtain ⟨gx, a1, a2, a3, a4⟩ := h.each x hx
      exact ⟨gx, a1, a2, a3, a4.far (by show gx ≠ g; omega) _⟩
    · obtain rfl : x = e := by simpa using hx
      exact ⟨ge, h1, h2, h3, h4.far (by show ge ≠ g; omega) _⟩
theorem OwnRows.deck (h : OwnRows w g E E.length) : Deck w w.heap.size (some ⟨g, 0, none⟩) E := fun _ => by
  refine ⟨g, 0, rfl, h.lt, fun i d hi => ?_⟩
  rw [Nat.zero_add, h.cell i, cellsOf_get E _ i d hi]
  obtain ⟨ge, h1, h2, _, h4⟩ := h.each d (List.mem_of_getElem? hi)
  refine ⟨rfl, ?_⟩
  rw [h1]
  exact h4.ints.more h4.lt
end


theorem ranks_any (A : Option Addr) (c : Nat) (ps : List Int) (B : Nat) (w : World) (h : Ints w B A ps) (hB : B ≤ w.heap.size) (hn : ps.length ≤ 1048576) (hP : Places w) :
    Calls Tryd.prog 88 #[.slice A ps.length c] w fun e w' => (textOk ps = false ∧ e = .returned (.tuple #[.slice none 0 0, .bool false]) ∧ Below w.heap.size w w') ∨
      (textOk ps = true ∧ ∃ g, e = .returned (.tuple #[.slice (some ⟨g, 0, none⟩) ps.length ps.length, .bool true]) ∧ w.heap.size ≤ g ∧ Below w.heap.size w w' ∧ Row w' g (ps.map rkI) []) := by
  obtain ⟨n, hN⟩ : ∃ n, ps.length = n := ⟨_, rfl⟩
  have hn' : n ≤ 1048576 := by omega
  have hmk := run_make_row' (P := Tryd.prog) 34 2 (.int .i64 0) 8 Tryd.underlying34 info_int64 rfl .i64 .i64 n (by omega) (by omega)
  have hlm : (ps.map rkI).length = n := by simp [hN]
  obtain ⟨qs, hq⟩ : ∃ qs, ps.map rkI = qs := ⟨_, rfl⟩
  have hqg : ∀ k, k < n → qs[k]?.getD 0 = rkI (ps[k]?.getD 0) := fun k hk => by
    rw [← hq, List.getElem?_map, List.getElem?_eq_getElem (by omega)]
    rfl
  rw [hq] at hlm ⊢
  obtain ⟨r, hr⟩ : ∃ r, textOk ps = r := ⟨_, rfl⟩
  rw [hr, hN]
  have H := Lib.hid h
  have HN := Lib.hid hN
  have HQ := Lib.hid hqg
  have HLM := Lib.hid hlm
  have HR := Lib.hid hr
  have HPL := Lib.hid hP
  have HRI := Lib.hid rankIn_any
  clear h hN hq hqg hlm hr hP
  go_enter Tryd.func88, Tryd.ntmps88
  go_wp2
  clear hmk
  go_loopw [14] (fun i wr => ∃ k : Nat, k ≤ n ∧ i = .int .i64 k ∧ Hid (textOk (ps.take k) = true) ∧ Copied w wr (part qs k)) (fun i _ => n - (intOf i).toNat)
  case atStart =>
    refine ⟨0, Nat.zero_le _, rfl, by show _ = _; simp [textOk], (Below.refl _ _).alloc (Nat.le_refl _) _, by simp, ?_⟩
    rw [madeCells_int, part_zero, HLM.out]
    exact heap_alloc_new w _
  case round =>
    obtain ⟨k, hk, rfl, HT, hc⟩ := hrel
    by_cases hlt : k < n
    · obtain ⟨b, off, rfl, hb, hcell⟩ := (H.out.below (hc.below.mono hB)) (by rw [HN.out]; omega)
      have h1 := hcell k (by rw [HN.out]; exact hlt)
      have hp := part_length qs k (by rw [HLM.out]; exact hk)
      have h2 := hc.row.cell (i := k) (by rw [hp, HLM.out]; omega)
      have h3 := hc.row.frozen k
      obtain ⟨x, hx⟩ : ∃ x, ps[k]?.getD 0 = x := ⟨_, rfl⟩
      rw [hx] at h1
      obtain ⟨u, hu⟩ : ∃ u, charOk x = u := ⟨_, rfl⟩
      have hri := HRI.out x wr (HPL.out.below hc.below)
      rw [hu] at hri
      have HI := Lib.hid hri
      have HX := Lib.hid hx
      have HU := Lib.hid hu
      have HC := Lib.hid hc
      have Hp := Lib.hid hp
      have k0 : (0 : Int) ≤ (k : Int) := Int.natCast_nonneg _
      have k1 : (k : Int) < (n : Int) := by omega
      clear hc hcell H hp hx hu hri hb
      cases u
      · obtain rfl : r = false := by
          rw [← HR.out]
          have hkl : k < ps.length := by rw [HN.out]; exact hlt
          rw [textOk, List.all_eq_false]
          refine ⟨ps[k], List.getElem_mem hkl, ?_⟩
          have := HX.out
          rw [List.getElem?_eq_getElem hkl] at this
          have e : ps[k] = x := this
          rw [e, HU.out]
          simp
        go_wp2_with (go_at_call 95; refine HI.out.mono ?_; rintro e w' ⟨rfl, rfl⟩)
        go_ret2
        exact ⟨rfl, HC.out.below⟩
      · have HT1 : Hid (textOk (ps.take (k + 1)) = true) := by
          show textOk (ps.take (k + 1)) = true
          have hkl : k < ps.length := by rw [HN.out]; exact hlt
          have := HX.out
          rw [List.getElem?_eq_getElem hkl] at this
          have e : ps[k] = x := this
          have h0 := HT.out
          rw [textOk] at h0 ⊢
          rw [List.take_succ_eq_append_getElem hkl, List.all_append, h0, e]
          simp [HU.out]
        obtain ⟨y, hy⟩ : ∃ y, rkI x = y := ⟨_, rfl⟩
        have hy' : qs[k]?.getD 0 = y := by rw [HQ.out k hlt, HX.out, hy]
        rw [hy] at HI
        have HY := Lib.hid hy'
        clear hy hy'
        go_wp2_with (go_at_call 95; refine HI.out.mono ?_; rintro e w' ⟨rfl, rfl⟩)
        go_roundw
        case rel =>
          refine ⟨k + 1, by omega, by go_num, HT1, ?_, ?_, ?_⟩
          · exact HC.out.below.setCell (by simp) _
          · have := HC.out.size
            simpa [World.setCell] using this
          · rw [← part_set qs k (by rw [HLM.out]; exact hlt), HY.out]
            exact HC.out.row.set (by rw [Hp.out, HLM.out]; exact hlt) _
        case measure => simp [intOf]; omega
    · have hkn : k = n := by omega
      have k1 : ¬ (k : Int) < (n : Int) := by omega
      have hpa : part qs k = qs := by rw [hkn, ← HLM.out, part_all]
      rw [hpa] at hc
      obtain rfl : r = true := by
        rw [← HR.out]
        have := HT.out
        rwa [List.take_of_length_le (by rw [HN.out]; omega)] at this
      have HC := Lib.hid hc
      clear hc H hkn hpa
      go_wp2
      go_ret2
      exact ⟨w.heap.size, rfl, Nat.le_refl _, HC.out.below, HC.out.row⟩

/-- slices.Compare of two lists of ranks -/
theorem slicesCompare_any (A A' : Option Addr) (c c' : Nat) (xs ys : List Int) (n B B' : Nat) (w : World) (h : Ints w B A (xs.map rkI)) (h' : Ints w B' A' (ys.map rkI)) (hx : xs.length = n) (hy : ys.length = n) (hn : n ≤ 1048576) :
    Calls Tryd.prog 59 #[.slice A n c, .slice A' n c'] w fun e w' => e = .returned (.int .i64 (cmpTo xs ys n)) ∧ w = w' := by
  obtain ⟨r, hr⟩ : ∃ r, cmpTo xs ys n = r := ⟨_, rfl⟩
  rw [hr]
  have H := Lib.hid h
  have H' := Lib.hid h'
  have HX := Lib.hid hx
  have HY := Lib.hid hy
  have HR := Lib.hid hr
  have HCC := Lib.hid cmpCompare_any
  clear h h' hx hy hr
  go_enter Tryd.func59, Tryd.ntmps59
  go_wp2
  go_loop [11] (fun i => ∃ k : Nat, k ≤ n ∧ i = .int .i64 k ∧ Hid (cmpTo xs ys k = 0)) (fun i => n - (intOf i).toNat)
  case atStart => exact ⟨0, Nat.zero_le _, rfl, rfl⟩
  case round =>
    obtain ⟨k, hk, rfl, HZ⟩ := hrel
    by_cases hlt : k < n
    · obtain ⟨b, off, rfl, hb, hcell⟩ := H.out (by simp [HX.out]; omega)
      obtain ⟨b', off', rfl, hb', hcell'⟩ := H'.out (by simp [HY.out]; omega)
      have hx : k < xs.length := by rw [HX.out]; exact hlt
      have hy : k < ys.length := by rw [HY.out]; exact hlt
      have h1 := hcell k (by simpa using hx)
      have h2 := hcell' k (by simpa using hy)
      rw [List.getElem?_map, List.getElem?_eq_getElem hx] at h1
      rw [List.getElem?_map, List.getElem?_eq_getElem hy] at h2
      have hcs := cmpTo_step xs ys k
      rw [HZ.out, if_neg (by simp), List.getElem?_eq_getElem hx, List.getElem?_eq_getElem hy] at hcs
      simp only [Option.map_some, Option.getD_some] at h1 h2 hcs
      obtain ⟨x, ex⟩ : ∃ x, rkI xs[k] = x := ⟨_, rfl⟩
      obtain ⟨y, ey⟩ : ∃ y, rkI ys[k] = y := ⟨_, rfl⟩
      rw [ex] at h1
      rw [ey] at h2
      rw [ex, ey] at hcs
      obtain ⟨v, ev⟩ : ∃ v, cmpI x y = v := ⟨_, rfl⟩
      have hc := fun W => HCC.out x y W
      simp only [ev] at hc
      rw [ev] at hcs
      have HC := Lib.hid hc
      have HCS := Lib.hid hcs
      have k0 : (0 : Int) ≤ (k : Int) := Int.natCast_nonneg _
      have k1 : (k : Int) < (n : Int) := by omega
      have k2 : ¬ (k : Int) ≥ (n : Int) := by omega
      clear hcell hcell' hc hcs hx hy ex ey ev H H' hb hb'
      by_cases hv : v = 0
      · have HZ1 : Hid (cmpTo xs ys (k + 1) = 0) := by
          show _ = _
          rw [HCS.out, hv]
        have e0 : (v != 0) = false := by simp [hv]
        clear hv
        go_wp2_with (go_at_call 81; refine (HC.out _).mono ?_; rintro e w' ⟨rfl, rfl⟩)
        go_round
        case rel => exact ⟨k + 1, by omega, by go_num, HZ1⟩
        case measure => simp [intOf]; omega
      · obtain rfl : r = v := by
          have := cmpTo_stays xs ys (k + 1) (by rw [HCS.out]; exact hv) (n - (k + 1))
          rw [show k + 1 + (n - (k + 1)) = n by omega, HCS.out] at this
          rw [← HR.out, this]
        have e0 : (r != 0) = true := by simpa using hv
        clear hv
        go_wp2_with (go_at_call 81; refine (HC.out _).mono ?_; rintro e w' ⟨rfl, rfl⟩)
        go_ret
        exact ⟨rfl, rfl⟩
    · have hkn : k = n := by omega
      obtain rfl : r = 0 := by rw [← HR.out, ← hkn]; exact HZ.out
      have k1 : ¬ (k : Int) < (n : Int) := by omega
      clear hkn
      go_wp2
      go_ret
      exact ⟨rfl, rfl⟩
end Go.Proofs.YtdakbbgbglgioaaDoor

/- impl.keysOf, impl.FirstStep and impl.IsSorted answer for every deck of at most 1048576 cards and columns and every field: contracts. -/
namespace Go.Proofs.YtdakbbgbglgioaaDoor
open Go.ChangeShapes Go.WideShapes Go.ChangeAt Go.RowKit

/-- the ranks of the columns from i to j of each card -/
def rks (H : List (List Int)) (i j : Nat) : List (List Int) := H.map fun xs => (partOf xs i j).map rkI
/-- slices of the ranks -/
def GivesRanks (D : List CardV) (i j n : Nat) (w : World) (e : Ending) (w' : World) : Prop :=
  ∃ g E, e = .returned (.tuple #[.slice (some ⟨g, 0, none⟩) n n, .int .i64 0]) ∧ Below w.heap.size w w' ∧ holes E = rks (holes D) i j ∧ OwnRows w' g E n

section
variable (A : Option Addr) (c : Nat) (D : List CardV) (B : Nat) (a b : Int) (w : World) (h : Deck w B A D) (hB : B ≤ w.heap.size) (hn : D.length ≤ 1048576) (hl : ∀ d ∈ D, d.xs.length ≤ 1048576)
include h hB hn hl

set_option maxRecDepth 100000 in
set_option maxHeartbeats 4000000 in
theorem keysOf_any (hcap : CapsOk D) (hP : Places w) :
    Calls Tryd.prog 78 #[.slice A D.length c, .agg #[.int .i64 a, .int .i64 b]] w fun e w' => (keysC (holes D) a b ≠ 0 ∧ GivesNoKeys (keysC (holes D) a b) w e w') ∨ (keysC (holes D) a b = 0 ∧ GivesRanks D a.toNat b.toNat D.length w e w') := by
  have b0 := below_box w (.cells #[.int .i64 a, .int .i64 b] 26)
  have p0 : (w.alloc (.cells #[.int .i64 a, .int .i64 b] 26)).cell? ⟨w.heap.size, 0, none⟩ = some (.int .i64 a) := by simp
  have p1 : (w.alloc (.cells #[.int .i64 a, .int .i64 b] 26)).cell? ⟨w.heap.size, 1, none⟩ = some (.int .i64 b) := by simp
  have hd := fun W (hW : Below B w W) => implValidDeck_any A c D B W (h.below hW) (Nat.le_trans hB hW.size) hn hl
  have hw := fun W (hW : Below B w W) => widthOf_any A c D B W (h.below hW) hn hl
  have hf := fun W => isFieldOf_any a b (widthH (holes D)) W
  have HH := Lib.hid h
  have HL := Lib.hid hl
  have HCP := Lib.hid hcap
  have HPL := Lib.hid hP
  have HD := Lib.hid hd
  have HW := Lib.hid hw
  have HF := Lib.hid hf
  have B0 := Lib.hid (b0.mono hB)
  have BW := Lib.hid b0
  obtain ⟨n, hN⟩ : ∃ n, D.length = n := ⟨_, rfl⟩
  obtain ⟨z, hz⟩ : ∃ z, widthH (holes D) = z := ⟨_, rfl⟩
  have HN := Lib.hid hN
  have HZ := Lib.hid hz
  simp only [hN, hz] at HD HW HF hn ⊢
  clear h hl hcap hd hw hf b0 hN hz hP
  rcases keysC_cases (holes D) a b with ⟨e, hv⟩ | ⟨e, hv, hf⟩ | ⟨i, j, rfl, rfl, hij, hj, hv, hf, e⟩
  · rw [e]
    simp only [hv] at HD
    clear e hv HW HF HH HCP HL HZ p0 p1
    go_enter Tryd.func78, Tryd.ntmps78
    go_wp2_with fail
    refine (HD.out _ B0.out).mono ?_
    rintro e w1 ⟨rfl, hb⟩
    have B1 := Lib.hid (below_step BW.out hb)
    clear hb
    go_wp2
    go_ret2
    exact Or.inl ⟨by decide, rfl, B1.out⟩
  · rw [e]
    simp only [hv] at HD
    rw [HZ.out] at hf
    simp only [hf] at HF
    clear e hv hf HH HCP HL HZ
    go_enter Tryd.func78, Tryd.ntmps78
    go_wp2_with fail
    refine (HD.out _ B0.out).mono ?_
    rintro e w1 ⟨rfl, hb⟩
    have B1 := Lib.hid (below_step BW.out hb)
    have B2 := Lib.hid (B0.out.trans (hb.mono (Nat.le_trans hB (by simp))))
    have q0 := cell_kept p0 hb
    have q1 := cell_kept p1 hb
    clear hb
    go_wp2_with fail
    go_region_held3 (fun W => W.cell? ⟨w.heap.size, 0, none⟩ = some (.int .i64 a) ∧ W.cell? ⟨w.heap.size, 1, none⟩ = some (.int .i64 b))
      (first | exact ⟨q0, q1⟩ | exact ⟨cell_kept (w := w1.drew) q0 K1.out, cell_kept (w := w1.drew) q1 K1.out⟩ | exact ⟨cell_kept (cell_kept (w := w1.drew) q0 K1.out) K3.out, cell_kept (cell_kept (w := w1.drew) q1 K1.out) K3.out⟩)
      (first
        | (go_at_call 36
           refine (HW.out _ B2.out.drew).mono ?_
           rintro e w2 ⟨rfl, hb⟩
           have K1 : Hid (Below w1.drew.heap.size w1.drew w2) := hb
           clear hb)
        | (go_at_call 87
           refine (HF.out _).mono ?_
           rintro e w3 ⟨rfl, hb⟩
           have K2 := Lib.hid (below_step (below_step B1.out.drew K1.out) hb)
           have K3 := Lib.hid hb
           clear hb))
    all_goals
      go_wp2
      go_ret2
      exact Or.inl ⟨by decide, rfl, K2.out⟩
  · simp only [hv] at HD
    have HV := Lib.hid hv
    have hn40 : n ≤ 40 := by
      have := deck_len hv
      rw [← HN.out]
      simpa [holes] using this
    have hf' := hf
    rw [HZ.out] at hf'
    simp only [hf'] at HF
    have HJ := Lib.hid hj
    rw [Int.toNat_natCast, Int.toNat_natCast]
    obtain ⟨r, hr⟩ : ∃ r, keysB (holes D) i j = r := ⟨_, rfl⟩
    rw [hr] at e
    rw [e]
    have HR := Lib.hid hr
    have hi0 : (0 : Int) ≤ (i : Int) := Int.natCast_nonneg _
    have hi1 : (i : Int) ≤ (j : Int) := by omega
    have hmk : ∀ W : World, (Instr.makeSlice 120 (.int .i64 n) (.int .i64 n)).run Tryd.prog W = .ok (.slice (some ⟨W.heap.size, 0, none⟩) n n) (W.alloc (.cells (cellsOf [] n).toArray 34)) := fun W => by
      obtain ⟨i0, hi0, hz0, hz1, hz2⟩ := info_parts info_list
      have hr := run_make (P := Tryd.prog) W 120 34 i0 _ Tryd.underlying120 hi0 hz0 .i64 .i64 n n (by omega) (Int.le_refl _) (by rw [hz2]; omega) (by omega)
      have e : madeCells (Value.slice none 0 0).cells ((n : Int).toNat * i0.size) = (cellsOf [] n).toArray := by
        rw [hz1, Int.toNat_natCast, Nat.mul_one]
        apply Array.ext
        · simp [size_madeCells, cellsOf, Value.cells]
        · intro i h1 h2
          simp [madeCells, cellsOf, Value.cells, Nat.mod_one]
      rw [e, Int.toNat_natCast] at hr
      exact hr
    clear hf hf' hv e hr hj
    go_enter Tryd.func78, Tryd.ntmps78
    go_wp2_with fail
    refine (HD.out _ B0.out).mono ?_
    rintro e w1 ⟨rfl, hb⟩
    have B1 := Lib.hid (below_step BW.out hb)
    have B2 := Lib.hid (B0.out.trans (hb.mono (Nat.le_trans hB (by simp))))
    have q0 := cell_kept p0 hb
    have q1 := cell_kept p1 hb
    clear hb p0 p1
    go_wp2_with fail
    go_region_held3 (fun W => W.cell? ⟨w.heap.size, 0, none⟩ = some (.int .i64 i) ∧ W.cell? ⟨w.heap.size, 1, none⟩ = some (.int .i64 j))
      (first | exact ⟨q0, q1⟩ | exact ⟨r0, r1⟩ | exact ⟨s0, s1⟩)
      (first
        | (go_at_call 36
           refine (HW.out _ B2.out.drew).mono ?_
           rintro e w2 ⟨rfl, hb⟩
           have K1 : Hid (Below w1.drew.heap.size w1.drew w2) := hb
           have r0 := cell_kept (w := w1.drew) q0 K1.out
           have r1 := cell_kept (w := w1.drew) q1 K1.out
           clear hb)
        | (go_at_call 87
           refine (HF.out _).mono ?_
           rintro e w3 ⟨rfl, hb⟩
           have K2 := Lib.hid (below_step (below_step B1.out.drew K1.out) hb)
           have s0 := cell_kept r0 hb
           have s1 := cell_kept r1 hb
           clear hb))
    all_goals
      have z3 : w.heap.size < w3.heap.size := World.block_lt_of_cell? _ _ s0
      clear q0 q1 r0 r1 K1 B1 B2
      go_wp2
      clear hmk
      go_loopw [24] (fun t wr => ∃ k : Nat, ∃ E : List CardV, k ≤ n ∧ t = .int .i64 k ∧ E.length = k ∧ Hid (keysB ((holes D).take k) i j = true) ∧ Hid (holes E = (rks (holes D) i j).take k) ∧ Hid (Below w3.heap.size w3 wr) ∧ Hid (OwnRows wr w3.heap.size E n)) (fun t _ => n - (intOf t).toNat)
      case atStart => exact ⟨0, [], Nat.zero_le _, rfl, rfl, by show _ = _; simp [keysB], by show _ = _; simp [holes], below_box w3 _, heap_alloc_new w3 _, fun e he => by cases he⟩
      case round =>
        obtain ⟨k, E, hk, rfl, hE, HK, HHE, HB, HO⟩ := hrel
        have t0 := cell_kept s0 HB.out
        have t1 := cell_kept s1 HB.out
        have hwr : w3.heap.size ≤ wr.heap.size := HB.out.size
        by_cases hlt : k < n
        · obtain ⟨d, hd⟩ : ∃ d, D[k]? = some d := ⟨D[k]'(by rw [HN.out]; exact hlt), List.getElem?_eq_getElem _⟩
          have hdx : (holes D)[k]? = some d.xs := by simp [holes, hd]
          obtain ⟨g1, g2⟩ := deck_width HV.out hdx
          have hxl : 0 < d.xs.length := by have := HJ.out; omega
          obtain ⟨bq, oq, rfl, _, hcell⟩ := (HH.out.below ((K2.out.mono hB).trans (HB.out.mono (Nat.le_trans hB (by omega))))) (by rw [HN.out]; omega)
          obtain ⟨hc, hi⟩ := hcell k d hd
          have hm := List.mem_of_getElem? hd
          obtain ⟨m1, m2⟩ := HCP.out d hm
          have hx1 := HL.out d hm
          obtain ⟨ad, zd, xd⟩ := d
          simp only at hc hi m1 m2 hx1 g1 g2 hxl hdx
          unfold CardV.value at hc
          simp only at hc
          obtain ⟨b2, o2, rfl, _⟩ := hi hxl
          have hjz : j ≤ xd.length := by rw [g2]; exact HJ.out
          have hpl := partOf_length xd i j hjz
          have hra := fun W hI hs hP => ranks_any (some ⟨b2, o2 + i, none⟩) (zd - i) (partOf xd i j) B W hI hs (by omega) hP
          obtain ⟨u, hu⟩ : ∃ u, textOk (partOf xd i j) = u := ⟨_, rfl⟩
          have hrk : (rks (holes D) i j)[k]? = some ((partOf xd i j).map rkI) := by rw [rks, List.getElem?_map, hdx]; rfl
          have Hu := Lib.hid hu
          have HDX := Lib.hid hdx
          have HRK := Lib.hid hrk
          simp only [hu, hpl] at hra
          have HRA := Lib.hid hra
          have hk0 : (0 : Int) ≤ (k : Int) := Int.natCast_nonneg _
          have hk1 : (k : Int) < (n : Int) := by omega
          have hj2 : (j : Int) ≤ (zd : Int) := by omega
          have hj3 : ¬ zd = i := by omega
          have HPT := Lib.hid (hi.part i j hij hjz)
          have HE := Lib.hid hE
          have HPW := Lib.hid (HPL.out.below (below_step K2.out HB.out))
          have hst : Hid ((cellsOf E n)[k]? = some (.slice none 0 0)) := by
            show _ = _
            rw [cellsOf, List.getElem?_append_right (by simp; omega), List.getElem?_replicate, if_pos (by simp; omega)]
          obtain ⟨nx, hnx⟩ : ∃ nx, xd.length = nx := ⟨_, rfl⟩
          rw [hnx] at hc
          have hlp : ((partOf xd i j).map rkI).length = j - i := by simp [hpl]
          have HLP := Lib.hid hlp
          clear hcell hd hi hra hdx hu hrk m1 m2 hx1 g1 g2 hxl hm hpl hnx hlp hE
          have bx := below_box wr (.cells #[.slice (some ⟨b2, o2, none⟩) nx zd] 36)
          have u0 := cell_kept t0 bx
          have u1 := cell_kept t1 bx
          have BX := Lib.hid bx
          have HPX := Lib.hid (HPW.out.below bx)
          have HPTX := Lib.hid (HPT.out.below (bx.mono (by omega)))
          have HBX := Lib.hid (below_step HB.out bx)
          have HOX := Lib.hid (HO.out.later bx)
          clear bx
          go_wp2_with fail
          refine (HRA.out _ HPTX.out (by simp; omega) HPX.out).mono ?_
          rintro e w5 (⟨hu, rfl, hb⟩ | ⟨hu, ge, rfl, hge, hb, hrow⟩)
          · obtain rfl : u = false := hu
            obtain rfl : r = false := by rw [← HR.out]; exact keysB_bad HDX.out Hu.out
            have HB5 := Lib.hid (below_step HBX.out hb)
            clear hb
            go_wp2
            go_ret2
            exact ⟨rfl, below_step K2.out HB5.out⟩
          · obtain rfl : u = true := hu
            have HK1 : Hid (keysB ((holes D).take (k + 1)) i j = true) := keysB_more HDX.out HK.out Hu.out
            have HB5 := Lib.hid (below_step HBX.out hb)
            have HO5 := Lib.hid (HOX.out.later hb)
            have HR5 := Lib.hid hrow
            have hg : w3.heap.size < ge := by
              have := HO.out.lt
              have h2 : wr.heap.size + 1 ≤ ge := by simpa using hge
              omega
            have c2 : w5.cell? ⟨w3.heap.size, k, none⟩ = some (.slice none 0 0) := by rw [HO5.out.cell k]; exact hst.out
            have f2 := HO5.out.frozen k
            obtain ⟨qs, hqs⟩ : ∃ qs, (partOf xd i j).map rkI = qs := ⟨_, rfl⟩
            rw [hqs] at HR5 HRK HLP
            have HH1 : Hid (∀ e : CardV, e.xs = qs → holes (E ++ [e]) = (rks (holes D) i j).take (k + 1)) := fun e he => by
              rw [List.take_add_one, HRK.out, ← HHE.out]
              simp [holes, he]
            clear hb hrow hge hqs
            go_wp2
            go_roundw
            case rel =>
              refine ⟨k + 1, E ++ [⟨some ⟨ge, 0, none⟩, qs.length, qs⟩], by omega, by go_num, by simp [HE.out], HK1, HH1.out _ rfl, HB5.out.setCell (Nat.le_refl _) _, ?_⟩
              have := HO5.out.put ⟨some ⟨ge, 0, none⟩, qs.length, qs⟩ ge (by rw [HE.out]; exact hlt) rfl hg rfl HR5.out
              rw [HE.out] at this
              rw [CardV.value] at this
              simp only [HLP.out] at this ⊢
              exact this
            case measure => simp [intOf]; omega
        · have hkn : k = n := by omega
          have hk1 : ¬ (k : Int) < (n : Int) := by omega
          obtain rfl : r = true := by
            rw [← HR.out]
            have := HK.out
            rwa [List.take_of_length_le (by simp [holes]; rw [HN.out]; omega)] at this
          have hrl : holes E = rks (holes D) i j := by
            rw [HHE.out, List.take_of_length_le (by simp [rks, holes]; rw [HN.out]; omega)]
          have HRL := Lib.hid hrl
          clear hkn HK hrl hE
          go_wp2
          go_ret2
          exact ⟨_, E, rfl, below_step K2.out HB.out, HRL.out, HO.out⟩
end
end Go.Proofs.YtdakbbgbglgioaaDoor

/- The entries of a deck: its cards, copied, with the ranks of a field; impl.entriesOf makes them: a contract. -/
namespace Go.Proofs.YtdakbbgbglgioaaDoor
open Go.ChangeShapes Go.WideShapes Go.ChangeAt Go.RowKit

theorem info_entry : (Tryd.prog.info? 75).map (fun i => (i.zero, i.size, i.bytes)) = some (some (.agg #[.slice none 0 0, .slice none 0 0]), 2, 48) := by kernel_rfl

/-- cards and keys, one behind the other -/
def mixL : List CardV → List CardV → List CardV
  | e :: E, k :: K => e :: k :: mixL E K
  | _, _ => []
theorem mixL_nil (K : List CardV) : mixL [] K = [] := by cases K <;> rfl
theorem mixL_length : ∀ (E K : List CardV), E.length ≤ K.length → (mixL E K).length = 2 * E.length
  | [], K, _ => by simp [mixL_nil]
  | e :: E, [], h => by simp at h
  | e :: E, k :: K, h => by
    have := mixL_length E K (by simpa using h)
    simp only [mixL, List.length_cons, this]
    omega
theorem mixL_more : ∀ (E K : List CardV) (e q : CardV), K[E.length]? = some q → mixL (E ++ [e]) K = mixL E K ++ [e] ++ [q]
  | [], [], e, q, h => by simp at h
  | [], k :: K, e, q, h => by
    obtain rfl : k = q := by simpa using h
    simp [mixL]
  | x :: E, [], e, q, h => by simp at h
  | x :: E, k :: K, e, q, h => by
    have := mixL_more E K e q (by simpa using h)
    simp only [List.cons_append, mixL, this]
theorem mixL_card : ∀ (E K : List CardV) (k : Nat) (e : CardV), E.length ≤ K.length → E[k]? = some e → (mixL E K)[k * 2]? = some e
  | [], _, k, e, _, h => by simp at h
  | x :: E, [], k, e, hl, _ => by simp at hl
  | x :: E, y :: K, 0, e, _, h => by simpa [mixL] using h
  | x :: E, y :: K, k + 1, e, hl, h => by
    have := mixL_card E K k e (by simpa using hl) (by simpa using h)
    rw [mixL, show (k + 1) * 2 = k * 2 + 1 + 1 by omega]
    simpa using this
theorem mixL_key : ∀ (E K : List CardV) (k : Nat) (q : CardV), k < E.length → K[k]? = some q → (mixL E K)[k * 2 + 1]? = some q
  | [], _, k, q, hl, h => by simp at hl
  | x :: E, [], k, q, _, h => by simp at h
  | x :: E, y :: K, 0, q, _, h => by simpa [mixL] using h
  | x :: E, y :: K, k + 1, q, hl, h => by
    have := mixL_key E K k q (by simpa using hl) (by simpa using h)
    rw [mixL, show (k + 1) * 2 + 1 = k * 2 + 1 + 1 + 1 by omega]
    simpa using this

/-- the block g holds the entries: cards E with numbers in blocks of their own from lo on, keys K -/
structure Ents (w : World) (lo g : Nat) (E K : List CardV) (n : Nat) : Prop where
  cells : w.heap[g]? = some (.cells (cellsOf (mixL E K) (2 * n)).toArray 75 (0, 0))
  cards : NewRows w lo E
  keys : ∀ q ∈ K, ∃ gq ex, q.at_ = some ⟨gq, 0, none⟩ ∧ Row w gq q.xs ex
section
variable {w w' : World} {lo g n : Nat} {E K : List CardV}
theorem Ents.lt (h : Ents w lo g E K n) : g < w.heap.size := by
  rcases Nat.lt_or_ge g w.heap.size with hlt | hge
  · exact hlt
  · have := h.cells
    rw [Array.getElem?_eq_none hge] at this
    cases this
theorem Ents.later (h : Ents w lo g E K n) (hb : Below w.heap.size w w') : Ents w' lo g E K n :=
  ⟨(hb.block g h.lt).trans h.cells, h.cards.later hb, fun q hq => by
    obtain ⟨gq, ex, h1, h2⟩ := h.keys q hq
    exact ⟨gq, ex, h1, h2.later hb⟩⟩
theorem Ents.drew (h : Ents w lo g E K n) : Ents w.drew lo g E K n := h.later (Below.refl _ w).drew
theorem Ents.cell (h : Ents w lo g E K n) (i : Nat) : w.cell? ⟨g, i, none⟩ = (cellsOf (mixL E K) (2 * n))[i]? := by
  rw [cell_of_row w g i _ _ _ h.cells]
  simp
theorem Ents.card (h : Ents w lo g E K n) (hl : E.length ≤ K.length) {k : Nat} {e : CardV} (he : E[k]? = some e) : w.cell? ⟨g, k * 2, none⟩ = some e.value := by
  rw [h.cell, cellsOf_get _ _ _ e (mixL_card E K k e hl he)]
theorem Ents.key (h : Ents w lo g E K n) {k : Nat} {q : CardV} (hk : k < E.length) (hq : K[k]? = some q) : w.cell? ⟨g, k * 2 + 1, none⟩ = some q.value := by
  rw [h.cell, cellsOf_get _ _ _ q (mixL_key E K k q hk hq)]
end

/-- the entries of a deck -/
def GivesEnts (D : List CardV) (i j n : Nat) (w : World) (e : Ending) (w' : World) : Prop :=
  ∃ g E K, e = .returned (.tuple #[.slice (some ⟨g, 0, none⟩) n n, .int .i64 0]) ∧ Below w.heap.size w w' ∧ holes E = holes D ∧ CapsOk E ∧ holes K = rks (holes D) i j ∧ Ents w' w.heap.size g E K n

theorem row_not_ents {w : World} {g n : Nat} {xs : List Int} {ex : List Value} {cs : Array Value} {z : Nat × Nat} (h : Row w g xs ex) (hc : w.heap[n]? = some (.cells cs 75 z)) : g ≠ n := by
  rintro rfl
  unfold Row at h
  rw [h] at hc
  have := Option.some.inj hc
  injection this with _ e _
  cases e
theorem NewRows.ent_set {w : World} {lo g : Nat} {E : List CardV} {cs : Array Value} {z : Nat × Nat} (h : NewRows w lo E) (hc : w.heap[g]? = some (.cells cs 75 z)) (i j : Nat) (u v : Value) : NewRows ((w.setCell ⟨g, i, none⟩ u).setCell ⟨g, j, none⟩ v) lo E :=
  ⟨fun e he => by
    obtain ⟨ge, ex, h1, h2, h3⟩ := h.each e he
    have hne := row_not_ents h3 hc
    exact ⟨ge, ex, h1, h2, (h3.far (p := ⟨g, i, none⟩) hne u).far (p := ⟨g, j, none⟩) hne v⟩, h.apart⟩
theorem ents_put {w : World} {g n : Nat} {X : List CardV} (h : w.heap[g]? = some (.cells (cellsOf X n).toArray 75 (0, 0))) (e q : CardV) (hn : X.length + 1 < n) : ((w.setCell ⟨g, X.length, none⟩ e.value).setCell ⟨g, X.length + 1, none⟩ q.value).heap[g]? = some (.cells (cellsOf (X ++ [e] ++ [q]) n).toArray 75 (0, 0)) := by
  have h1 : (w.setCell ⟨g, X.length, none⟩ e.value).heap[g]? = some (.cells (cellsOf (X ++ [e]) n).toArray 75 (0, 0)) := by
    simp only [World.setCell, Array.getElem?_modify, if_true, h, Option.map_some]
    congr 2
    apply Array.ext'
    simp [cellsOf_set X n e (by omega)]
  have hl : X.length + 1 = (X ++ [e]).length := by simp
  rw [hl]
  simp only [World.setCell, Array.getElem?_modify, if_true] at h1 ⊢
  rw [h1]
  simp only [Option.map_some]
  congr 2
  apply Array.ext'
  have := cellsOf_set (X ++ [e]) n q (by simp; omega)
  rw [← hl] at this
  simpa using this

section
variable (A : Option Addr) (c : Nat) (D : List CardV) (B : Nat) (a b : Int) (w : World) (h : Deck w B A D) (hB : B ≤ w.heap.size) (hn : D.length ≤ 1048576) (hl : ∀ d ∈ D, d.xs.length ≤ 1048576)
include h hB hn hl

set_option maxRecDepth 100000 in
set_option maxHeartbeats 4000000 in
theorem entriesOf_any (hcap : CapsOk D) (hP : Places w) :
    Calls Tryd.prog 54 #[.slice A D.length c, .agg #[.int .i64 a, .int .i64 b]] w fun e w' => (keysC (holes D) a b ≠ 0 ∧ GivesNoKeys (keysC (holes D) a b) w e w') ∨ (keysC (holes D) a b = 0 ∧ GivesEnts D a.toNat b.toNat D.length w e w') := by
  have b0 := below_box w (.cells #[.int .i64 a, .int .i64 b] 26)
  have hk := keysOf_any A c D B a b (w.alloc (.cells #[.int .i64 a, .int .i64 b] 26)) (h.below (b0.mono hB)) (by simp; omega) hn hl hcap (hP.below b0)
  have BW := Lib.hid b0
  obtain ⟨n, hN⟩ : ∃ n, D.length = n := ⟨_, rfl⟩
  by_cases e : keysC (holes D) a b = 0
  · obtain ⟨i, j, rfl, rfl, hij, hj, hv, hkb⟩ := keysC_zero e
    have hn40 : n ≤ 40 := by
      have := deck_len hv
      simp [holes, hN] at this
      exact this
    rw [e, Int.toNat_natCast, Int.toNat_natCast, hN] at hk ⊢
    have H := Lib.hid h
    have HN := Lib.hid hN
    have HV := Lib.hid hv
    have HCP := Lib.hid hcap
    have HK := Lib.hid hk
    have hJ := Lib.hid (show 0 < widthH (holes D) by omega)
    have hmk : ∀ W : World, (Instr.makeSlice 68 (.int .i64 n) (.int .i64 n)).run Tryd.prog W = .ok (.slice (some ⟨W.heap.size, 0, none⟩) n n) (W.alloc (.cells (cellsOf [] (2 * n)).toArray 75)) := fun W => by
      obtain ⟨i0, hi0, hz0, hz1, hz2⟩ := info_parts info_entry
      have hr := run_make (P := Tryd.prog) W 68 75 i0 _ Tryd.underlying68 hi0 hz0 .i64 .i64 n n (by omega) (Int.le_refl _) (by rw [hz2]; omega) (by omega)
      have e : madeCells (Value.agg #[Value.slice none 0 0, Value.slice none 0 0]).cells ((n : Int).toNat * i0.size) = (cellsOf [] (2 * n)).toArray := by
        rw [hz1, Int.toNat_natCast]
        apply Array.ext
        · simp [size_madeCells, cellsOf]
          omega
        · intro i h1 h2
          rcases Nat.mod_two_eq_zero_or_one i with hm | hm <;> simp [madeCells, cellsOf, Value.cells, hm]
      rw [e, Int.toNat_natCast] at hr
      exact hr
    clear hk h hl hcap b0 e hv hkb hj hij hN hP
    go_enter Tryd.func54, Tryd.ntmps54
    go_wp2_with fail
    refine HK.out.mono ?_
    rintro e w1 (⟨h0, _⟩ | ⟨_, gk, K, rfl, hb, hK, hO⟩)
    · exact absurd rfl h0
    have B1 := Lib.hid (below_step BW.out hb)
    have HO := Lib.hid hO
    have hKl : K.length = n := by rw [← holes_len K, hK, rks, List.length_map, holes_len, HN.out]
    have HKL := Lib.hid hKl
    have HHK := Lib.hid hK
    clear hb hO hK hKl HK
    go_wp2
    clear hmk
    go_loopw [25] (fun x wr => ∃ t : Nat, ∃ E : List CardV, t ≤ n ∧ x = .int .i64 t ∧ Hid (E.length = t) ∧ Hid (holes E = (holes D).take t) ∧ Hid (Below w1.heap.size w1 wr) ∧ Hid (wr.heap[w1.heap.size]? = some (.cells (cellsOf (mixL E K) (2 * n)).toArray 75 (0, 0))) ∧ Hid (NewRows wr w1.heap.size E) ∧ Hid (CapsOk E)) (fun x _ => n - (intOf x).toNat)
    case atStart => exact ⟨0, [], Nat.zero_le _, rfl, rfl, by show _ = _; simp [holes], below_box w1 _, by rw [mixL_nil]; exact heap_alloc_new w1 _, NewRows.nil, (fun d hd => by cases hd)⟩
    case round =>
      obtain ⟨t, E, ht, rfl, HE, HS, HB, HC, HR, HCK⟩ := hrel
      by_cases hlt : t < n
      · obtain ⟨d, hd⟩ : ∃ d, D[t]? = some d := ⟨D[t]'(by rw [HN.out]; exact hlt), List.getElem?_eq_getElem _⟩
        obtain ⟨q, hq⟩ : ∃ q, K[t]? = some q := ⟨K[t]'(by rw [HKL.out]; exact hlt), List.getElem?_eq_getElem _⟩
        have hqc : w1.cell? ⟨gk, t, none⟩ = some q.value := by rw [HO.out.cell t, cellsOf_get K n t q hq]
        have BD := below_step B1.out HB.out
        obtain ⟨bq, oq, rfl, hbq, hcell⟩ := (H.out.below (BD.mono hB)) (by rw [HN.out]; omega)
        obtain ⟨hc, hi⟩ := hcell t d hd
        obtain ⟨y1, y2⟩ := deck_width HV.out (holes_at hd)
        have h20 := (okB_parts y1).2
        have h0 : 0 < d.xs.length := by rw [y2]; exact hJ.out
        have bx := below_box wr (.cells #[.slice d.at_ d.xs.length d.cap] 36)
        have p0 : (wr.alloc (.cells #[.slice d.at_ d.xs.length d.cap] 36)).cell? ⟨wr.heap.size, 0, none⟩ = some (.slice d.at_ d.xs.length d.cap) := by simp
        have o1 := cell_kept (cell_kept hqc HB.out) bx
        obtain ⟨m, hm⟩ : ∃ m, d.xs.length = m := ⟨_, rfl⟩
        have HM := Lib.hid hm
        have hw1 : w1.heap.size ≤ wr.heap.size := HB.out.size
        have hBw : B ≤ wr.heap.size := Nat.le_trans hB BD.size
        obtain ⟨W1, hW1⟩ : ∃ W1, wr.alloc (.cells #[.slice d.at_ d.xs.length d.cap] 36) = W1 := ⟨_, rfl⟩
        rw [hW1] at p0 o1 bx
        have hs1 : wr.heap.size ≤ W1.heap.size := bx.size
        have HT := Lib.hid (copyNew_any d.at_ d.cap d.xs B W1.drew ((hi.below (bx.mono hBw)).drew) (by show B ≤ W1.heap.size; omega) h0 (by omega))
        have HBX := Lib.hid (below_step HB.out bx).drew
        have hc0 : w1.heap.size < wr.heap.size := by
          rcases Nat.lt_or_ge w1.heap.size wr.heap.size with hlt | hge
          · exact hlt
          · have := HC.out
            rw [Array.getElem?_eq_none hge] at this
            cases this
        have HCX : Hid (W1.drew.heap[w1.heap.size]? = some (.cells (cellsOf (mixL E K) (2 * n)).toArray 75 (0, 0))) := (bx.block _ hc0).trans HC.out
        have HRX := Lib.hid ((HR.out.later bx).later (Below.refl _ W1).drew)
        have HH1 : Hid (∀ e : CardV, e.xs = d.xs → holes (E ++ [e]) = (holes D).take (t + 1)) := fun e he => by
          rw [List.take_add_one, holes_at hd, ← HS.out]
          simp [holes, he]
        have HQ := Lib.hid hq
        have hml : (mixL E K).length = 2 * t := by rw [mixL_length E K (by rw [HE.out, HKL.out]; omega), HE.out]
        have hz1 : (cellsOf (mixL E K) (2 * n))[t * 2]? = some (.slice none 0 0) := by
          rw [cellsOf, List.getElem?_append_right (by simp [hml]; omega), List.getElem?_replicate, if_pos (by simp [hml]; omega)]
        have hz2 : (cellsOf (mixL E K) (2 * n))[t * 2 + 1]? = some (.slice none 0 0) := by
          rw [cellsOf, List.getElem?_append_right (by simp [hml]; omega), List.getElem?_replicate, if_pos (by simp [hml]; omega)]
        have HZ1 := Lib.hid hz1
        have HZ2 := Lib.hid hz2
        have HML := Lib.hid hml
        unfold CardV.value at hc o1
        rw [hm] at hc p0 HT hW1
        have t0 : (0 : Int) ≤ (t : Int) := Int.natCast_nonneg _
        have t1 : (t : Int) < (n : Int) := by omega
        have x1 : W1.drew.cell? ⟨wr.heap.size, 0, none⟩ = some (.slice d.at_ m d.cap) := p0
        have x2 : W1.drew.cell? ⟨gk, t, none⟩ = some (.slice q.at_ q.xs.length q.cap) := o1
        have hcs : ∀ (W : World) (i : Nat), Hid (W.heap[w1.heap.size]? = some (.cells (cellsOf (mixL E K) (2 * n)).toArray 75 (0, 0))) → W.cell? ⟨w1.heap.size, i, none⟩ = (cellsOf (mixL E K) (2 * n))[i]? ∧ W.frozen? ⟨w1.heap.size, i, none⟩ = false := fun W i h => by
          refine ⟨?_, ?_⟩
          · rw [cell_of_row W w1.heap.size i _ _ _ h.out]
            simp
          · have := h.out
            simp [World.frozen?, this]
        have u1 := (hcs _ (t * 2) HCX).1.trans hz1
        have u2 := (hcs _ (t * 2 + 1) HCX).1.trans hz2
        have u3 := (hcs _ (t * 2) HCX).2
        have u4 := (hcs _ (t * 2 + 1) HCX).2
        have HCS := Lib.hid hcs
        obtain ⟨lq, hlq⟩ : ∃ l, q.xs.length = l := ⟨_, rfl⟩
        rw [hlq] at x2
        have HLQ := Lib.hid hlq
        clear hcell hd hi hm bx p0 o1 BD y1 y2 h20 h0 hq hqc hml hz1 hz2 hcs hlq HB HC HR hbq
        go_wp2_with fail
        go_region_with (go_at_call 63; refine HT.out.mono ?_; rintro e w3 ⟨ge, cp, ex, rfl, hc1, hc2, hge, hb3, hrow⟩; rw [HM.out] at hc1; rw [HM.out]; have z1 := cell_kept x1 hb3; have z2 := cell_kept x2 hb3; have HB3 := Lib.hid (below_step HBX.out hb3); have HC3 : Hid (w3.heap[w1.heap.size]? = some (.cells (cellsOf (mixL E K) (2 * n)).toArray 75 (0, 0))) := (hb3.block _ (Nat.lt_of_lt_of_le hc0 hs1)).trans HCX.out; have v1 := (HCS.out _ (t * 2) HC3).1.trans HZ1.out; have v2 := (HCS.out _ (t * 2 + 1) HC3).1.trans HZ2.out; have v3 := (HCS.out _ (t * 2) HC3).2; have v4 := (HCS.out _ (t * 2 + 1) HC3).2; have HR3 := Lib.hid (HRX.out.more hb3 (e := ⟨some ⟨ge, 0, none⟩, cp, d.xs⟩) rfl hge (Nat.le_trans hw1 (Nat.le_trans hs1 hge)) hrow); have HCC := Lib.hid (And.intro hc1 hc2); clear hb3 hrow hge hc1 hc2)
        all_goals
          go_wp2
          go_roundw
          case rel =>
            have hp := ents_put HC3.out ⟨some ⟨ge, 0, none⟩, cp, d.xs⟩ q (by rw [HML.out]; omega)
            rw [← mixL_more E K _ q (by rw [HE.out]; exact HQ.out), HML.out, Nat.mul_comm 2 t] at hp
            unfold CardV.value at hp
            simp only [HM.out, HLQ.out] at hp
            refine ⟨t + 1, E ++ [(⟨some ⟨ge, 0, none⟩, cp, d.xs⟩ : CardV)], by omega, by go_num, by show _ = _; simp [HE.out], HH1.out _ rfl, (HB3.out.setCell (Nat.le_refl _) _).setCell (Nat.le_refl _) _, Lib.hid hp, ?_, ?_⟩
            · exact HR3.out.ent_set HC3.out _ _ _ _
            · intro x hx
              rcases List.mem_append.1 hx with hx | hx
              · exact HCK.out x hx
              · obtain rfl : x = ⟨some ⟨ge, 0, none⟩, cp, d.xs⟩ := by simpa using hx
                have h1 := HCC.out.1
                have h2 := HCC.out.2
                unfold maxLen at h2
                exact ⟨by show d.xs.length ≤ cp; rw [HM.out]; exact h1, by show cp ≤ _; omega⟩
          case measure => simp [intOf]; omega
      · have htn : t = n := by omega
        have t1 : ¬ (t : Int) < (n : Int) := by omega
        have hh : holes E = holes D := by rw [HS.out, List.take_of_length_le (by simp [holes, HN.out]; omega)]
        have HHH := Lib.hid hh
        have BB := Lib.hid (below_step B1.out HB.out)
        have hKS : Hid (∀ q ∈ K, ∃ gq ex, q.at_ = some ⟨gq, 0, none⟩ ∧ Row wr gq q.xs ex) := fun q hq => by
          obtain ⟨ge, a1, _, _, a4⟩ := HO.out.each q hq
          exact ⟨ge, [], a1, a4.later HB.out⟩
        clear hh htn
        go_wp2
        go_ret2
        have hrows : NewRows wr w.heap.size E := ⟨fun e he => by obtain ⟨ge, ex, h1, h2, h3⟩ := HR.out.each e he; exact ⟨ge, ex, h1, Nat.le_trans B1.out.size h2, h3⟩, HR.out.apart⟩
        exact ⟨_, E, K, rfl, BB.out, HHH.out, HCK.out, HHK.out, ⟨HC.out, hrows, hKS.out⟩⟩
  · obtain ⟨k, hk0⟩ : ∃ k, keysC (holes D) a b = k := ⟨_, rfl⟩
    rw [hk0] at hk e ⊢
    rw [hN] at hk ⊢
    have e1 : (k != 0) = true := by simpa using e
    have HK := Lib.hid hk
    clear hk h hl hcap b0 hk0 hN hn hP
    go_enter Tryd.func54, Tryd.ntmps54
    go_wp2_with fail
    refine HK.out.mono ?_
    rintro e' w1 (⟨_, rfl, hb⟩ | ⟨h0, _⟩)
    · have B1 := Lib.hid (below_step BW.out hb)
      clear hb HK
      go_wp2
      go_ret2
      exact Or.inl ⟨e, rfl, B1.out⟩
    · exact absurd h0 e
end
end Go.Proofs.YtdakbbgbglgioaaDoor

/- What a collator answers, as plain functions: the places and the cards for which something holds, the codes, and when two fields are equal. -/
namespace Go.Proofs.YtdakbbgbglgioaaDoor
open Go.ChangeShapes Go.WideShapes Go.ChangeAt Go.RowKit

theorem rkI_one {a b : Int} (ha : charOk a = true) (hb : charOk b = true) (h : rkI a = rkI b) : a = b := by
  unfold charOk at ha hb
  unfold rkI at h
  cases ea : rankM a with
  | none => rw [ea] at ha; cases ha
  | some j =>
    cases eb : rankM b with
    | none => rw [eb] at hb; cases hb
    | some k =>
      rw [ea, eb] at h
      have e : j = k := by
        have h' : (j : Int) = k := h
        omega
      subst e
      exact (rankM_some ea).2.1.symm.trans (rankM_some eb).2.1
theorem cmpI_zero (a b : Int) : cmpI a b = 0 ↔ a = b := by
  unfold cmpI
  (repeat' split) <;> omega
theorem cmpTo_all (xs ys : List Int) : ∀ k, cmpTo xs ys k = 0 ↔ ∀ m, m < k → rkI (xs[m]?.getD 0) = rkI (ys[m]?.getD 0)
  | 0 => by simp [cmpTo]
  | k + 1 => by
    have ih := cmpTo_all xs ys k
    rw [cmpTo_step]
    by_cases h : cmpTo xs ys k = 0
    · rw [if_neg (by simpa using h), cmpI_zero]
      constructor
      · intro e m hm
        by_cases hk : m = k
        · subst hk
          exact e
        · exact ih.1 h m (by omega)
      · intro e
        exact e k (by omega)
    · rw [if_pos h]
      constructor
      · intro e
        exact absurd e h
      · intro e
        exact absurd (ih.2 fun m hm => e m (by omega)) h
theorem cmpTo_zero {xs ys : List Int} {n : Nat} (hx : xs.length = n) (hy : ys.length = n) (ox : textOk xs = true) (oy : textOk ys = true) : cmpTo xs ys n = 0 ↔ xs = ys := by
  rw [cmpTo_all]
  constructor
  · intro h
    apply List.ext_getElem (by omega)
    intro m h1 h2
    have := h m (by omega)
    rw [List.getElem?_eq_getElem h1, List.getElem?_eq_getElem h2] at this
    exact rkI_one (List.all_eq_true.1 ox _ (List.getElem_mem h1)) (List.all_eq_true.1 oy _ (List.getElem_mem h2)) this
  · rintro rfl m _
    rfl
theorem textS_one {xs ys : List Int} (ox : textOk xs = true) (oy : textOk ys = true) : textS xs = textS ys ↔ xs = ys :=
  ⟨fun h => by rw [← textCodes_textS xs ox, h, textCodes_textS ys oy], fun h => by rw [h]⟩
theorem byte_back : ∀ n : Fin 256, ¬ codeS (n.val : Int) < 0 → charOk (codeS (n.val : Int)) = true ∧ byteV (codeS (n.val : Int)) = UInt8.ofNat n.val := by decide +kernel
theorem text_back {s : ByteArray} (h : legalT s = true) : textOk (textCodes s) = true ∧ textS (textCodes s) = s := by
  have hb : ∀ b : UInt8, b ∈ s.data.toList → charOk (codeS (b.toNat : Int)) = true ∧ byteV (codeS (b.toNat : Int)) = b := fun b hb => by
    have h1 : 0 ≤ codeS (b.toNat : Int) := by
      rw [legalT, List.all_eq_true] at h
      exact of_decide_eq_true (h _ (List.mem_map_of_mem hb))
    have hlt : b.toNat < 256 := b.toNat_lt
    obtain ⟨h2, h3⟩ := byte_back ⟨b.toNat, hlt⟩ (by show ¬ codeS (b.toNat : Int) < 0; omega)
    refine ⟨h2, h3.trans ?_⟩
    simp
  constructor
  · rw [textOk, List.all_eq_true]
    intro x hx
    obtain ⟨b, hm, rfl⟩ := List.mem_map.1 hx
    exact (hb b hm).1
  · have e : textL (textCodes s) = s.data.toList := by
      rw [textL, textCodes, List.map_map]
      conv => rhs; rw [← List.map_id s.data.toList]
      apply List.map_congr_left
      intro b hm
      exact (hb b hm).2
    rw [textS, e]

/-- the places below n for which q holds -/
def wherePl (q : Nat → Bool) : Nat → List Int
  | 0 => []
  | n + 1 => if q n = true then wherePl q n ++ [(n : Int)] else wherePl q n
theorem wherePl_yes {q : Nat → Bool} {n : Nat} (h : q n = true) : wherePl q (n + 1) = wherePl q n ++ [(n : Int)] := if_pos h
theorem wherePl_no {q : Nat → Bool} {n : Nat} (h : q n = false) : wherePl q (n + 1) = wherePl q n := if_neg (by simp [h])
theorem wherePl_len (q : Nat → Bool) : ∀ n, (wherePl q n).length ≤ n
  | 0 => Nat.le_refl _
  | n + 1 => by
    have := wherePl_len q n
    unfold wherePl
    split
    · simp; omega
    · omega
theorem wherePl_mem {q : Nat → Bool} : ∀ {n : Nat} {x : Int}, x ∈ wherePl q n → ∃ k : Nat, x = k ∧ k < n ∧ q k = true
  | 0, _, h => by cases h
  | n + 1, x, h => by
    unfold wherePl at h
    split at h
    · rename_i hq
      rcases List.mem_append.1 h with h | h
      · obtain ⟨k, a, b, c⟩ := wherePl_mem h
        exact ⟨k, a, by omega, c⟩
      · exact ⟨n, by simpa using h, by omega, hq⟩
    · obtain ⟨k, a, b, c⟩ := wherePl_mem h
      exact ⟨k, a, by omega, c⟩
/-- the cards ahead of place n for which q holds -/
def cardsPl (q : Nat → Bool) (H : List (List Int)) : Nat → List (List Int)
  | 0 => []
  | n + 1 => if q n = true then cardsPl q H n ++ [H[n]?.getD []] else cardsPl q H n
theorem cardsPl_yes {q : Nat → Bool} {H : List (List Int)} {n : Nat} {xs : List Int} (h : q n = true) (hn : H[n]? = some xs) : cardsPl q H (n + 1) = cardsPl q H n ++ [xs] := by
  rw [cardsPl, if_pos h, hn]
  rfl
theorem cardsPl_no {q : Nat → Bool} {H : List (List Int)} {n : Nat} (h : q n = false) : cardsPl q H (n + 1) = cardsPl q H n := if_neg (by simp [h])
theorem cardsPl_len (q : Nat → Bool) (H : List (List Int)) : ∀ n, (cardsPl q H n).length ≤ n
  | 0 => Nat.le_refl _
  | n + 1 => by
    have := cardsPl_len q H n
    unfold cardsPl
    split
    · simp; omega
    · omega
theorem cardsPl_where (q : Nat → Bool) (H : List (List Int)) : ∀ n, cardsPl q H n = (wherePl q n).map fun x => H[x.toNat]?.getD []
  | 0 => rfl
  | n + 1 => by
    have := cardsPl_where q H n
    unfold cardsPl wherePl
    split <;> simp [this]
theorem cardsPl_congr {p q : Nat → Bool} {H : List (List Int)} : ∀ {n : Nat}, (∀ k, k < n → p k = q k) → cardsPl p H n = cardsPl q H n
  | 0, _ => rfl
  | n + 1, h => by
    have := cardsPl_congr (H := H) (n := n) fun k hk => h k (by omega)
    unfold cardsPl
    rw [h n (by omega), this]
theorem cardsPl_mem {q : Nat → Bool} {H : List (List Int)} {n : Nat} {x : List Int} (h : x ∈ cardsPl q H n) : ∃ k, k < n ∧ q k = true ∧ x = H[k]?.getD [] := by
  rw [cardsPl_where] at h
  obtain ⟨y, hy, rfl⟩ := List.mem_map.1 h
  obtain ⟨k, rfl, h1, h2⟩ := wherePl_mem hy
  exact ⟨k, h1, h2, by simp⟩
theorem cardsPl_total {q : Nat → Bool} {H : List (List Int)} (hv : deckB H = true) {n : Nat} (hn : n ≤ 40) : totH (cardsPl q H n) ≤ 800 := by
  have : totH (cardsPl q H n) ≤ ((cardsPl q H n).map List.length).length * 20 := by
    unfold totH
    have sum_le : ∀ {L : List Nat}, (∀ x ∈ L, x ≤ 20) → L.sum ≤ L.length * 20 := by
      intro L h
      induction L with
      | nil => simp
      | cons x L ih =>
        have h1 := h x (by simp)
        have h2 := ih fun y hy => h y (by simp [hy])
        simp only [List.sum_cons, List.length_cons, Nat.succ_mul]
        omega
    refine sum_le fun x hx => ?_
    obtain ⟨y, hy, rfl⟩ := List.mem_map.1 hx
    obtain ⟨k, _, _, rfl⟩ := cardsPl_mem hy
    cases hq : H[k]? with
    | none => simp
    | some z =>
      obtain ⟨y1, _⟩ := deck_width hv hq
      exact (okB_parts y1).2
  rw [List.length_map] at this
  have h2 := cardsPl_len q H n
  omega

/-- a card that is less than the one before it -/
def seqQ (H : List (List Int)) (i j k : Nat) : Bool := decide (0 < k) && decide (cmpK H i j k (k - 1) < 0)
/-- a card with which a group begins -/
def grpQ (H : List (List Int)) (i j k : Nat) : Bool := decide (k = 0) || !decide (cmpK H i j k (k - 1) = 0)
def seqA (H : List (List Int)) (a b : Int) : List Int := if keysC H a b = 0 then wherePl (seqQ H a.toNat b.toNat) H.length else []
def grpA (H : List (List Int)) (a b : Int) : List Int := if keysC H a b = 0 then wherePl (grpQ H a.toNat b.toNat) H.length else []
def firstA (H : List (List Int)) (a b : Int) : List (List Int) := if keysC H a b = 0 then cardsPl (grpQ H a.toNat b.toNat) H H.length else []

/-- the code of a text for l columns -/
def textC (s : ByteArray) (l : Int) : Int := if (s.size : Int) ≠ l then 2 else if legalT s = false then 7 else 0
/-- the error that is told -/
def firstC (L : List Int) : Int := if 1 ∈ L then 1 else if 2 ∈ L then 2 else if 7 ∈ L then 7 else if 8 ∈ L then 8 else 0
/-- a card that is not less than one text and not greater than another one -/
def betQ (H : List (List Int)) (i j : Nat) (x y : List Int) (k : Nat) : Bool := decide (0 ≤ cmpTo (partOf (H[k]?.getD []) i j) x (j - i)) && decide (cmpTo (partOf (H[k]?.getD []) i j) y (j - i) ≤ 0)
def askC (H : List (List Int)) (a b : Int) (T : List ByteArray) : Int := firstC (keysC H a b :: T.map fun s => textC s (IntKind.i64.wrap (b - a)))
def betA (H : List (List Int)) (a b : Int) (s t : ByteArray) : List (List Int) := if askC H a b [s, t] = 0 then cardsPl (betQ H a.toNat b.toNat (textCodes s) (textCodes t)) H H.length else []
def eqA (H : List (List Int)) (a b : Int) (s : ByteArray) : List (List Int) := if askC H a b [s] = 0 then cardsPl (betQ H a.toNat b.toNat (textCodes s) (textCodes s)) H H.length else []
theorem keysC_vals (H : List (List Int)) (a b : Int) : keysC H a b = 1 ∨ keysC H a b = 2 ∨ keysC H a b = 8 ∨ keysC H a b = 0 := by
  unfold keysC
  (repeat' split) <;> simp
theorem textC_vals (s : ByteArray) (l : Int) : textC s l = 2 ∨ textC s l = 7 ∨ textC s l = 0 := by
  unfold textC
  (repeat' split) <;> simp
theorem key_len {H : List (List Int)} {a b : Int} (h : keysC H a b = 0) : H.length ≤ 40 ∧ deckB H = true := by
  obtain ⟨i, j, _, _, _, _, hv, _⟩ := keysC_zero h
  exact ⟨deck_len hv, hv⟩
theorem seqA_length (H : List (List Int)) (a b : Int) : (seqA H a b).length ≤ 1048576 := by
  unfold seqA
  by_cases h : keysC H a b = 0
  · rw [if_pos h]
    have := wherePl_len (seqQ H a.toNat b.toNat) H.length
    have := (key_len h).1
    omega
  · rw [if_neg h]; simp
theorem grpA_length (H : List (List Int)) (a b : Int) : (grpA H a b).length ≤ 1048576 := by
  unfold grpA
  by_cases h : keysC H a b = 0
  · rw [if_pos h]
    have := wherePl_len (grpQ H a.toNat b.toNat) H.length
    have := (key_len h).1
    omega
  · rw [if_neg h]; simp
theorem firstA_length (H : List (List Int)) (a b : Int) : (firstA H a b).length ≤ 1048576 := by
  unfold firstA
  by_cases h : keysC H a b = 0
  · rw [if_pos h]
    have := cardsPl_len (grpQ H a.toNat b.toNat) H H.length
    have := (key_len h).1
    omega
  · rw [if_neg h]; simp
theorem firstA_total (H : List (List Int)) (a b : Int) : totH (firstA H a b) ≤ 1048576 := by
  unfold firstA
  by_cases h : keysC H a b = 0
  · rw [if_pos h]
    have := cardsPl_total (q := grpQ H a.toNat b.toNat) (key_len h).2 (key_len h).1
    omega
  · rw [if_neg h]; simp [totH]
theorem ask_key {H : List (List Int)} {a b : Int} {T : List ByteArray} (h : askC H a b T = 0) : keysC H a b = 0 := by
  unfold askC firstC at h
  rcases keysC_vals H a b with e | e | e | e
  · rw [e, if_pos (by simp)] at h; exact absurd h (by decide)
  · rw [e] at h
    split at h
    · exact absurd h (by decide)
    · rw [if_pos (by simp)] at h; exact absurd h (by decide)
  · rw [e] at h
    repeat' split at h
    all_goals first | exact absurd h (by decide) | skip
    rename_i h8
    exact absurd (by simp) h8
  · exact e
theorem betA_length (H : List (List Int)) (a b : Int) (s t : ByteArray) : (betA H a b s t).length ≤ 1048576 := by
  unfold betA
  by_cases h : askC H a b [s, t] = 0
  · rw [if_pos h]
    have := cardsPl_len (betQ H a.toNat b.toNat (textCodes s) (textCodes t)) H H.length
    have := (key_len (ask_key h)).1
    omega
  · rw [if_neg h]; simp
theorem betA_total (H : List (List Int)) (a b : Int) (s t : ByteArray) : totH (betA H a b s t) ≤ 1048576 := by
  unfold betA
  by_cases h : askC H a b [s, t] = 0
  · rw [if_pos h]
    have := cardsPl_total (q := betQ H a.toNat b.toNat (textCodes s) (textCodes t)) (key_len (ask_key h)).2 (key_len (ask_key h)).1
    omega
  · rw [if_neg h]; simp [totH]
theorem eqA_length (H : List (List Int)) (a b : Int) (s : ByteArray) : (eqA H a b s).length ≤ 1048576 := by
  unfold eqA
  by_cases h : askC H a b [s] = 0
  · rw [if_pos h]
    have := cardsPl_len (betQ H a.toNat b.toNat (textCodes s) (textCodes s)) H H.length
    have := (key_len (ask_key h)).1
    omega
  · rw [if_neg h]; simp
theorem eqA_total (H : List (List Int)) (a b : Int) (s : ByteArray) : totH (eqA H a b s) ≤ 1048576 := by
  unfold eqA
  by_cases h : askC H a b [s] = 0
  · rw [if_pos h]
    have := cardsPl_total (q := betQ H a.toNat b.toNat (textCodes s) (textCodes s)) (key_len (ask_key h)).2 (key_len (ask_key h)).1
    omega
  · rw [if_neg h]; simp [totH]
end Go.Proofs.YtdakbbgbglgioaaDoor

/- The places of a deck for which something holds of how a card compares with the one before it: impl.orders, impl.placesWhere at the two functions with which it is called, impl.SequenceErrors and impl.GroupsOf: contracts. -/
namespace Go.Proofs.YtdakbbgbglgioaaDoor
open Go.ChangeShapes Go.WideShapes Go.ChangeAt Go.RowKit

attribute [local go_sem] Oper.semAt_some

set_option maxHeartbeats 1000000 in
theorem entCompare_any (a1 a2 A A' : Option Addr) (l1 l2 c1 c2 c c' : Nat) (xs ys : List Int) (n B B' : Nat) (w : World) (h : Ints w B A (xs.map rkI)) (h' : Ints w B' A' (ys.map rkI)) (hB : B ≤ w.heap.size) (hB' : B' ≤ w.heap.size) (hx : xs.length = n) (hy : ys.length = n) (hn : n ≤ 1048576) :
    Calls Tryd.prog 39 #[.agg #[.slice a1 l1 c1, .slice A n c], .agg #[.slice a2 l2 c2, .slice A' n c']] w fun e w' => e = .returned (.int .i64 (cmpTo xs ys n)) ∧ Below w.heap.size w w' := by
  have b2 : Below w.heap.size w ((w.alloc (.cells #[.slice a1 l1 c1, .slice A n c] 75)).alloc (.cells #[.slice a2 l2 c2, .slice A' n c'] 75)) := (below_box w _).alloc (by simp) _
  have hc := slicesCompare_any A A' c c' xs ys n B B' _ (h.below (b2.mono hB)) (h'.below (b2.mono hB')) hx hy hn
  have HC := Lib.hid hc
  have HB := Lib.hid b2
  clear hc h h' hx hy b2
  go_enter Tryd.func39, Tryd.ntmps39
  go_wp2_with fail
  refine HC.out.mono ?_
  rintro e w' ⟨rfl, rfl⟩
  go_wp2
  go_ret
  exact ⟨rfl, HB.out⟩

/-- how the card at a place compares with the one before it; the first one counts as greater -/
def ordI (H : List (List Int)) (i j k : Nat) : Int := if k = 0 then 1 else cmpK H i j k (k - 1)
def ordE (H : List (List Int)) (i j : Nat) (k : Nat) : Array Value := #[.int .i64 k, .int .i64 (ordI H i j k)]
/-- what a round keeps: what lay below n₀, and the box of the list -/
def KpO (n₀ Bs : Nat) (v : Value) (W W' : World) : Prop := Below n₀ W W' ∧ (Boxed W Bs 68 v → Boxed W' Bs 68 v)
theorem kpO_t {n₀ Bs : Nat} {v : Value} {A B C : World} (h : KpO n₀ Bs v A B) (k : KpO n₀ Bs v B C) : KpO n₀ Bs v A C := ⟨h.1.trans k.1, fun hb => k.2 (h.2 hb)⟩
theorem kpO_b {n₀ Bs : Nat} {v : Value} {w : World} (hn : n₀ ≤ w.heap.size) (hs : Bs < w.heap.size) (W : World) (l : Nat) (o o' : Obj) (hl : w.heap.size ≤ l) (h : W.heap[l]? = some o) (_ : o.isCells = false) (_ : o.isWalk = false) : KpO n₀ Bs v W (W.putObj l o') :=
  ⟨(Below.refl n₀ W).grown (grownBy_putObj' W l o') (by have := (Array.getElem?_eq_some_iff.1 h).1; omega) (fun k e => by cases e; omega), fun hb => hb.kept (grownBy_putObj' W l o') (by simp; omega)⟩
theorem below_grown {W W' : World} (h : Below W.heap.size W W') : W.grownBy W' none := ⟨h.os, h.tape, h.output, h.size, fun j hj _ => h.block j hj⟩
theorem abides_later {β : Type} {B : Nat} {J : β → World → Prop} (hJ : AbidesFrom B J) {s : β} {W W' : World} (h : J s W) (hb : Below W.heap.size W W') : J s W' :=
  hJ s W W' none h (below_grown hb) (fun r e => by cases e)
theorem boxed_later {W W' : World} {B : Nat} {t : TypeId} {v : Value} (h : Boxed W B t v) (hb : Below W.heap.size W W') : Boxed W' B t v := (hb.block B h.lt).trans h

/-- what entries are: each key has the ranks of its card's field -/
structure EntsOf (D : List CardV) (i j n : Nat) (E K : List CardV) : Prop where
  len : D.length = n
  hE : holes E = holes D
  hK : holes K = rks (holes D) i j
  ok : deckB (holes D) = true
  keys : keysB (holes D) i j = true
  lt : i < j
  le : j ≤ widthH (holes D)
theorem EntsOf.at_ {D E K : List CardV} {i j n : Nat} (h : EntsOf D i j n E K) {k : Nat} (hk : k < n) : ∃ d e q, D[k]? = some d ∧ E[k]? = some e ∧ K[k]? = some q ∧ e.xs = d.xs ∧ q.xs = (partOf d.xs i j).map rkI ∧ (partOf d.xs i j).length = j - i ∧ j - i ≤ 20 ∧ 0 < d.xs.length ∧ d.xs.length ≤ 20 ∧ textOk (partOf d.xs i j) = true := by
  have hlE : E.length = n := by rw [← holes_len, h.hE, holes_len, h.len]
  have hlK : K.length = n := by rw [← holes_len, h.hK, rks, List.length_map, holes_len, h.len]
  have hd : D[k]? = some (D[k]'(by rw [h.len]; exact hk)) := List.getElem?_eq_getElem _
  have he : E[k]? = some (E[k]'(by omega)) := List.getElem?_eq_getElem _
  have hq : K[k]? = some (K[k]'(by omega)) := List.getElem?_eq_getElem _
  obtain ⟨y1, y2⟩ := deck_width h.ok (holes_at hd)
  refine ⟨_, _, _, hd, he, hq, ?_, ?_, ?_, ?_, ?_, ?_, ?_⟩
  · have h1 := holes_at he
    rw [h.hE, holes_at hd] at h1
    exact (Option.some.inj h1).symm
  · have h1 := holes_at hq
    rw [h.hK, rks, List.getElem?_map, holes_at hd] at h1
    exact (Option.some.inj h1).symm
  · exact partOf_length _ _ _ (by rw [y2]; exact h.le)
  · have := (okB_parts y1).2
    have := h.le
    omega
  · have := h.lt
    have := h.le
    omega
  · exact (okB_parts y1).2
  · exact keysB_at (holes_at hd) h.keys
theorem EntsOf.lenE {D E K : List CardV} {i j n : Nat} (h : EntsOf D i j n E K) : E.length = n := by rw [← holes_len, h.hE, holes_len, h.len]
theorem EntsOf.lenK {D E K : List CardV} {i j n : Nat} (h : EntsOf D i j n E K) : K.length = n := by rw [← holes_len, h.hK, rks, List.length_map, holes_len, h.len]
theorem EntsOf.n40 {D E K : List CardV} {i j n : Nat} (h : EntsOf D i j n E K) : n ≤ 40 := by
  have := deck_len h.ok
  rw [holes_len, h.len] at this
  exact this
/-- the comparison of two entries -/
theorem entCmp_at {D E K : List CardV} {i j n g lo : Nat} {w : World} (hO : EntsOf D i j n E K) (he : Ents w lo g E K n) {p q : Nat} (hp : p < n) (hq : q < n) :
    ∃ v1 v2, w.cell? ⟨g, p * 2, none⟩ = some v1.1 ∧ w.cell? ⟨g, p * 2 + 1, none⟩ = some v1.2 ∧ w.cell? ⟨g, q * 2, none⟩ = some v2.1 ∧ w.cell? ⟨g, q * 2 + 1, none⟩ = some v2.2 ∧ (∃ a l c a' c', v1 = (.slice a l c, .slice a' (j - i) c')) ∧ (∃ a l c a' c', v2 = (.slice a l c, .slice a' (j - i) c')) ∧
      ∀ W, Below w.heap.size w W → Calls Tryd.prog 39 #[.agg #[v1.1, v1.2], .agg #[v2.1, v2.2]] W fun e w' => e = .returned (.int .i64 (cmpK (holes D) i j p q)) ∧ Below W.heap.size W w' := by
  obtain ⟨d, e1, q1, hd, he1, hq1, x1, x2, x3, x4, x5, x6, x7⟩ := hO.at_ hp
  obtain ⟨d', e2, q2, hd', he2, hq2, z1, z2, z3, z4, z5, z6, z7⟩ := hO.at_ hq
  have hl : E.length ≤ K.length := by rw [hO.lenE, hO.lenK]; omega
  have c1 := he.card hl he1
  have c2 := he.key (by rw [hO.lenE]; exact hp) hq1
  have c3 := he.card hl he2
  have c4 := he.key (by rw [hO.lenE]; exact hq) hq2
  have m1 : q1.xs.length = j - i := by rw [x2, List.length_map, x3]
  have m2 : q2.xs.length = j - i := by rw [z2, List.length_map, z3]
  unfold CardV.value at c1 c2 c3 c4
  rw [m1] at c2
  rw [m2] at c4
  refine ⟨(_, _), (_, _), c1, c2, c3, c4, ⟨_, _, _, _, _, rfl⟩, ⟨_, _, _, _, _, rfl⟩, fun W hW => ?_⟩
  obtain ⟨g1, ex1, a1, r1⟩ := he.keys q1 (List.mem_of_getElem? hq1)
  obtain ⟨g2, ex2, a2, r2⟩ := he.keys q2 (List.mem_of_getElem? hq2)
  have i1 := (r1.later hW).ints
  have i2 := (r2.later hW).ints
  rw [x2] at i1
  rw [z2] at i2
  rw [cmpK_at hd hd', a1, a2]
  have l1 := (r1.later hW).lt
  have l2 := (r2.later hW).lt
  exact entCompare_any _ _ _ _ _ _ _ _ _ _ _ _ _ _ _ W i1 i2 (by omega) (by omega) x3 z3 (by omega)

theorem orders_any (A : Option Addr) (n c : Nat) (w : World) :
    Calls Tryd.prog 82 #[.slice A n c] w fun e w' => e = .returned (.func (.func 91) #[] #[.pointer (some ⟨w.heap.size, 0, none⟩)]) ∧ w' = w.alloc (.cells #[.slice A n c] 68) := by
  go_enter Tryd.func82, Tryd.ntmps82
  go_wp2
  go_ret
  exact ⟨rfl, rfl⟩

set_option maxRecDepth 100000 in
set_option maxHeartbeats 4000000 in
theorem orders_stops {D E K : List CardV} {i j n g lo : Nat} {w0 : World} (hO : EntsOf D i j n E K) (he : Ents w0 lo g E K n) (w : World) (hw : Below w0.heap.size w0 w) (Bs : Nat) (hb : Boxed w Bs 68 (.slice (some ⟨g, 0, none⟩) n n)) :
    SeqStopsK Fence.wide 5 Tryd.prog 91 #[.pointer (some ⟨Bs, 0, none⟩)] (ordE (holes D) i j) (KpO w0.heap.size Bs (.slice (some ⟨g, 0, none⟩) n n)) (fun ys => ys = List.range n) (fun _ => True) n w := fun l J Jx W hW hJ hJx hY h0 => by
  have hn40 := hO.n40
  have hmx : Tryd.prog.follows .mixedOrders = true := by kernel_rfl
  have HE := Lib.hid he
  have HO := Lib.hid hO
  have HBW := Lib.hid (hw.trans (hW.mono hw.size))
  have HBX := Lib.hid (boxed_later hb hW)
  have HJ := Lib.hid hJ
  have HY : Hid (∀ pre x W1, J pre W1 → pre.length < n → YieldAt Fence.wide (5 - 1) Tryd.prog l #[.int .i64 (x : Nat), .int .i64 (ordI (holes D) i j x)] W1 fun e W' => (e = .returned (.bool true) ∧ J (pre ++ [x]) W' ∧ KpO w0.heap.size Bs (.slice (some ⟨g, 0, none⟩) n n) W1 W') ∨ (e = .returned (.bool false) ∧ Jx (pre ++ [x]) W')) := hY
  have y0 := HBX.out.cell
  clear he hO hw hb hW hJ hJx hY
  refine callsIn_of_wp Tryd.func91 rfl trivial ?_ rfl
  simp only [Tryd.ntmps91, List.size_toArray, List.length_cons, List.length_nil, Nat.reduceAdd, Nat.reduceSub, Array.replicate_succ, Array.replicate_zero, List.push_toArray, List.append_toArray, List.nil_append, List.cons_append]
  gi_wp2
  clear y0
  gi_loopw [8] (fun x wr => ∃ k : Nat, k ≤ n ∧ x = .int .i64 k ∧ J (List.range k) wr ∧ Hid (Below w0.heap.size w0 wr) ∧ Hid (Boxed wr Bs 68 (.slice (some ⟨g, 0, none⟩) n n))) (fun x _ => n - (intOf x).toNat)
  case atStart => exact ⟨0, Nat.zero_le _, rfl, h0, HBW, HBX⟩
  case round =>
    obtain ⟨k, hk, rfl, hJk, HB, HX⟩ := hrel
    by_cases hlt : k < n
    · have t0 : (0 : Int) ≤ (k : Int) := Int.natCast_nonneg _
      have t1 : (k : Int) < (n : Int) := by omega
      have hE := HE.out.later HB.out
      rcases Nat.eq_zero_or_pos k with rfl | hpos
      · obtain ⟨v1, v2, c1, c2, -, -, ⟨a1, l1, z1, a2, z2, rfl⟩, -, -⟩ := entCmp_at HO.out hE hlt hlt
        have hj := abides_later HJ.out hJk (below_box wr (.cells #[.slice a1 l1 z1, .slice a2 (j - i) z2] 75))
        have hB2 := Lib.hid (below_step HB.out (below_box wr (.cells #[.slice a1 l1 z1, .slice a2 (j - i) z2] 75)))
        have hX2 := Lib.hid (boxed_later HX.out (below_box wr (.cells #[.slice a1 l1 z1, .slice a2 (j - i) z2] 75)))
        obtain ⟨fn, tmps, assign, body, hy, hR⟩ := HY.out _ 0 _ hj (by simp; omega)
        simp only [ordI, if_true, Int.natCast_zero] at hy
        simp only [Nat.zero_mul, Nat.zero_add] at c1 c2
        clear hE hj
        gi_wp2
        refine hR.mono ?_
        rintro e W3 (⟨rfl, hJ3, hk3⟩ | ⟨rfl, hJx3⟩)
        · have hB3 := Lib.hid (hB2.out.trans hk3.1)
          have hX3 := Lib.hid (hk3.2 hX2.out)
          clear hk3 hy hR
          gi_wp2
          go_roundw
          case rel => exact ⟨1, by omega, by go_num, by rw [List.range_succ]; exact hJ3, hB3, hX3⟩
          case measure => simp [intOf]; omega
        · gi_wp2
          refine bodyPost_ret (results_none rfl _ _ _) rfl ?_
          exact ⟨⟨_, rfl⟩, .inr ⟨_, trivial, hJx3⟩⟩
      · obtain ⟨t, rfl⟩ : ∃ t, k = t + 1 := ⟨k - 1, by omega⟩
        obtain ⟨v1, v2, c1, c2, c3, c4, ⟨a1, l1, z1, a2, z2, rfl⟩, ⟨a3, l3, z3, a4, z4, rfl⟩, hcmp⟩ := entCmp_at HO.out hE hlt (show t < n by omega)
        simp only at c1 c2 c3 c4 hcmp
        have bx := below_box wr (.cells #[.slice a1 l1 z1, .slice a2 (j - i) z2] 75)
        have p0 : (wr.alloc (.cells #[.slice a1 l1 z1, .slice a2 (j - i) z2] 75)).cell? ⟨wr.heap.size, 0, none⟩ = some (.slice a1 l1 z1) := by simp
        have p1 : (wr.alloc (.cells #[.slice a1 l1 z1, .slice a2 (j - i) z2] 75)).cell? ⟨wr.heap.size, 1, none⟩ = some (.slice a2 (j - i) z2) := by simp
        have o3 := cell_kept c3 bx
        have o4 := cell_kept c4 bx
        have o5 := cell_kept HX.out.cell bx
        have hj := abides_later HJ.out hJk bx
        have hcm := hcmp _ (bx.drew)
        have HB2 := Lib.hid (below_step HB.out bx)
        have HX2 := Lib.hid (boxed_later HX.out bx)
        obtain ⟨W2, hW2⟩ : ∃ W2, wr.alloc (.cells #[.slice a1 l1 z1, .slice a2 (j - i) z2] 75) = W2 := ⟨_, rfl⟩
        rw [hW2] at p0 p1 o3 o4 o5 hj hcm HB2 HX2
        have hord : ordI (holes D) i j (t + 1) = cmpK (holes D) i j (t + 1) t := by simp [ordI]
        obtain ⟨v, hv⟩ : ∃ v, cmpK (holes D) i j (t + 1) t = v := ⟨_, rfl⟩
        rw [hv] at hord hcm
        have HC := Lib.hid hcm
        have d1 : W2.drew.cell? ⟨wr.heap.size, 0, none⟩ = some (.slice a1 l1 z1) := p0
        have d2 : W2.drew.cell? ⟨wr.heap.size, 1, none⟩ = some (.slice a2 (j - i) z2) := p1
        have d3 : W2.drew.cell? ⟨g, t * 2, none⟩ = some (.slice a3 l3 z3) := o3
        have d4 : W2.drew.cell? ⟨g, t * 2 + 1, none⟩ = some (.slice a4 (j - i) z4) := o4
        have d5 : W2.drew.cell? ⟨Bs, 0, none⟩ = some (.slice (some ⟨g, 0, none⟩) n n) := o5
        have s0 : (0 : Int) ≤ (t : Int) := Int.natCast_nonneg _
        have s1 : (t : Int) < (n : Int) := by omega
        have s2 : ((t + 1 : Nat) : Int) = (t : Int) + 1 := by omega
        have s3 : (0 : Int) < (t : Int) + 1 := by omega
        have s4 : IntKind.i64.wrap (t : Int) = (t : Int) := IntWalk.i64_in _ (by omega)
        rw [s2] at t0 t1
        clear hE hcmp hcm bx c3 c4 hJk hpos hv
        rw [s2]
        gi_wp2
        gi_region_with_o (refine ⟨trivial, ?_⟩; gi_at_call 39; refine (callsIn_wide.2 HC.out).mono ?_; rintro e W3 ⟨rfl, hb3⟩; have e1 := cell_kept d1 hb3; have e2 := cell_kept d2 hb3; have e3 := cell_kept d3 hb3; have e4 := cell_kept d4 hb3; have e5 := cell_kept d5 hb3; have hj3 := abides_later HJ.out hj ((Below.refl _ W2).drew.trans hb3); have HB3 := Lib.hid (below_step HB2.out.drew hb3); have HX3 := Lib.hid (boxed_later HX2.out ((Below.refl _ W2).drew.trans hb3)); clear hb3)
        all_goals
          obtain ⟨fn, tmps, assign, body, hy, hR⟩ := HY.out _ (t + 1) _ hj3 (by simp; omega)
          rw [hord, s2] at hy
          clear e1 e2 e3 e4 e5 d1 d2 d3 d4 d5 p0 p1 o3 o4 o5 hj hj3
          gi_wp2
          refine hR.mono ?_
          rintro e W4 (⟨rfl, hJ4, hk4⟩ | ⟨rfl, hJx4⟩)
          · have hB4 := Lib.hid (HB3.out.trans hk4.1)
            have hX4 := Lib.hid (hk4.2 HX3.out)
            clear hk4 hy hR
            gi_wp2
            go_roundw
            case rel => exact ⟨t + 1 + 1, by omega, by go_num, by rw [List.range_succ]; exact hJ4, hB4, hX4⟩
            case measure => simp [intOf]; omega
          · gi_wp2
            refine bodyPost_ret (results_none rfl _ _ _) rfl ?_
            exact ⟨⟨_, rfl⟩, .inr ⟨_, trivial, hJx4⟩⟩
    · obtain rfl : k = n := by omega
      have t1 : ¬ (k : Int) < (k : Int) := by omega
      gi_wp2
      go_end0
      exact ⟨⟨_, rfl⟩, .inl hJk⟩

/-- the places that are kept -/
def keptL (q : Nat → Bool) (pre : List Nat) : List Int := (pre.filter q).map fun (k : Nat) => (k : Int)
theorem keptL_range (q : Nat → Bool) : ∀ n, keptL q (List.range n) = wherePl q n
  | 0 => rfl
  | n + 1 => by
    have ih := keptL_range q n
    unfold keptL at ih ⊢
    unfold wherePl
    rw [List.range_succ, List.filter_append, List.map_append, ih]
    cases h : q n <;> simp [h]
theorem keptL_yes {q : Nat → Bool} {pre : List Nat} {x : Nat} (h : q x = true) : keptL q (pre ++ [x]) = keptL q pre ++ [(x : Int)] := by simp [keptL, h]
theorem keptL_no {q : Nat → Bool} {pre : List Nat} {x : Nat} (h : q x = false) : keptL q (pre ++ [x]) = keptL q pre := by simp [keptL, h]
theorem keptL_len (q : Nat → Bool) (pre : List Nat) : (keptL q pre).length ≤ pre.length := by
  unfold keptL
  rw [List.length_map]
  exact List.length_filter_le _ _
theorem seq_ord (H : List (List Int)) (i j k : Nat) : decide (ordI H i j k < 0) = seqQ H i j k := by
  unfold ordI seqQ
  rcases Nat.eq_zero_or_pos k with rfl | h
  · simp
  · rw [if_neg (by omega)]
    simp [h]
theorem grp_ord (H : List (List Int)) (i j k : Nat) : (ordI H i j k != 0) = grpQ H i j k := by
  unfold ordI grpQ
  rcases Nat.eq_zero_or_pos k with rfl | h
  · simp
  · rw [if_neg (by omega)]
    have h0 : decide (k = 0) = false := by simp; omega
    rw [h0, Bool.false_or]
    by_cases e : cmpK H i j k (k - 1) = 0 <;> simp [e]

theorem keepSeq_any (x : Int) (w : World) : Calls Tryd.prog 64 #[.int .i64 x] w fun e w' => e = .returned (.bool (decide (x < 0))) ∧ w = w' := by
  go_enter Tryd.func64, Tryd.ntmps64
  go_wp2
  go_ret
  exact ⟨rfl, rfl⟩

section
variable (A : Option Addr) (c : Nat) (D : List CardV) (B : Nat) (a b : Int) (w : World) (h : Deck w B A D) (hB : B ≤ w.heap.size) (hn : D.length ≤ 1048576) (hl : ∀ d ∈ D, d.xs.length ≤ 1048576)
include h hB hn hl
set_option maxRecDepth 100000 in
set_option maxHeartbeats 4000000 in
theorem whereSeq_any (hcap : CapsOk D) (hP : Places w) :
    Calls Tryd.prog 61 #[.slice A D.length c, .agg #[.int .i64 a, .int .i64 b], .func (.func 64) #[] #[]] w (GivesIC (seqA (holes D) a b) (keysC (holes D) a b) w) := by
  obtain ⟨i0, hi0, hz0, hz1, hz2⟩ := info_parts info_int64
  have b2 : Below w.heap.size w ((w.alloc (.cells #[.int .i64 a, .int .i64 b] 26)).alloc (.cells #[.func (.func 64) #[] #[]] 102)) := (below_box w _).alloc (by simp) _
  have hs2 : w.heap.size + 2 = ((w.alloc (.cells #[.int .i64 a, .int .i64 b] 26)).alloc (.cells #[.func (.func 64) #[] #[]] 102)).heap.size := by simp
  have hk := entriesOf_any A c D B a b _ (h.below (b2.mono hB)) (by omega) hn hl hcap (hP.below b2)
  have p5 : ((w.alloc (.cells #[.int .i64 a, .int .i64 b] 26)).alloc (.cells #[.func (.func 64) #[] #[]] 102)).cell? ⟨w.heap.size + 1, 0, none⟩ = some (.func (.func 64) #[] #[]) := by simp [go_sem]
  have BW := Lib.hid b2
  obtain ⟨n, hN⟩ : ∃ n, D.length = n := ⟨_, rfl⟩
  by_cases e : keysC (holes D) a b = 0
  · obtain ⟨i, j, rfl, rfl, hij, hj, hv, hkb⟩ := keysC_zero e
    have ha : seqA (holes D) i j = wherePl (seqQ (holes D) i j) n := by
      unfold seqA
      rw [if_pos e, Int.toNat_natCast, Int.toNat_natCast, holes_len, hN]
    rw [ha, e]
    rw [e, Int.toNat_natCast, Int.toNat_natCast, hN] at hk
    rw [hN]
    have HK := Lib.hid hk
    have HN := Lib.hid hN
    have HQ : Hid (deckB (holes D) = true ∧ keysB (holes D) i j = true ∧ i < j ∧ j ≤ widthH (holes D)) := ⟨hv, hkb, hij, hj⟩
    clear hk h hl hcap b2 e hv hkb hj hij hN hP ha
    refine (callsIn_wide (n := 6)).1 ?_
    refine callsIn_of_wp_marks Tryd.func61 rfl trivial ?_ rfl
    simp only [Tryd.ntmps61, List.size_toArray, List.length_cons, List.length_nil, Nat.reduceAdd, Nat.reduceSub, Array.replicate_succ, Array.replicate_zero, List.push_toArray, List.append_toArray, List.nil_append, List.cons_append]
    gi_wp2_with (first
      | (refine ⟨trivial, ?_⟩; gi_at_call 54; refine (callsIn_wide.2 HK.out).mono ?_; rintro e w1 (⟨h0, _⟩ | ⟨_, g, E, K, rfl, hb, hE, hC, hKK, hEnt⟩); (exact absurd rfl h0); have B1 := Lib.hid (below_step BW.out hb); have q5 := cell_kept p5 hb; have HEnt := Lib.hid hEnt; have HEE := Lib.hid hE; have HKK := Lib.hid hKK; clear hb hE hC hKK hEnt)
      | (refine ⟨trivial, ?_⟩; gi_at_call 82; refine (callsIn_wide.2 (orders_any _ _ _ _)).mono ?_; rintro e w2 ⟨rfl, rfl⟩))
    have hEO : EntsOf D i j n E K := ⟨HN.out, HEE.out, HKK.out, HQ.out.1, HQ.out.2.1, HQ.out.2.2.1, HQ.out.2.2.2⟩
    have hn40 := hEO.n40
    have bK : Boxed ((w1.alloc (.cells #[.slice none 0 0] 34)).alloc (.cells #[.slice (some ⟨g, 0, none⟩) n n] 68)) w1.heap.size 34 (.slice none 0 0) := (Boxed.new w1 34 (.slice none 0 0)).alloc _
    have bS := Boxed.new (w1.alloc (.cells #[.slice none 0 0] 34)) 68 (.slice (some ⟨g, 0, none⟩) n n)
    rw [World.size_alloc] at bS
    have hb0 : Below w1.heap.size w1 ((w1.alloc (.cells #[.slice none 0 0] 34)).alloc (.cells #[.slice (some ⟨g, 0, none⟩) n n] 68)) := (below_box w1 _).alloc (by simp) _
    have hsz : w1.heap.size + 2 = ((w1.alloc (.cells #[.slice none 0 0] 34)).alloc (.cells #[.slice (some ⟨g, 0, none⟩) n n] 68)).heap.size := by simp
    have hst := orders_stops hEO HEnt.out _ hb0 (w1.heap.size + 1) bS
    have h5 : w.heap.size + 1 < w1.heap.size := by have := World.block_lt_of_cell? _ _ q5; simpa using this
    have HQF : Hid (∀ (x : Nat) (W : World), Calls Tryd.prog 64 #[.int .i64 (ordI (holes D) i j x)] W fun e w' => e = .returned (.bool (seqQ (holes D) i j x)) ∧ W = w') := fun x W => by
      rw [← seq_ord]
      exact keepSeq_any _ W
    clear HEnt HK hEO p5 BW
    generalize (w1.alloc (.cells #[.slice none 0 0] 34)).alloc (.cells #[.slice (some ⟨g, 0, none⟩) n n] 68) = W0 at *
    refine wpIn_rangeFunc_ownF rfl (by omega) (gf := 91) (lb := #[.pointer (some ⟨w1.heap.size + 1, 0, none⟩)]) rfl trivial (enters_of Tryd.func91 (by kernel_rfl) rfl) hst kpO_t (kpO_b (by omega) (by omega)) (Below.refl _ _) (fun _ => rfl)
      (fun pre W => (∃ v, Boxed W w1.heap.size 34 v ∧ W.ownsRow w1.heap.size 2 1 v (keptL (seqQ (holes D) i j) pre).length ((keptL (seqQ (holes D) i j) pre).map (Value.int .i64)) ∧ True) ∧ Below w1.heap.size w1 W ∧ Boxed W (w1.heap.size + 1) 68 (.slice (some ⟨g, 0, none⟩) n n))
      (fun _ _ _ => False)
      (OwnFrom.and (Own.from (holdsRow_own w1.heap.size w1.heap.size 34 2 1 (fun pre => (keptL (seqQ (holes D) i j) pre).length) (fun pre => (keptL (seqQ (holes D) i j) pre).map (Value.int .i64)) (fun _ _ => True)) _) (OwnFrom.and (ownFrom_below (Nat.le_refl _) (by omega)) (Own.from (boxed_own _ _ (fun _ => .slice (some ⟨g, 0, none⟩) n n)) _)))
      (fun _ _ _ _ _ hs _ _ => hs)
      ⟨⟨_, bK, World.ownsRow_nil _ _ _ _, trivial⟩, hb0, bS⟩
      (fun x => { tmps := #[.slice A n c, .agg #[.int .i64 i, .int .i64 j], .func (.func 64) #[] #[], undef, .pointer (some ⟨w.heap.size, 0, none⟩), .pointer (some ⟨w.heap.size + 1, 0, none⟩), .slice none 0 0, .int .i64 0, .slice (some ⟨g, 0, none⟩) n n, .int .i64 0, .pointer (some ⟨w1.heap.size, 0, none⟩), .int .i64 x, .int .i64 (ordI (holes D) i j x), .tuple #[.slice (some ⟨g, 0, none⟩) n n, .int .i64 0], .slice A n c, .agg #[.int .i64 i, .int .i64 j], .tuple #[.slice (some ⟨g, 0, none⟩) n n, .int .i64 0], .slice (some ⟨g, 0, none⟩) n n, .int .i64 0, .int .i64 0, .bool false, undef, .slice (some ⟨g, 0, none⟩) n n, .func (.func 91) #[] #[.pointer (some ⟨w1.heap.size + 1, 0, none⟩)], .int .i64 x, .int .i64 (ordI (holes D) i j x), undef, undef, undef, undef, undef, undef, undef, undef], defers := [] }) ?assign ?body ?done ?stop
    case assign =>
      intro l x W K hK
      simp only [ordE]
      gi_wp2
      exact hK
    case body =>
      rintro l pre x W ⟨⟨v, hv, hrow, _⟩, hB, hX⟩ hlt
      have hc := hv.cell
      have hk5 := cell_kept q5 hB
      have hpl := keptL_len (seqQ (holes D) i j) pre
      have hqf := HQF.out x W
      obtain ⟨r, hr⟩ : ∃ r, seqQ (holes D) i j x = r := ⟨_, rfl⟩
      rw [hr] at hqf
      have HR := Lib.hid hr
      have HF := Lib.hid hqf
      obtain ⟨m, hm⟩ : ∃ m, ordI (holes D) i j x = m := ⟨_, rfl⟩
      rw [hm] at HF ⊢
      clear hr hqf hm hst bK bS hb0 HQF
      cases r
      · gi_wp2_with (refine ⟨trivial, ?_⟩; gi_at_call 64; refine (CallsIn.inRound l (callsIn_wide.2 HF.out)).mono ?_; rintro e w' ⟨rfl, rfl⟩)
        exact ⟨KeepsOthers.refl _, ⟨Below.refl _ _, id⟩, ⟨v, hv, by rw [keptL_no HR.out]; exact hrow, trivial⟩, hB, hX⟩
      · gi_wp2_with (first
          | (refine ⟨trivial, ?_⟩; gi_at_call 64; refine (CallsIn.inRound l (callsIn_wide.2 HF.out)).mono ?_; rintro e w' ⟨rfl, rfl⟩)
          | (gi_at_builtin; refine wpListIn_append_own _ rfl _ _ 34 rfl w1.heap.size 2 i0 (.int .i64 0) 1 8 Tryd.underlying34 hi0 hz0 hz1 hz2 rfl (by decide) _ _ _ rfl (hrow.alloc _) ⟨W.heap.size, 0, none⟩ 1 1 [.int .i64 x] rfl rfl (cell_one_new _ _ _) (by simp [Value.oneCell']) (by unfold maxLen; omega) (by omega) (by have := hB.size; simp; omega) ?_; intro v' w2 hown' hgrow _; obtain ⟨g', cap', rfl⟩ := ownsRow_succ hown'; obtain ⟨hv1, hv2, hr2, hk2, hb2⟩ := hv.appended (by decide) hrow hB.size (Nat.le_refl _) hown' hgrow; have hc1 := hv1.cell; have hf1 := hv1.frozen; have hX2 : Boxed (w2.setCell ⟨w1.heap.size, 0, none⟩ (.slice (some ⟨g', 0, none⟩) ((keptL (seqQ (holes D) i j) pre).length + 1) cap')) (w1.heap.size + 1) 68 (.slice (some ⟨g, 0, none⟩) n n) := ((hX.alloc _).kept hgrow (by exact hX.not_row (by decide) hrow)).kept (grownBy_setCell' _ _ _) (by simp)))
        exact ⟨hk2, ⟨hb2, fun _ => hX2⟩, ⟨_, hv2, by rw [keptL_yes HR.out]; simpa using hr2, trivial⟩, hB.trans hb2, hX2⟩
    case done =>
      rintro Dd ys W hD rfl ⟨⟨v, hv, hrow, _⟩, hB, hX⟩ hK
      rw [keptL_range] at hrow
      have hc := hv.cell
      obtain ⟨A9, c9, rfl, hA⟩ := owned_list hrow rfl
      have hb9 : Below w1.heap.size w1 (W.putObj Dd (.deferred none)) := hB.trans (belowK_b (w := W0) (by omega) W Dd _ _ hD hK rfl rfl)
      have hlen := wherePl_len (seqQ (holes D) i j) n
      have HA := Lib.hid hA
      have HB9 := Lib.hid (below_step B1.out hb9)
      have HS9 := Lib.hid (World.block_lt_of_cell? _ _ hc)
      have HKD := Lib.hid hK
      have hz : w.heap.size ≤ w1.heap.size := by omega
      clear hst bK bS hb0 HQF hrow hv hX hA hB hK hb9
      gi_wp2
      refine ⟨by simp, .inl ⟨_, _, rfl, run_takeDeferred HKD.out, ?_⟩⟩
      refine ⟨.tuple #[.slice A9 (wherePl (seqQ (holes D) i j) n).length c9, .int .i64 0], (by simp [results, Tryd.results61, go_sem]), A9, c9, rfl, HB9.out, fun h0 => ?_, Nat.le_refl _⟩
      obtain ⟨g9, ex9, e9, hg9, hr9⟩ := HA.out h0
      have hr10 : Row (W.putObj Dd (.deferred none)) g9 (wherePl (seqQ (holes D) i j) n) ex9 := (World.putObj_heap_other (fun e => by subst e; unfold Row at hr9; rw [hr9] at HKD; cases Option.some.inj HKD.out)).trans hr9
      exact ⟨g9, ex9, e9, by omega, hr10.lt, hr10⟩
    case stop =>
      rintro Dd cc pre W _ _ h _
      exact h.elim
  · obtain ⟨k, hk0⟩ : ∃ k, keysC (holes D) a b = k := ⟨_, rfl⟩
    have ha : seqA (holes D) a b = [] := by
      unfold seqA
      rw [if_neg e]
    rw [ha, hk0]
    rw [hk0] at hk e
    rw [hN] at hk ⊢
    have e1 : (k != 0) = true := by simpa using e
    have HK := Lib.hid hk
    clear hk h hl hcap b2 hk0 hN hn hP ha
    refine (callsIn_wide (n := 6)).1 ?_
    refine callsIn_of_wp_marks Tryd.func61 rfl trivial ?_ rfl
    simp only [Tryd.ntmps61, List.size_toArray, List.length_cons, List.length_nil, Nat.reduceAdd, Nat.reduceSub, Array.replicate_succ, Array.replicate_zero, List.push_toArray, List.append_toArray, List.nil_append, List.cons_append]
    gi_wp2_with (refine ⟨trivial, ?_⟩; gi_at_call 54; refine (callsIn_wide.2 HK.out).mono ?_; rintro e' w1 (⟨_, rfl, hb⟩ | ⟨h0, _⟩); rotate_left; (exact absurd h0 e); have B1 := Lib.hid (below_step BW.out hb); clear hb)
    refine ⟨.tuple #[.slice none 0 0, .int .i64 k], (by simp [results, Tryd.results61, go_sem]), none, 0, rfl, B1.out, fun h0 => absurd h0 (by simp), Nat.le_refl _⟩
end

theorem keepGrp_any (x : Int) (w : World) : Calls Tryd.prog 62 #[.int .i64 x] w fun e w' => e = .returned (.bool (x != 0)) ∧ w = w' := by
  go_enter Tryd.func62, Tryd.ntmps62
  go_wp2
  go_ret
  exact ⟨rfl, rfl⟩

section
variable (A : Option Addr) (c : Nat) (D : List CardV) (B : Nat) (a b : Int) (w : World) (h : Deck w B A D) (hB : B ≤ w.heap.size) (hn : D.length ≤ 1048576) (hl : ∀ d ∈ D, d.xs.length ≤ 1048576)
include h hB hn hl
set_option maxRecDepth 100000 in
set_option maxHeartbeats 4000000 in
theorem whereGrp_any (hcap : CapsOk D) (hP : Places w) :
    Calls Tryd.prog 61 #[.slice A D.length c, .agg #[.int .i64 a, .int .i64 b], .func (.func 62) #[] #[]] w (GivesIC (grpA (holes D) a b) (keysC (holes D) a b) w) := by
  obtain ⟨i0, hi0, hz0, hz1, hz2⟩ := info_parts info_int64
  have b2 : Below w.heap.size w ((w.alloc (.cells #[.int .i64 a, .int .i64 b] 26)).alloc (.cells #[.func (.func 62) #[] #[]] 102)) := (below_box w _).alloc (by simp) _
  have hs2 : w.heap.size + 2 = ((w.alloc (.cells #[.int .i64 a, .int .i64 b] 26)).alloc (.cells #[.func (.func 62) #[] #[]] 102)).heap.size := by simp
  have hk := entriesOf_any A c D B a b _ (h.below (b2.mono hB)) (by omega) hn hl hcap (hP.below b2)
  have p5 : ((w.alloc (.cells #[.int .i64 a, .int .i64 b] 26)).alloc (.cells #[.func (.func 62) #[] #[]] 102)).cell? ⟨w.heap.size + 1, 0, none⟩ = some (.func (.func 62) #[] #[]) := by simp [go_sem]
  have BW := Lib.hid b2
  obtain ⟨n, hN⟩ : ∃ n, D.length = n := ⟨_, rfl⟩
  by_cases e : keysC (holes D) a b = 0
  · obtain ⟨i, j, rfl, rfl, hij, hj, hv, hkb⟩ := keysC_zero e
    have ha : grpA (holes D) i j = wherePl (grpQ (holes D) i j) n := by
      unfold grpA
      rw [if_pos e, Int.toNat_natCast, Int.toNat_natCast, holes_len, hN]
    rw [ha, e]
    rw [e, Int.toNat_natCast, Int.toNat_natCast, hN] at hk
    rw [hN]
    have HK := Lib.hid hk
    have HN := Lib.hid hN
    have HQ : Hid (deckB (holes D) = true ∧ keysB (holes D) i j = true ∧ i < j ∧ j ≤ widthH (holes D)) := ⟨hv, hkb, hij, hj⟩
    clear hk h hl hcap b2 e hv hkb hj hij hN hP ha
    refine (callsIn_wide (n := 6)).1 ?_
    refine callsIn_of_wp_marks Tryd.func61 rfl trivial ?_ rfl
    simp only [Tryd.ntmps61, List.size_toArray, List.length_cons, List.length_nil, Nat.reduceAdd, Nat.reduceSub, Array.replicate_succ, Array.replicate_zero, List.push_toArray, List.append_toArray, List.nil_append, List.cons_append]
    gi_wp2_with (first
      | (refine ⟨trivial, ?_⟩; gi_at_call 54; refine (callsIn_wide.2 HK.out).mono ?_; rintro e w1 (⟨h0, _⟩ | ⟨_, g, E, K, rfl, hb, hE, hC, hKK, hEnt⟩); (exact absurd rfl h0); have B1 := Lib.hid (below_step BW.out hb); have q5 := cell_kept p5 hb; have HEnt := Lib.hid hEnt; have HEE := Lib.hid hE; have HKK := Lib.hid hKK; clear hb hE hC hKK hEnt)
      | (refine ⟨trivial, ?_⟩; gi_at_call 82; refine (callsIn_wide.2 (orders_any _ _ _ _)).mono ?_; rintro e w2 ⟨rfl, rfl⟩))
    have hEO : EntsOf D i j n E K := ⟨HN.out, HEE.out, HKK.out, HQ.out.1, HQ.out.2.1, HQ.out.2.2.1, HQ.out.2.2.2⟩
    have hn40 := hEO.n40
    have bK : Boxed ((w1.alloc (.cells #[.slice none 0 0] 34)).alloc (.cells #[.slice (some ⟨g, 0, none⟩) n n] 68)) w1.heap.size 34 (.slice none 0 0) := (Boxed.new w1 34 (.slice none 0 0)).alloc _
    have bS := Boxed.new (w1.alloc (.cells #[.slice none 0 0] 34)) 68 (.slice (some ⟨g, 0, none⟩) n n)
    rw [World.size_alloc] at bS
    have hb0 : Below w1.heap.size w1 ((w1.alloc (.cells #[.slice none 0 0] 34)).alloc (.cells #[.slice (some ⟨g, 0, none⟩) n n] 68)) := (below_box w1 _).alloc (by simp) _
    have hsz : w1.heap.size + 2 = ((w1.alloc (.cells #[.slice none 0 0] 34)).alloc (.cells #[.slice (some ⟨g, 0, none⟩) n n] 68)).heap.size := by simp
    have hst := orders_stops hEO HEnt.out _ hb0 (w1.heap.size + 1) bS
    have h5 : w.heap.size + 1 < w1.heap.size := by have := World.block_lt_of_cell? _ _ q5; simpa using this
    have HQF : Hid (∀ (x : Nat) (W : World), Calls Tryd.prog 62 #[.int .i64 (ordI (holes D) i j x)] W fun e w' => e = .returned (.bool (grpQ (holes D) i j x)) ∧ W = w') := fun x W => by
      rw [← grp_ord]
      exact keepGrp_any _ W
    clear HEnt HK hEO p5 BW
    generalize (w1.alloc (.cells #[.slice none 0 0] 34)).alloc (.cells #[.slice (some ⟨g, 0, none⟩) n n] 68) = W0 at *
    refine wpIn_rangeFunc_ownF rfl (by omega) (gf := 91) (lb := #[.pointer (some ⟨w1.heap.size + 1, 0, none⟩)]) rfl trivial (enters_of Tryd.func91 (by kernel_rfl) rfl) hst kpO_t (kpO_b (by omega) (by omega)) (Below.refl _ _) (fun _ => rfl)
      (fun pre W => (∃ v, Boxed W w1.heap.size 34 v ∧ W.ownsRow w1.heap.size 2 1 v (keptL (grpQ (holes D) i j) pre).length ((keptL (grpQ (holes D) i j) pre).map (Value.int .i64)) ∧ True) ∧ Below w1.heap.size w1 W ∧ Boxed W (w1.heap.size + 1) 68 (.slice (some ⟨g, 0, none⟩) n n))
      (fun _ _ _ => False)
      (OwnFrom.and (Own.from (holdsRow_own w1.heap.size w1.heap.size 34 2 1 (fun pre => (keptL (grpQ (holes D) i j) pre).length) (fun pre => (keptL (grpQ (holes D) i j) pre).map (Value.int .i64)) (fun _ _ => True)) _) (OwnFrom.and (ownFrom_below (Nat.le_refl _) (by omega)) (Own.from (boxed_own _ _ (fun _ => .slice (some ⟨g, 0, none⟩) n n)) _)))
      (fun _ _ _ _ _ hs _ _ => hs)
      ⟨⟨_, bK, World.ownsRow_nil _ _ _ _, trivial⟩, hb0, bS⟩
      (fun x => { tmps := #[.slice A n c, .agg #[.int .i64 i, .int .i64 j], .func (.func 62) #[] #[], undef, .pointer (some ⟨w.heap.size, 0, none⟩), .pointer (some ⟨w.heap.size + 1, 0, none⟩), .slice none 0 0, .int .i64 0, .slice (some ⟨g, 0, none⟩) n n, .int .i64 0, .pointer (some ⟨w1.heap.size, 0, none⟩), .int .i64 x, .int .i64 (ordI (holes D) i j x), .tuple #[.slice (some ⟨g, 0, none⟩) n n, .int .i64 0], .slice A n c, .agg #[.int .i64 i, .int .i64 j], .tuple #[.slice (some ⟨g, 0, none⟩) n n, .int .i64 0], .slice (some ⟨g, 0, none⟩) n n, .int .i64 0, .int .i64 0, .bool false, undef, .slice (some ⟨g, 0, none⟩) n n, .func (.func 91) #[] #[.pointer (some ⟨w1.heap.size + 1, 0, none⟩)], .int .i64 x, .int .i64 (ordI (holes D) i j x), undef, undef, undef, undef, undef, undef, undef, undef], defers := [] }) ?assign ?body ?done ?stop
    case assign =>
      intro l x W K hK
      simp only [ordE]
      gi_wp2
      exact hK
    case body =>
      rintro l pre x W ⟨⟨v, hv, hrow, _⟩, hB, hX⟩ hlt
      have hc := hv.cell
      have hk5 := cell_kept q5 hB
      have hpl := keptL_len (grpQ (holes D) i j) pre
      have hqf := HQF.out x W
      obtain ⟨r, hr⟩ : ∃ r, grpQ (holes D) i j x = r := ⟨_, rfl⟩
      rw [hr] at hqf
      have HR := Lib.hid hr
      have HF := Lib.hid hqf
      obtain ⟨m, hm⟩ : ∃ m, ordI (holes D) i j x = m := ⟨_, rfl⟩
      rw [hm] at HF ⊢
      clear hr hqf hm hst bK bS hb0 HQF
      cases r
      · gi_wp2_with (refine ⟨trivial, ?_⟩; gi_at_call 62; refine (CallsIn.inRound l (callsIn_wide.2 HF.out)).mono ?_; rintro e w' ⟨rfl, rfl⟩)
        exact ⟨KeepsOthers.refl _, ⟨Below.refl _ _, id⟩, ⟨v, hv, by rw [keptL_no HR.out]; exact hrow, trivial⟩, hB, hX⟩
      · gi_wp2_with (first
          | (refine ⟨trivial, ?_⟩; gi_at_call 62; refine (CallsIn.inRound l (callsIn_wide.2 HF.out)).mono ?_; rintro e w' ⟨rfl, rfl⟩)
          | (gi_at_builtin; refine wpListIn_append_own _ rfl _ _ 34 rfl w1.heap.size 2 i0 (.int .i64 0) 1 8 Tryd.underlying34 hi0 hz0 hz1 hz2 rfl (by decide) _ _ _ rfl (hrow.alloc _) ⟨W.heap.size, 0, none⟩ 1 1 [.int .i64 x] rfl rfl (cell_one_new _ _ _) (by simp [Value.oneCell']) (by unfold maxLen; omega) (by omega) (by have := hB.size; simp; omega) ?_; intro v' w2 hown' hgrow _; obtain ⟨g', cap', rfl⟩ := ownsRow_succ hown'; obtain ⟨hv1, hv2, hr2, hk2, hb2⟩ := hv.appended (by decide) hrow hB.size (Nat.le_refl _) hown' hgrow; have hc1 := hv1.cell; have hf1 := hv1.frozen; have hX2 : Boxed (w2.setCell ⟨w1.heap.size, 0, none⟩ (.slice (some ⟨g', 0, none⟩) ((keptL (grpQ (holes D) i j) pre).length + 1) cap')) (w1.heap.size + 1) 68 (.slice (some ⟨g, 0, none⟩) n n) := ((hX.alloc _).kept hgrow (by exact hX.not_row (by decide) hrow)).kept (grownBy_setCell' _ _ _) (by simp)))
        exact ⟨hk2, ⟨hb2, fun _ => hX2⟩, ⟨_, hv2, by rw [keptL_yes HR.out]; simpa using hr2, trivial⟩, hB.trans hb2, hX2⟩
    case done =>
      rintro Dd ys W hD rfl ⟨⟨v, hv, hrow, _⟩, hB, hX⟩ hK
      rw [keptL_range] at hrow
      have hc := hv.cell
      obtain ⟨A9, c9, rfl, hA⟩ := owned_list hrow rfl
      have hb9 : Below w1.heap.size w1 (W.putObj Dd (.deferred none)) := hB.trans (belowK_b (w := W0) (by omega) W Dd _ _ hD hK rfl rfl)
      have hlen := wherePl_len (grpQ (holes D) i j) n
      have HA := Lib.hid hA
      have HB9 := Lib.hid (below_step B1.out hb9)
      have HS9 := Lib.hid (World.block_lt_of_cell? _ _ hc)
      have HKD := Lib.hid hK
      have hz : w.heap.size ≤ w1.heap.size := by omega
      clear hst bK bS hb0 HQF hrow hv hX hA hB hK hb9
      gi_wp2
      refine ⟨by simp, .inl ⟨_, _, rfl, run_takeDeferred HKD.out, ?_⟩⟩
      refine ⟨.tuple #[.slice A9 (wherePl (grpQ (holes D) i j) n).length c9, .int .i64 0], (by simp [results, Tryd.results61, go_sem]), A9, c9, rfl, HB9.out, fun h0 => ?_, Nat.le_refl _⟩
      obtain ⟨g9, ex9, e9, hg9, hr9⟩ := HA.out h0
      have hr10 : Row (W.putObj Dd (.deferred none)) g9 (wherePl (grpQ (holes D) i j) n) ex9 := (World.putObj_heap_other (fun e => by subst e; unfold Row at hr9; rw [hr9] at HKD; cases Option.some.inj HKD.out)).trans hr9
      exact ⟨g9, ex9, e9, by omega, hr10.lt, hr10⟩
    case stop =>
      rintro Dd cc pre W _ _ h _
      exact h.elim
  · obtain ⟨k, hk0⟩ : ∃ k, keysC (holes D) a b = k := ⟨_, rfl⟩
    have ha : grpA (holes D) a b = [] := by
      unfold grpA
      rw [if_neg e]
    rw [ha, hk0]
    rw [hk0] at hk e
    rw [hN] at hk ⊢
    have e1 : (k != 0) = true := by simpa using e
    have HK := Lib.hid hk
    clear hk h hl hcap b2 hk0 hN hn hP ha
    refine (callsIn_wide (n := 6)).1 ?_
    refine callsIn_of_wp_marks Tryd.func61 rfl trivial ?_ rfl
    simp only [Tryd.ntmps61, List.size_toArray, List.length_cons, List.length_nil, Nat.reduceAdd, Nat.reduceSub, Array.replicate_succ, Array.replicate_zero, List.push_toArray, List.append_toArray, List.nil_append, List.cons_append]
    gi_wp2_with (refine ⟨trivial, ?_⟩; gi_at_call 54; refine (callsIn_wide.2 HK.out).mono ?_; rintro e' w1 (⟨_, rfl, hb⟩ | ⟨h0, _⟩); rotate_left; (exact absurd h0 e); have B1 := Lib.hid (below_step BW.out hb); clear hb)
    refine ⟨.tuple #[.slice none 0 0, .int .i64 k], (by simp [results, Tryd.results61, go_sem]), none, 0, rfl, B1.out, fun h0 => absurd h0 (by simp), Nat.le_refl _⟩
end

section
variable (A : Option Addr) (c : Nat) (D : List CardV) (B : Nat) (a b : Int) (w : World) (h : Deck w B A D) (hB : B ≤ w.heap.size) (hn : D.length ≤ 1048576) (hl : ∀ d ∈ D, d.xs.length ≤ 1048576)
include h hB hn hl
theorem implSeq_any (hcap : CapsOk D) (hP : Places w) :
    Calls Tryd.prog 28 #[.slice A D.length c, .agg #[.int .i64 a, .int .i64 b]] w (GivesIC (seqA (holes D) a b) (keysC (holes D) a b) w) := by
  have b0 := below_box w (.cells #[.int .i64 a, .int .i64 b] 26)
  have hk := whereSeq_any A c D B a b _ (h.below (b0.mono hB)) (by simp; omega) hn hl hcap (hP.below b0)
  have BW := Lib.hid b0
  have HK := Lib.hid hk
  have hsz : w.heap.size + 1 = (w.alloc (.cells #[.int .i64 a, .int .i64 b] 26)).heap.size := by simp
  have HSZ := Lib.hid hsz
  obtain ⟨L, hL⟩ : ∃ L, seqA (holes D) a b = L := ⟨_, rfl⟩
  obtain ⟨k, hk0⟩ : ∃ k, keysC (holes D) a b = k := ⟨_, rfl⟩
  obtain ⟨n, hN⟩ : ∃ n, D.length = n := ⟨_, rfl⟩
  rw [hL, hk0, hN] at HK
  rw [hL, hk0, hN]
  clear hk h hl hcap b0 hP hsz hL hk0 hN hn
  go_enter Tryd.func28, Tryd.ntmps28
  go_wp2_with fail
  refine HK.out.mono ?_
  rintro e w1 ⟨A1, c1, rfl, hb, hi⟩
  have B1 := Lib.hid (below_step BW.out hb)
  have HI := Lib.hid (hi.wide (lo' := w.heap.size) (hi' := w1.heap.size) (by simp) (Nat.le_refl _) (Nat.le_refl _))
  clear hb hi HK
  go_wp2
  go_ret2
  exact ⟨A1, c1, rfl, B1.out, HI.out⟩
theorem implGroups_any (hcap : CapsOk D) (hP : Places w) :
    Calls Tryd.prog 26 #[.slice A D.length c, .agg #[.int .i64 a, .int .i64 b]] w (GivesIC (grpA (holes D) a b) (keysC (holes D) a b) w) := by
  have b0 := below_box w (.cells #[.int .i64 a, .int .i64 b] 26)
  have hk := whereGrp_any A c D B a b _ (h.below (b0.mono hB)) (by simp; omega) hn hl hcap (hP.below b0)
  have BW := Lib.hid b0
  have HK := Lib.hid hk
  obtain ⟨L, hL⟩ : ∃ L, grpA (holes D) a b = L := ⟨_, rfl⟩
  obtain ⟨k, hk0⟩ : ∃ k, keysC (holes D) a b = k := ⟨_, rfl⟩
  obtain ⟨n, hN⟩ : ∃ n, D.length = n := ⟨_, rfl⟩
  rw [hL, hk0, hN] at HK
  rw [hL, hk0, hN]
  clear hk h hl hcap b0 hP hL hk0 hN hn
  go_enter Tryd.func26, Tryd.ntmps26
  go_wp2_with fail
  refine HK.out.mono ?_
  rintro e w1 ⟨A1, c1, rfl, hb, hi⟩
  have B1 := Lib.hid (below_step BW.out hb)
  have HI := Lib.hid (hi.wide (lo' := w.heap.size) (hi' := w1.heap.size) (by simp) (Nat.le_refl _) (Nat.le_refl _))
  clear hb hi HK
  go_wp2
  go_ret2
  exact ⟨A1, c1, rfl, B1.out, HI.out⟩
end
end Go.Proofs.YtdakbbgbglgioaaDoor

/- Whether entries are in order: slices.IsSortedFunc at entries and impl.inOrder: contracts. -/
namespace Go.Proofs.YtdakbbgbglgioaaDoor
open Go.ChangeShapes Go.WideShapes Go.ChangeAt Go.RowKit

theorem stepFrom_neg (q : Nat → Bool) : ∀ m k, stepFrom q m k < 0 ↔ ∀ t, t < m → q (k + t) = false
  | 0, k => by simp [stepFrom]
  | m + 1, k => by
    have ih := stepFrom_neg q m (k + 1)
    rw [stepFrom_succ]
    by_cases h : q k = true
    · rw [if_pos h]
      constructor
      · intro e; omega
      · intro e
        have := e 0 (by omega)
        rw [Nat.add_zero, h] at this
        cases this
    · rw [if_neg h, ih]
      constructor
      · intro e t ht
        match t with
        | 0 => simpa using h
        | t + 1 =>
          have := e t (by omega)
          rwa [show k + 1 + t = k + (t + 1) by omega] at this
      · intro e t ht
        have := e (t + 1) (by omega)
        rwa [show k + (t + 1) = k + 1 + t by omega] at this
theorem stepV_neg (H : List (List Int)) (i j : Nat) : stepV H i j < 0 ↔ ∀ t, t + 1 < H.length → 0 ≤ cmpK H i j (t + 1) t := by
  unfold stepV
  rw [stepFrom_neg]
  constructor
  · intro h t ht
    have := h t (by omega)
    unfold lessB at this
    rw [show 1 + t = t + 1 by omega, Nat.add_sub_cancel] at this
    have := of_decide_eq_false this
    omega
  · intro h t ht
    unfold lessB
    rw [show 1 + t = t + 1 by omega, Nat.add_sub_cancel]
    exact decide_eq_false (by have := h t (by omega); omega)

section
variable {D E K : List CardV} {i j n g lo : Nat} {w : World}
set_option maxRecDepth 100000 in
set_option maxHeartbeats 2000000 in
theorem isSortedF_any (hO : EntsOf D i j n E K) (he : Ents w lo g E K n) :
    Calls Tryd.prog 70 #[.slice (some ⟨g, 0, none⟩) n n, .func (.func 39) #[] #[]] w fun e w' => e = .returned (.bool (decide (stepV (holes D) i j < 0))) ∧ Below w.heap.size w w' := by
  have hn40 := hO.n40
  have hst := stepV_neg (holes D) i j
  rw [holes_len, hO.len] at hst
  obtain ⟨r, hr⟩ : ∃ r, decide (stepV (holes D) i j < 0) = r := ⟨_, rfl⟩
  rw [hr]
  have HE := Lib.hid he
  have HO := Lib.hid hO
  have HR := Lib.hid hr
  have HST := Lib.hid hst
  clear he hO hr hst
  rcases Nat.eq_zero_or_pos n with rfl | hpos
  · obtain rfl : r = true := by rw [← HR.out]; exact decide_eq_true (HST.out.2 (fun t ht => absurd ht (by omega)))
    go_enter Tryd.func70, Tryd.ntmps70
    go_wp2
    go_loopw [5] (fun x wr => x = .int .i64 (-1) ∧ wr = w) (fun _ _ => 0)
    case atStart => exact ⟨by go_num, rfl⟩
    case round =>
      obtain ⟨rfl, rfl⟩ := hrel
      go_wp2
      go_ret
      exact ⟨rfl, Below.refl _ _⟩
  · obtain ⟨m, rfl⟩ : ∃ m, n = m + 1 := ⟨n - 1, by omega⟩
    have e1 : IntKind.i64.wrap (m : Int) = (m : Int) := IntWalk.i64_in _ (by omega)
    have e2 : ((m + 1 : Nat) : Int) - 1 = (m : Int) := by omega
    go_enter Tryd.func70, Tryd.ntmps70
    go_wp2
    clear e1 e2
    go_loopw [5] (fun x wr => ∃ t : Nat, t ≤ m ∧ x = .int .i64 t ∧ Hid (∀ k, t ≤ k → k + 1 < m + 1 → 0 ≤ cmpK (holes D) i j (k + 1) k) ∧ Hid (Below w.heap.size w wr)) (fun x _ => (intOf x).toNat)
    case atStart => exact ⟨m, Nat.le_refl _, by go_num, fun k h1 h2 => by omega, Below.refl _ _⟩
    case round =>
      obtain ⟨t, ht, rfl, HK, HB⟩ := hrel
      rcases Nat.eq_zero_or_pos t with rfl | hpt
      · obtain rfl : r = true := by rw [← HR.out]; exact decide_eq_true (HST.out.2 (fun t ht => HK.out t (by omega) ht))
        go_wp2
        go_ret
        exact ⟨rfl, HB.out⟩
      · obtain ⟨s, rfl⟩ : ∃ s, t = s + 1 := ⟨t - 1, by omega⟩
        have hE := HE.out.later HB.out
        obtain ⟨v1, v2, c1, c2, c3, c4, ⟨a1, l1, z1, a2, z2, rfl⟩, ⟨a3, l3, z3, a4, z4, rfl⟩, hcmp⟩ := entCmp_at HO.out hE (show s + 1 < m + 1 by omega) (show s < m + 1 by omega)
        simp only at c1 c2 c3 c4 hcmp
        have hcm := hcmp wr.drew ((Below.refl _ wr).drew)
        obtain ⟨v, hv⟩ : ∃ v, cmpK (holes D) i j (s + 1) s = v := ⟨_, rfl⟩
        rw [hv] at hcm
        have HC := Lib.hid hcm
        have HV := Lib.hid hv
        have d1 : wr.drew.cell? ⟨g, (s + 1) * 2, none⟩ = some (.slice a1 l1 z1) := c1
        have d2 : wr.drew.cell? ⟨g, (s + 1) * 2 + 1, none⟩ = some (.slice a2 (j - i) z2) := c2
        have d3 : wr.drew.cell? ⟨g, s * 2, none⟩ = some (.slice a3 l3 z3) := c3
        have d4 : wr.drew.cell? ⟨g, s * 2 + 1, none⟩ = some (.slice a4 (j - i) z4) := c4
        have s0 : (0 : Int) ≤ (s : Int) := Int.natCast_nonneg _
        have s1 : (s : Int) < ((m + 1 : Nat) : Int) := by omega
        have s2 : ((s + 1 : Nat) : Int) = (s : Int) + 1 := by omega
        have s3 : (0 : Int) < (s : Int) + 1 := by omega
        have s4 : IntKind.i64.wrap (s : Int) = (s : Int) := IntWalk.i64_in _ (by omega)
        have s5 : (0 : Int) ≤ (s : Int) + 1 := by omega
        have s6 : (s : Int) + 1 < ((m + 1 : Nat) : Int) := by omega
        have s7 : ((s : Int) + 1).toNat = s + 1 := by omega
        rw [s2]
        clear hE hcmp hcm hv hpt
        by_cases hv0 : v < 0
        · obtain rfl : r = false := by
            rw [← HR.out]
            refine decide_eq_false (fun h => ?_)
            have := HST.out.1 h s (by omega)
            rw [HV.out] at this
            omega
          go_wp2_with fail
          go_region_with (go_at_call 39; refine HC.out.mono ?_; rintro e W3 ⟨rfl, hb3⟩; have e1 := cell_kept d1 hb3; have e2 := cell_kept d2 hb3; have e3 := cell_kept d3 hb3; have e4 := cell_kept d4 hb3; have HB3 := Lib.hid (below_step HB.out.drew hb3); clear hb3)
          all_goals
            go_wp2
            go_ret
            exact ⟨rfl, HB3.out⟩
        · have HK1 : Hid (∀ k, s ≤ k → k + 1 < m + 1 → 0 ≤ cmpK (holes D) i j (k + 1) k) := fun k h1 h2 => by
            by_cases h : k = s
            · subst h
              rw [HV.out]
              omega
            · exact HK.out k (by omega) h2
          have hv1 : 0 ≤ v := by omega
          go_wp2_with fail
          go_region_with (go_at_call 39; refine HC.out.mono ?_; rintro e W3 ⟨rfl, hb3⟩; have e1 := cell_kept d1 hb3; have e2 := cell_kept d2 hb3; have e3 := cell_kept d3 hb3; have e4 := cell_kept d4 hb3; have HB3 := Lib.hid (below_step HB.out.drew hb3); clear hb3)
          all_goals
            go_wp2
            go_roundw
            case rel => exact ⟨s, by omega, by go_num, HK1, HB3⟩
            case measure => (simp [intOf] <;> omega)

theorem inOrder_any (hO : EntsOf D i j n E K) (he : Ents w lo g E K n) :
    Calls Tryd.prog 37 #[.slice (some ⟨g, 0, none⟩) n n] w fun e w' => e = .returned (.bool (decide (stepV (holes D) i j < 0))) ∧ Below w.heap.size w w' := by
  have HS := Lib.hid (isSortedF_any hO he)
  obtain ⟨r, hr⟩ : ∃ r, decide (stepV (holes D) i j < 0) = r := ⟨_, rfl⟩
  rw [hr] at HS ⊢
  clear hr hO he
  go_enter Tryd.func37, Tryd.ntmps37
  go_wp2_with fail
  refine HS.out.mono ?_
  rintro e w1 ⟨rfl, hb⟩
  have B1 := Lib.hid hb
  clear hb
  go_wp2
  go_ret
  exact ⟨rfl, B1.out⟩
end
end Go.Proofs.YtdakbbgbglgioaaDoor
