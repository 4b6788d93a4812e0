/- The ranks by which a deck is sorted: impl.keysOf and what it calls: contracts. -/
import Derived.Test.YtamookdlbmbncabDoorSortMath
import Derived.Lib.SliceRun
import Derived.Test.YtamookdlbmbncabDoorSortStep
import Derived.Test.YtamookdlbmbncabDoorG4
namespace Go.Proofs.YtamookdlbmbncabDoor
open Go.ChangeShapes Go.WideShapes Go.ChangeAt Go.RowKit

theorem info_list : (Tryd.prog.info? 23).map (fun i => (i.zero, i.size, i.bytes)) = some (some (.slice none 0 0), 1, 24) := by kernel_rfl

/-- A list of lists of numbers in memory of its own: the block g of the lists, and for each a block of its own behind it. -/
structure OwnRows (w : World) (g : Nat) (E : List CardV) (n : Nat) : Prop where
  cards : w.heap[g]? = some (.cells (cellsOf E n).toArray 23 (0, 0))
  each : ∀ e ∈ E, ∃ ge, e.at_ = some ⟨ge, 0, none⟩ ∧ g < ge ∧ e.cap = e.xs.length ∧ Row w ge e.xs []

section
variable {w w' : World} {g n : Nat} {E : List CardV}
theorem OwnRows.lt (h : OwnRows w g E n) : g < w.heap.size := by
  rcases Nat.lt_or_ge g w.heap.size with hlt | hge
  · exact hlt
  · have := h.cards
    rw [Array.getElem?_eq_none hge] at this
    cases this
theorem OwnRows.later (h : OwnRows w g E n) (hb : Below w.heap.size w w') : OwnRows w' g E n :=
  ⟨(hb.block g h.lt).trans h.cards, fun e he => by
    obtain ⟨ge, h1, h2, h3, h4⟩ := h.each e he
    exact ⟨ge, h1, h2, h3, h4.later hb⟩⟩
theorem OwnRows.drew (h : OwnRows w g E n) : OwnRows w.drew g E n := ⟨h.cards, fun e he => by
  obtain ⟨ge, h1, h2, h3, h4⟩ := h.each e he
  exact ⟨ge, h1, h2, h3, h4.drew⟩⟩
theorem OwnRows.alloc (h : OwnRows w g E n) (o : Obj) : OwnRows (w.alloc o) g E n := h.later (below_box w o)
theorem OwnRows.cell (h : OwnRows w g E n) (i : Nat) : w.cell? ⟨g, i, none⟩ = (cellsOf E n)[i]? := by
  rw [cell_of_row w g i _ _ _ h.cards]
  simp
theorem OwnRows.frozen (h : OwnRows w g E n) (i : Nat) : w.frozen? ⟨g, i, none⟩ = false := by
  have := h.cards
  simp [World.frozen?, this]
theorem OwnRows.put (h : OwnRows w g E n) (e : CardV) (ge : Nat) (hn : E.length < n) (h1 : e.at_ = some ⟨ge, 0, none⟩) (h2 : g < ge) (h3 : e.cap = e.xs.length) (h4 : Row w ge e.xs []) :
    OwnRows (w.setCell ⟨g, E.length, none⟩ e.value) g (E ++ [e]) n := by
  refine ⟨?_, fun x hx => ?_⟩
  · have hc := h.cards
    simp only [World.setCell, Array.getElem?_modify, if_true, hc, Option.map_some]
    congr 2
    apply Array.ext'
    simp [cellsOf_set E n e hn]
  · rcases List.mem_append.1 hx with hx | hx
    · obtain ⟨gx, a1, a2, a3, a4⟩ := h.each x hx
      exact ⟨gx, a1, a2, a3, a4.far (by show gx ≠ g; omega) _⟩
    · obtain rfl : x = e := by simpa using hx
      exact ⟨ge, h1, h2, h3, h4.far (by show ge ≠ g; omega) _⟩
theorem OwnRows.deck (h : OwnRows w g E E.length) : Deck w w.heap.size (some ⟨g, 0, none⟩) E := fun _ => by
  refine ⟨g, 0, rfl, h.lt, fun i d hi => ?_⟩
  rw [Nat.zero_add, h.cell i, cellsOf_get E _ i d hi]
  obtain ⟨ge, h1, h2, _, h4⟩ := h.each d (List.mem_of_getElem? hi)
  refine ⟨rfl, ?_⟩
  rw [h1]
  exact h4.ints.more h4.lt
end


theorem ranks_any (A : Option Addr) (c : Nat) (ps : List Int) (B : Nat) (w : World) (h : Ints w B A ps) (hB : B ≤ w.heap.size) (hn : ps.length ≤ 1048576) (hP : Places w) :
    Calls Tryd.prog 56 #[.slice A ps.length c] w fun e w' => (textOk ps = false ∧ e = .returned (.tuple #[.slice none 0 0, .bool false]) ∧ Below w.heap.size w w') ∨
      (textOk ps = true ∧ ∃ g, e = .returned (.tuple #[.slice (some ⟨g, 0, none⟩) ps.length ps.length, .bool true]) ∧ w.heap.size ≤ g ∧ Below w.heap.size w w' ∧ Row w' g (ps.map rkI) []) := by
  obtain ⟨n, hN⟩ : ∃ n, ps.length = n := ⟨_, rfl⟩
  have hn' : n ≤ 1048576 := by omega
  have hmk := run_make_row' (P := Tryd.prog) 23 2 (.int .i64 0) 8 Tryd.underlying23 info_int64 rfl .i64 .i64 n (by omega) (by omega)
  have hlm : (ps.map rkI).length = n := by simp [hN]
  obtain ⟨qs, hq⟩ : ∃ qs, ps.map rkI = qs := ⟨_, rfl⟩
  have hqg : ∀ k, k < n → qs[k]?.getD 0 = rkI (ps[k]?.getD 0) := fun k hk => by
    rw [← hq, List.getElem?_map, List.getElem?_eq_getElem (by omega)]
    rfl
  rw [hq] at hlm ⊢
  obtain ⟨r, hr⟩ : ∃ r, textOk ps = r := ⟨_, rfl⟩
  rw [hr, hN]
  have H := Lib.hid h
  have HN := Lib.hid hN
  have HQ := Lib.hid hqg
  have HLM := Lib.hid hlm
  have HR := Lib.hid hr
  have HPL := Lib.hid hP
  have HRI := Lib.hid rankIn_any
  clear h hN hq hqg hlm hr hP
  go_enter Tryd.func56, Tryd.ntmps56
  go_wp2
  clear hmk
  go_loopw [14] (fun i wr => ∃ k : Nat, k ≤ n ∧ i = .int .i64 k ∧ Hid (textOk (ps.take k) = true) ∧ Copied w wr (part qs k)) (fun i _ => n - (intOf i).toNat)
  case atStart =>
    refine ⟨0, Nat.zero_le _, rfl, by show _ = _; simp [textOk], (Below.refl _ _).alloc (Nat.le_refl _) _, by simp, ?_⟩
    rw [madeCells_int, part_zero, HLM.out]
    exact heap_alloc_new w _
  case round =>
    obtain ⟨k, hk, rfl, HT, hc⟩ := hrel
    by_cases hlt : k < n
    · obtain ⟨b, off, rfl, hb, hcell⟩ := (H.out.below (hc.below.mono hB)) (by rw [HN.out]; omega)
      have h1 := hcell k (by rw [HN.out]; exact hlt)
      have hp := part_length qs k (by rw [HLM.out]; exact hk)
      have h2 := hc.row.cell (i := k) (by rw [hp, HLM.out]; omega)
      have h3 := hc.row.frozen k
      obtain ⟨x, hx⟩ : ∃ x, ps[k]?.getD 0 = x := ⟨_, rfl⟩
      rw [hx] at h1
      obtain ⟨u, hu⟩ : ∃ u, charOk x = u := ⟨_, rfl⟩
      have hri := HRI.out x wr (HPL.out.below hc.below)
      rw [hu] at hri
      have HI := Lib.hid hri
      have HX := Lib.hid hx
      have HU := Lib.hid hu
      have HC := Lib.hid hc
      have Hp := Lib.hid hp
      have k0 : (0 : Int) ≤ (k : Int) := Int.natCast_nonneg _
      have k1 : (k : Int) < (n : Int) := by omega
      clear hc hcell H hp hx hu hri hb
      cases u
      · obtain rfl : r = false := by
          rw [← HR.out]
          have hkl : k < ps.length := by rw [HN.out]; exact hlt
          rw [textOk, List.all_eq_false]
          refine ⟨ps[k], List.getElem_mem hkl, ?_⟩
          have := HX.out
          rw [List.getElem?_eq_getElem hkl] at this
          have e : ps[k] = x := this
          rw [e, HU.out]
          simp
        go_wp2_with (go_at_call 62; refine HI.out.mono ?_; rintro e w' ⟨rfl, rfl⟩)
        go_ret2
        exact ⟨rfl, HC.out.below⟩
      · have HT1 : Hid (textOk (ps.take (k + 1)) = true) := by
          show textOk (ps.take (k + 1)) = true
          have hkl : k < ps.length := by rw [HN.out]; exact hlt
          have := HX.out
          rw [List.getElem?_eq_getElem hkl] at this
          have e : ps[k] = x := this
          have h0 := HT.out
          rw [textOk] at h0 ⊢
          rw [List.take_succ_eq_append_getElem hkl, List.all_append, h0, e]
          simp [HU.out]
        obtain ⟨y, hy⟩ : ∃ y, rkI x = y := ⟨_, rfl⟩
        have hy' : qs[k]?.getD 0 = y := by rw [HQ.out k hlt, HX.out, hy]
        rw [hy] at HI
        have HY := Lib.hid hy'
        clear hy hy'
        go_wp2_with (go_at_call 62; refine HI.out.mono ?_; rintro e w' ⟨rfl, rfl⟩)
        go_roundw
        case rel =>
          refine ⟨k + 1, by omega, by go_num, HT1, ?_, ?_, ?_⟩
          · exact HC.out.below.setCell (by simp) _
          · have := HC.out.size
            simpa [World.setCell] using this
          · rw [← part_set qs k (by rw [HLM.out]; exact hlt), HY.out]
            exact HC.out.row.set (by rw [Hp.out, HLM.out]; exact hlt) _
        case measure => simp [intOf]; omega
    · have hkn : k = n := by omega
      have k1 : ¬ (k : Int) < (n : Int) := by omega
      have hpa : part qs k = qs := by rw [hkn, ← HLM.out, part_all]
      rw [hpa] at hc
      obtain rfl : r = true := by
        rw [← HR.out]
        have := HT.out
        rwa [List.take_of_length_le (by rw [HN.out]; omega)] at this
      have HC := Lib.hid hc
      clear hc H hkn hpa
      go_wp2
      go_ret2
      exact ⟨w.heap.size, rfl, Nat.le_refl _, HC.out.below, HC.out.row⟩

/-- slices.Compare of two lists of ranks -/
theorem slicesCompare_any (A A' : Option Addr) (c c' : Nat) (xs ys : List Int) (n B B' : Nat) (w : World) (h : Ints w B A (xs.map rkI)) (h' : Ints w B' A' (ys.map rkI)) (hx : xs.length = n) (hy : ys.length = n) (hn : n ≤ 1048576) :
    Calls Tryd.prog 44 #[.slice A n c, .slice A' n c'] w fun e w' => e = .returned (.int .i64 (cmpTo xs ys n)) ∧ w = w' := by
  obtain ⟨r, hr⟩ : ∃ r, cmpTo xs ys n = r := ⟨_, rfl⟩
  rw [hr]
  have H := Lib.hid h
  have H' := Lib.hid h'
  have HX := Lib.hid hx
  have HY := Lib.hid hy
  have HR := Lib.hid hr
  have HCC := Lib.hid cmpCompare_any
  clear h h' hx hy hr
  go_enter Tryd.func44, Tryd.ntmps44
  go_wp2
  go_loop [11] (fun i => ∃ k : Nat, k ≤ n ∧ i = .int .i64 k ∧ Hid (cmpTo xs ys k = 0)) (fun i => n - (intOf i).toNat)
  case atStart => exact ⟨0, Nat.zero_le _, rfl, rfl⟩
  case round =>
    obtain ⟨k, hk, rfl, HZ⟩ := hrel
    by_cases hlt : k < n
    · obtain ⟨b, off, rfl, hb, hcell⟩ := H.out (by simp [HX.out]; omega)
      obtain ⟨b', off', rfl, hb', hcell'⟩ := H'.out (by simp [HY.out]; omega)
      have hx : k < xs.length := by rw [HX.out]; exact hlt
      have hy : k < ys.length := by rw [HY.out]; exact hlt
      have h1 := hcell k (by simpa using hx)
      have h2 := hcell' k (by simpa using hy)
      rw [List.getElem?_map, List.getElem?_eq_getElem hx] at h1
      rw [List.getElem?_map, List.getElem?_eq_getElem hy] at h2
      have hcs := cmpTo_step xs ys k
      rw [HZ.out, if_neg (by simp), List.getElem?_eq_getElem hx, List.getElem?_eq_getElem hy] at hcs
      simp only [Option.map_some, Option.getD_some] at h1 h2 hcs
      obtain ⟨x, ex⟩ : ∃ x, rkI xs[k] = x := ⟨_, rfl⟩
      obtain ⟨y, ey⟩ : ∃ y, rkI ys[k] = y := ⟨_, rfl⟩
      rw [ex] at h1
      rw [ey] at h2
      rw [ex, ey] at hcs
      obtain ⟨v, ev⟩ : ∃ v, cmpI x y = v := ⟨_, rfl⟩
      have hc := fun W => HCC.out x y W
      simp only [ev] at hc
      rw [ev] at hcs
      have HC := Lib.hid hc
      have HCS := Lib.hid hcs
      have k0 : (0 : Int) ≤ (k : Int) := Int.natCast_nonneg _
      have k1 : (k : Int) < (n : Int) := by omega
      have k2 : ¬ (k : Int) ≥ (n : Int) := by omega
      clear hcell hcell' hc hcs hx hy ex ey ev H H' hb hb'
      by_cases hv : v = 0
      · have HZ1 : Hid (cmpTo xs ys (k + 1) = 0) := by
          show _ = _
          rw [HCS.out, hv]
        have e0 : (v != 0) = false := by simp [hv]
        clear hv
        go_wp2_with (go_at_call 52; refine (HC.out _).mono ?_; rintro e w' ⟨rfl, rfl⟩)
        go_round
        case rel => exact ⟨k + 1, by omega, by go_num, HZ1⟩
        case measure => simp [intOf]; omega
      · obtain rfl : r = v := by
          have := cmpTo_stays xs ys (k + 1) (by rw [HCS.out]; exact hv) (n - (k + 1))
          rw [show k + 1 + (n - (k + 1)) = n by omega, HCS.out] at this
          rw [← HR.out, this]
        have e0 : (r != 0) = true := by simpa using hv
        clear hv
        go_wp2_with (go_at_call 52; refine (HC.out _).mono ?_; rintro e w' ⟨rfl, rfl⟩)
        go_ret
        exact ⟨rfl, rfl⟩
    · have hkn : k = n := by omega
      obtain rfl : r = 0 := by rw [← HR.out, ← hkn]; exact HZ.out
      have k1 : ¬ (k : Int) < (n : Int) := by omega
      clear hkn
      go_wp2
      go_ret
      exact ⟨rfl, rfl⟩
end Go.Proofs.YtamookdlbmbncabDoor

/- impl.keysOf, impl.FirstStep and impl.IsSorted answer for every deck of at most 1048576 cards and columns and every field: contracts. -/
namespace Go.Proofs.YtamookdlbmbncabDoor
open Go.ChangeShapes Go.WideShapes Go.ChangeAt Go.RowKit

/-- the ranks of the columns from i to j of each card -/
def rks (H : List (List Int)) (i j : Nat) : List (List Int) := H.map fun xs => (partOf xs i j).map rkI
/-- slices of the ranks -/
def GivesRanks (D : List CardV) (i j n : Nat) (w : World) (e : Ending) (w' : World) : Prop :=
  ∃ g E, e = .returned (.tuple #[.slice (some ⟨g, 0, none⟩) n n, .int .i64 0]) ∧ Below w.heap.size w w' ∧ holes E = rks (holes D) i j ∧ OwnRows w' g E n

section
variable (A : Option Addr) (c : Nat) (D : List CardV) (B : Nat) (a b : Int) (w : World) (h : Deck w B A D) (hB : B ≤ w.heap.size) (hn : D.length ≤ 1048576) (hl : ∀ d ∈ D, d.xs.length ≤ 1048576)
include h hB hn hl

set_option maxRecDepth 100000 in
set_option maxHeartbeats 4000000 in
theorem keysOf_any (hcap : CapsOk D) (hP : Places w) :
    Calls Tryd.prog 49 #[.slice A D.length c, .agg #[.int .i64 a, .int .i64 b]] w fun e w' => (keysC (holes D) a b ≠ 0 ∧ GivesNoKeys (keysC (holes D) a b) w e w') ∨ (keysC (holes D) a b = 0 ∧ GivesRanks D a.toNat b.toNat D.length w e w') := by
  have b0 := below_box w (.cells #[.int .i64 a, .int .i64 b] 36)
  have p0 : (w.alloc (.cells #[.int .i64 a, .int .i64 b] 36)).cell? ⟨w.heap.size, 0, none⟩ = some (.int .i64 a) := by simp
  have p1 : (w.alloc (.cells #[.int .i64 a, .int .i64 b] 36)).cell? ⟨w.heap.size, 1, none⟩ = some (.int .i64 b) := by simp
  have hd := fun W (hW : Below B w W) => implValidDeck_any A c D B W (h.below hW) (Nat.le_trans hB hW.size) hn hl
  have hw := fun W (hW : Below B w W) => widthOf_any A c D B W (h.below hW) hn hl
  have hf := fun W => isFieldOf_any a b (widthH (holes D)) W
  have HH := Lib.hid h
  have HL := Lib.hid hl
  have HCP := Lib.hid hcap
  have HPL := Lib.hid hP
  have HD := Lib.hid hd
  have HW := Lib.hid hw
  have HF := Lib.hid hf
  have B0 := Lib.hid (b0.mono hB)
  have BW := Lib.hid b0
  obtain ⟨n, hN⟩ : ∃ n, D.length = n := ⟨_, rfl⟩
  obtain ⟨z, hz⟩ : ∃ z, widthH (holes D) = z := ⟨_, rfl⟩
  have HN := Lib.hid hN
  have HZ := Lib.hid hz
  simp only [hN, hz] at HD HW HF hn ⊢
  clear h hl hcap hd hw hf b0 hN hz hP
  rcases keysC_cases (holes D) a b with ⟨e, hv⟩ | ⟨e, hv, hf⟩ | ⟨i, j, rfl, rfl, hij, hj, hv, hf, e⟩
  · rw [e]
    simp only [hv] at HD
    clear e hv HW HF HH HCP HL HZ p0 p1
    go_enter Tryd.func49, Tryd.ntmps49
    go_wp2_with fail
    refine (HD.out _ B0.out).mono ?_
    rintro e w1 ⟨rfl, hb⟩
    have B1 := Lib.hid (below_step BW.out hb)
    clear hb
    go_wp2
    go_ret2
    exact Or.inl ⟨by decide, rfl, B1.out⟩
  · rw [e]
    simp only [hv] at HD
    rw [HZ.out] at hf
    simp only [hf] at HF
    clear e hv hf HH HCP HL HZ
    go_enter Tryd.func49, Tryd.ntmps49
    go_wp2_with fail
    refine (HD.out _ B0.out).mono ?_
    rintro e w1 ⟨rfl, hb⟩
    have B1 := Lib.hid (below_step BW.out hb)
    have B2 := Lib.hid (B0.out.trans (hb.mono (Nat.le_trans hB (by simp))))
    have q0 := cell_kept p0 hb
    have q1 := cell_kept p1 hb
    clear hb
    go_wp2_with fail
    go_region_held3 (fun W => W.cell? ⟨w.heap.size, 0, none⟩ = some (.int .i64 a) ∧ W.cell? ⟨w.heap.size, 1, none⟩ = some (.int .i64 b))
      (first | exact ⟨q0, q1⟩ | exact ⟨cell_kept (w := w1.drew) q0 K1.out, cell_kept (w := w1.drew) q1 K1.out⟩ | exact ⟨cell_kept (cell_kept (w := w1.drew) q0 K1.out) K3.out, cell_kept (cell_kept (w := w1.drew) q1 K1.out) K3.out⟩)
      (first
        | (go_at_call 33
           refine (HW.out _ B2.out.drew).mono ?_
           rintro e w2 ⟨rfl, hb⟩
           have K1 : Hid (Below w1.drew.heap.size w1.drew w2) := hb
           clear hb)
        | (go_at_call 55
           refine (HF.out _).mono ?_
           rintro e w3 ⟨rfl, hb⟩
           have K2 := Lib.hid (below_step (below_step B1.out.drew K1.out) hb)
           have K3 := Lib.hid hb
           clear hb))
    all_goals
      go_wp2
      go_ret2
      exact Or.inl ⟨by decide, rfl, K2.out⟩
  · simp only [hv] at HD
    have HV := Lib.hid hv
    have hn40 : n ≤ 40 := by
      have := deck_len hv
      rw [← HN.out]
      simpa [holes] using this
    have hf' := hf
    rw [HZ.out] at hf'
    simp only [hf'] at HF
    have HJ := Lib.hid hj
    rw [Int.toNat_natCast, Int.toNat_natCast]
    obtain ⟨r, hr⟩ : ∃ r, keysB (holes D) i j = r := ⟨_, rfl⟩
    rw [hr] at e
    rw [e]
    have HR := Lib.hid hr
    have hi0 : (0 : Int) ≤ (i : Int) := Int.natCast_nonneg _
    have hi1 : (i : Int) ≤ (j : Int) := by omega
    have hmk : ∀ W : World, (Instr.makeSlice 84 (.int .i64 n) (.int .i64 n)).run Tryd.prog W = .ok (.slice (some ⟨W.heap.size, 0, none⟩) n n) (W.alloc (.cells (cellsOf [] n).toArray 23)) := fun W => by
      obtain ⟨i0, hi0, hz0, hz1, hz2⟩ := info_parts info_list
      have hr := run_make (P := Tryd.prog) W 84 23 i0 _ Tryd.underlying84 hi0 hz0 .i64 .i64 n n (by omega) (Int.le_refl _) (by rw [hz2]; omega) (by omega)
      have e : madeCells (Value.slice none 0 0).cells ((n : Int).toNat * i0.size) = (cellsOf [] n).toArray := by
        rw [hz1, Int.toNat_natCast, Nat.mul_one]
        apply Array.ext
        · simp [size_madeCells, cellsOf, Value.cells]
        · intro i h1 h2
          simp [madeCells, cellsOf, Value.cells, Nat.mod_one]
      rw [e, Int.toNat_natCast] at hr
      exact hr
    clear hf hf' hv e hr hj
    go_enter Tryd.func49, Tryd.ntmps49
    go_wp2_with fail
    refine (HD.out _ B0.out).mono ?_
    rintro e w1 ⟨rfl, hb⟩
    have B1 := Lib.hid (below_step BW.out hb)
    have B2 := Lib.hid (B0.out.trans (hb.mono (Nat.le_trans hB (by simp))))
    have q0 := cell_kept p0 hb
    have q1 := cell_kept p1 hb
    clear hb p0 p1
    go_wp2_with fail
    go_region_held3 (fun W => W.cell? ⟨w.heap.size, 0, none⟩ = some (.int .i64 i) ∧ W.cell? ⟨w.heap.size, 1, none⟩ = some (.int .i64 j))
      (first | exact ⟨q0, q1⟩ | exact ⟨r0, r1⟩ | exact ⟨s0, s1⟩)
      (first
        | (go_at_call 33
           refine (HW.out _ B2.out.drew).mono ?_
           rintro e w2 ⟨rfl, hb⟩
           have K1 : Hid (Below w1.drew.heap.size w1.drew w2) := hb
           have r0 := cell_kept (w := w1.drew) q0 K1.out
           have r1 := cell_kept (w := w1.drew) q1 K1.out
           clear hb)
        | (go_at_call 55
           refine (HF.out _).mono ?_
           rintro e w3 ⟨rfl, hb⟩
           have K2 := Lib.hid (below_step (below_step B1.out.drew K1.out) hb)
           have s0 := cell_kept r0 hb
           have s1 := cell_kept r1 hb
           clear hb))
    all_goals
      have z3 : w.heap.size < w3.heap.size := World.block_lt_of_cell? _ _ s0
      clear q0 q1 r0 r1 K1 B1 B2
      go_wp2
      clear hmk
      go_loopw [24] (fun t wr => ∃ k : Nat, ∃ E : List CardV, k ≤ n ∧ t = .int .i64 k ∧ E.length = k ∧ Hid (keysB ((holes D).take k) i j = true) ∧ Hid (holes E = (rks (holes D) i j).take k) ∧ Hid (Below w3.heap.size w3 wr) ∧ Hid (OwnRows wr w3.heap.size E n)) (fun t _ => n - (intOf t).toNat)
      case atStart => exact ⟨0, [], Nat.zero_le _, rfl, rfl, by show _ = _; simp [keysB], by show _ = _; simp [holes], below_box w3 _, heap_alloc_new w3 _, fun e he => by cases he⟩
      case round =>
        obtain ⟨k, E, hk, rfl, hE, HK, HHE, HB, HO⟩ := hrel
        have t0 := cell_kept s0 HB.out
        have t1 := cell_kept s1 HB.out
        have hwr : w3.heap.size ≤ wr.heap.size := HB.out.size
        by_cases hlt : k < n
        · obtain ⟨d, hd⟩ : ∃ d, D[k]? = some d := ⟨D[k]'(by rw [HN.out]; exact hlt), List.getElem?_eq_getElem _⟩
          have hdx : (holes D)[k]? = some d.xs := by simp [holes, hd]
          obtain ⟨g1, g2⟩ := deck_width HV.out hdx
          have hxl : 0 < d.xs.length := by have := HJ.out; omega
          obtain ⟨bq, oq, rfl, _, hcell⟩ := (HH.out.below ((K2.out.mono hB).trans (HB.out.mono (Nat.le_trans hB (by omega))))) (by rw [HN.out]; omega)
          obtain ⟨hc, hi⟩ := hcell k d hd
          have hm := List.mem_of_getElem? hd
          obtain ⟨m1, m2⟩ := HCP.out d hm
          have hx1 := HL.out d hm
          obtain ⟨ad, zd, xd⟩ := d
          simp only at hc hi m1 m2 hx1 g1 g2 hxl hdx
          unfold CardV.value at hc
          simp only at hc
          obtain ⟨b2, o2, rfl, _⟩ := hi hxl
          have hjz : j ≤ xd.length := by rw [g2]; exact HJ.out
          have hpl := partOf_length xd i j hjz
          have hra := fun W hI hs hP => ranks_any (some ⟨b2, o2 + i, none⟩) (zd - i) (partOf xd i j) B W hI hs (by omega) hP
          obtain ⟨u, hu⟩ : ∃ u, textOk (partOf xd i j) = u := ⟨_, rfl⟩
          have hrk : (rks (holes D) i j)[k]? = some ((partOf xd i j).map rkI) := by rw [rks, List.getElem?_map, hdx]; rfl
          have Hu := Lib.hid hu
          have HDX := Lib.hid hdx
          have HRK := Lib.hid hrk
          simp only [hu, hpl] at hra
          have HRA := Lib.hid hra
          have hk0 : (0 : Int) ≤ (k : Int) := Int.natCast_nonneg _
          have hk1 : (k : Int) < (n : Int) := by omega
          have hj2 : (j : Int) ≤ (zd : Int) := by omega
          have hj3 : ¬ zd = i := by omega
          have HPT := Lib.hid (hi.part i j hij hjz)
          have HE := Lib.hid hE
          have HPW := Lib.hid (HPL.out.below (below_step K2.out HB.out))
          have hst : Hid ((cellsOf E n)[k]? = some (.slice none 0 0)) := by
            show _ = _
            rw [cellsOf, List.getElem?_append_right (by simp; omega), List.getElem?_replicate, if_pos (by simp; omega)]
          obtain ⟨nx, hnx⟩ : ∃ nx, xd.length = nx := ⟨_, rfl⟩
          rw [hnx] at hc
          have hlp : ((partOf xd i j).map rkI).length = j - i := by simp [hpl]
          have HLP := Lib.hid hlp
          clear hcell hd hi hra hdx hu hrk m1 m2 hx1 g1 g2 hxl hm hpl hnx hlp hE
          have bx := below_box wr (.cells #[.slice (some ⟨b2, o2, none⟩) nx zd] 34)
          have u0 := cell_kept t0 bx
          have u1 := cell_kept t1 bx
          have BX := Lib.hid bx
          have HPX := Lib.hid (HPW.out.below bx)
          have HPTX := Lib.hid (HPT.out.below (bx.mono (by omega)))
          have HBX := Lib.hid (below_step HB.out bx)
          have HOX := Lib.hid (HO.out.later bx)
          clear bx
          go_wp2_with fail
          refine (HRA.out _ HPTX.out (by simp; omega) HPX.out).mono ?_
          rintro e w5 (⟨hu, rfl, hb⟩ | ⟨hu, ge, rfl, hge, hb, hrow⟩)
          · obtain rfl : u = false := hu
            obtain rfl : r = false := by rw [← HR.out]; exact keysB_bad HDX.out Hu.out
            have HB5 := Lib.hid (below_step HBX.out hb)
            clear hb
            go_wp2
            go_ret2
            exact ⟨rfl, below_step K2.out HB5.out⟩
          · obtain rfl : u = true := hu
            have HK1 : Hid (keysB ((holes D).take (k + 1)) i j = true) := keysB_more HDX.out HK.out Hu.out
            have HB5 := Lib.hid (below_step HBX.out hb)
            have HO5 := Lib.hid (HOX.out.later hb)
            have HR5 := Lib.hid hrow
            have hg : w3.heap.size < ge := by
              have := HO.out.lt
              have h2 : wr.heap.size + 1 ≤ ge := by simpa using hge
              omega
            have c2 : w5.cell? ⟨w3.heap.size, k, none⟩ = some (.slice none 0 0) := by rw [HO5.out.cell k]; exact hst.out
            have f2 := HO5.out.frozen k
            obtain ⟨qs, hqs⟩ : ∃ qs, (partOf xd i j).map rkI = qs := ⟨_, rfl⟩
            rw [hqs] at HR5 HRK HLP
            have HH1 : Hid (∀ e : CardV, e.xs = qs → holes (E ++ [e]) = (rks (holes D) i j).take (k + 1)) := fun e he => by
              rw [List.take_add_one, HRK.out, ← HHE.out]
              simp [holes, he]
            clear hb hrow hge hqs
            go_wp2
            go_roundw
            case rel =>
              refine ⟨k + 1, E ++ [⟨some ⟨ge, 0, none⟩, qs.length, qs⟩], by omega, by go_num, by simp [HE.out], HK1, HH1.out _ rfl, HB5.out.setCell (Nat.le_refl _) _, ?_⟩
              have := HO5.out.put ⟨some ⟨ge, 0, none⟩, qs.length, qs⟩ ge (by rw [HE.out]; exact hlt) rfl hg rfl HR5.out
              rw [HE.out] at this
              rw [CardV.value] at this
              simp only [HLP.out] at this ⊢
              exact this
            case measure => simp [intOf]; omega
        · have hkn : k = n := by omega
          have hk1 : ¬ (k : Int) < (n : Int) := by omega
          obtain rfl : r = true := by
            rw [← HR.out]
            have := HK.out
            rwa [List.take_of_length_le (by simp [holes]; rw [HN.out]; omega)] at this
          have hrl : holes E = rks (holes D) i j := by
            rw [HHE.out, List.take_of_length_le (by simp [rks, holes]; rw [HN.out]; omega)]
          have HRL := Lib.hid hrl
          clear hkn HK hrl hE
          go_wp2
          go_ret2
          exact ⟨_, E, rfl, below_step K2.out HB.out, HRL.out, HO.out⟩
end
end Go.Proofs.YtamookdlbmbncabDoor

/- The entries of a deck: its cards, copied, with the ranks of a field; impl.entriesOf makes them: a contract. -/
namespace Go.Proofs.YtamookdlbmbncabDoor
open Go.ChangeShapes Go.WideShapes Go.ChangeAt Go.RowKit

theorem info_entry : (Tryd.prog.info? 68).map (fun i => (i.zero, i.size, i.bytes)) = some (some (.agg #[.slice none 0 0, .slice none 0 0]), 2, 48) := by kernel_rfl

/-- cards and keys, one behind the other -/
def mixL : List CardV → List CardV → List CardV
  | e :: E, k :: K => e :: k :: mixL E K
  | _, _ => []
theorem mixL_nil (K : List CardV) : mixL [] K = [] := by cases K <;> rfl
theorem mixL_length : ∀ (E K : List CardV), E.length ≤ K.length → (mixL E K).length = 2 * E.length
  | [], K, _ => by simp [mixL_nil]
  | e :: E, [], h => by simp at h
  | e :: E, k :: K, h => by
    have := mixL_length E K (by simpa using h)
    simp only [mixL, List.length_cons, this]
    omega
theorem mixL_more : ∀ (E K : List CardV) (e q : CardV), K[E.length]? = some q → mixL (E ++ [e]) K = mixL E K ++ [e] ++ [q]
  | [], [], e, q, h => by simp at h
  | [], k :: K, e, q, h => by
    obtain rfl : k = q := by simpa using h
    simp [mixL]
  | x :: E, [], e, q, h => by simp at h
  | x :: E, k :: K, e, q, h => by
    have := mixL_more E K e q (by simpa using h)
    simp only [List.cons_append, mixL, this]
theorem mixL_card : ∀ (E K : List CardV) (k : Nat) (e : CardV), E.length ≤ K.length → E[k]? = some e → (mixL E K)[k * 2]? = some e
  | [], _, k, e, _, h => by simp at h
  | x :: E, [], k, e, hl, _ => by simp at hl
  | x :: E, y :: K, 0, e, _, h => by simpa [mixL] using h
  | x :: E, y :: K, k + 1, e, hl, h => by
    have := mixL_card E K k e (by simpa using hl) (by simpa using h)
    rw [mixL, show (k + 1) * 2 = k * 2 + 1 + 1 by omega]
    simpa using this
theorem mixL_key : ∀ (E K : List CardV) (k : Nat) (q : CardV), k < E.length → K[k]? = some q → (mixL E K)[k * 2 + 1]? = some q
  | [], _, k, q, hl, h => by simp at hl
  | x :: E, [], k, q, _, h => by simp at h
  | x :: E, y :: K, 0, q, _, h => by simpa [mixL] using h
  | x :: E, y :: K, k + 1, q, hl, h => by
    have := mixL_key E K k q (by simpa using hl) (by simpa using h)
    rw [mixL, show (k + 1) * 2 + 1 = k * 2 + 1 + 1 + 1 by omega]
    simpa using this

/-- the block g holds the entries: cards E with numbers in blocks of their own from lo on, keys K -/
structure Ents (w : World) (lo g : Nat) (E K : List CardV) (n : Nat) : Prop where
  cells : w.heap[g]? = some (.cells (cellsOf (mixL E K) (2 * n)).toArray 68 (0, 0))
  cards : NewRows w lo E
  keys : ∀ q ∈ K, ∃ gq ex, q.at_ = some ⟨gq, 0, none⟩ ∧ Row w gq q.xs ex
section
variable {w w' : World} {lo g n : Nat} {E K : List CardV}
theorem Ents.lt (h : Ents w lo g E K n) : g < w.heap.size := by
  rcases Nat.lt_or_ge g w.heap.size with hlt | hge
  · exact hlt
  · have := h.cells
    rw [Array.getElem?_eq_none hge] at this
    cases this
theorem Ents.later (h : Ents w lo g E K n) (hb : Below w.heap.size w w') : Ents w' lo g E K n :=
  ⟨(hb.block g h.lt).trans h.cells, h.cards.later hb, fun q hq => by
    obtain ⟨gq, ex, h1, h2⟩ := h.keys q hq
    exact ⟨gq, ex, h1, h2.later hb⟩⟩
theorem Ents.drew (h : Ents w lo g E K n) : Ents w.drew lo g E K n := h.later (Below.refl _ w).drew
theorem Ents.cell (h : Ents w lo g E K n) (i : Nat) : w.cell? ⟨g, i, none⟩ = (cellsOf (mixL E K) (2 * n))[i]? := by
  rw [cell_of_row w g i _ _ _ h.cells]
  simp
theorem Ents.card (h : Ents w lo g E K n) (hl : E.length ≤ K.length) {k : Nat} {e : CardV} (he : E[k]? = some e) : w.cell? ⟨g, k * 2, none⟩ = some e.value := by
  rw [h.cell, cellsOf_get _ _ _ e (mixL_card E K k e hl he)]
theorem Ents.key (h : Ents w lo g E K n) {k : Nat} {q : CardV} (hk : k < E.length) (hq : K[k]? = some q) : w.cell? ⟨g, k * 2 + 1, none⟩ = some q.value := by
  rw [h.cell, cellsOf_get _ _ _ q (mixL_key E K k q hk hq)]
end

/-- the entries of a deck -/
def GivesEnts (D : List CardV) (i j n : Nat) (w : World) (e : Ending) (w' : World) : Prop :=
  ∃ g E K, e = .returned (.tuple #[.slice (some ⟨g, 0, none⟩) n n, .int .i64 0]) ∧ Below w.heap.size w w' ∧ holes E = holes D ∧ CapsOk E ∧ holes K = rks (holes D) i j ∧ Ents w' w.heap.size g E K n

theorem row_not_ents {w : World} {g n : Nat} {xs : List Int} {ex : List Value} {cs : Array Value} {z : Nat × Nat} (h : Row w g xs ex) (hc : w.heap[n]? = some (.cells cs 68 z)) : g ≠ n := by
  rintro rfl
  unfold Row at h
  rw [h] at hc
  have := Option.some.inj hc
  injection this with _ e _
  cases e
theorem NewRows.ent_set {w : World} {lo g : Nat} {E : List CardV} {cs : Array Value} {z : Nat × Nat} (h : NewRows w lo E) (hc : w.heap[g]? = some (.cells cs 68 z)) (i j : Nat) (u v : Value) : NewRows ((w.setCell ⟨g, i, none⟩ u).setCell ⟨g, j, none⟩ v) lo E :=
  ⟨fun e he => by
    obtain ⟨ge, ex, h1, h2, h3⟩ := h.each e he
    have hne := row_not_ents h3 hc
    exact ⟨ge, ex, h1, h2, (h3.far (p := ⟨g, i, none⟩) hne u).far (p := ⟨g, j, none⟩) hne v⟩, h.apart⟩
theorem ents_put {w : World} {g n : Nat} {X : List CardV} (h : w.heap[g]? = some (.cells (cellsOf X n).toArray 68 (0, 0))) (e q : CardV) (hn : X.length + 1 < n) : ((w.setCell ⟨g, X.length, none⟩ e.value).setCell ⟨g, X.length + 1, none⟩ q.value).heap[g]? = some (.cells (cellsOf (X ++ [e] ++ [q]) n).toArray 68 (0, 0)) := by
  have h1 : (w.setCell ⟨g, X.length, none⟩ e.value).heap[g]? = some (.cells (cellsOf (X ++ [e]) n).toArray 68 (0, 0)) := by
    simp only [World.setCell, Array.getElem?_modify, if_true, h, Option.map_some]
    congr 2
    apply Array.ext'
    simp [cellsOf_set X n e (by omega)]
  have hl : X.length + 1 = (X ++ [e]).length := by simp
  rw [hl]
  simp only [World.setCell, Array.getElem?_modify, if_true] at h1 ⊢
  rw [h1]
  simp only [Option.map_some]
  congr 2
  apply Array.ext'
  have := cellsOf_set (X ++ [e]) n q (by simp; omega)
  rw [← hl] at this
  simpa using this

section
variable (A : Option Addr) (c : Nat) (D : List CardV) (B : Nat) (a b : Int) (w : World) (h : Deck w B A D) (hB : B ≤ w.heap.size) (hn : D.length ≤ 1048576) (hl : ∀ d ∈ D, d.xs.length ≤ 1048576)
include h hB hn hl

set_option maxRecDepth 100000 in
set_option maxHeartbeats 4000000 in
theorem entriesOf_any (hcap : CapsOk D) (hP : Places w) :
    Calls Tryd.prog 41 #[.slice A D.length c, .agg #[.int .i64 a, .int .i64 b]] w fun e w' => (keysC (holes D) a b ≠ 0 ∧ GivesNoKeys (keysC (holes D) a b) w e w') ∨ (keysC (holes D) a b = 0 ∧ GivesEnts D a.toNat b.toNat D.length w e w') := by
  have b0 := below_box w (.cells #[.int .i64 a, .int .i64 b] 36)
  have hk := keysOf_any A c D B a b (w.alloc (.cells #[.int .i64 a, .int .i64 b] 36)) (h.below (b0.mono hB)) (by simp; omega) hn hl hcap (hP.below b0)
  have BW := Lib.hid b0
  obtain ⟨n, hN⟩ : ∃ n, D.length = n := ⟨_, rfl⟩
  by_cases e : keysC (holes D) a b = 0
  · obtain ⟨i, j, rfl, rfl, hij, hj, hv, hkb⟩ := keysC_zero e
    have hn40 : n ≤ 40 := by
      have := deck_len hv
      simp [holes, hN] at this
      exact this
    rw [e, Int.toNat_natCast, Int.toNat_natCast, hN] at hk ⊢
    have H := Lib.hid h
    have HN := Lib.hid hN
    have HV := Lib.hid hv
    have HCP := Lib.hid hcap
    have HK := Lib.hid hk
    have hJ := Lib.hid (show 0 < widthH (holes D) by omega)
    have hmk : ∀ W : World, (Instr.makeSlice 61 (.int .i64 n) (.int .i64 n)).run Tryd.prog W = .ok (.slice (some ⟨W.heap.size, 0, none⟩) n n) (W.alloc (.cells (cellsOf [] (2 * n)).toArray 68)) := fun W => by
      obtain ⟨i0, hi0, hz0, hz1, hz2⟩ := info_parts info_entry
      have hr := run_make (P := Tryd.prog) W 61 68 i0 _ Tryd.underlying61 hi0 hz0 .i64 .i64 n n (by omega) (Int.le_refl _) (by rw [hz2]; omega) (by omega)
      have e : madeCells (Value.agg #[Value.slice none 0 0, Value.slice none 0 0]).cells ((n : Int).toNat * i0.size) = (cellsOf [] (2 * n)).toArray := by
        rw [hz1, Int.toNat_natCast]
        apply Array.ext
        · simp [size_madeCells, cellsOf]
          omega
        · intro i h1 h2
          rcases Nat.mod_two_eq_zero_or_one i with hm | hm <;> simp [madeCells, cellsOf, Value.cells, hm]
      rw [e, Int.toNat_natCast] at hr
      exact hr
    clear hk h hl hcap b0 e hv hkb hj hij hN hP
    go_enter Tryd.func41, Tryd.ntmps41
    go_wp2_with fail
    refine HK.out.mono ?_
    rintro e w1 (⟨h0, _⟩ | ⟨_, gk, K, rfl, hb, hK, hO⟩)
    · exact absurd rfl h0
    have B1 := Lib.hid (below_step BW.out hb)
    have HO := Lib.hid hO
    have hKl : K.length = n := by rw [← holes_len K, hK, rks, List.length_map, holes_len, HN.out]
    have HKL := Lib.hid hKl
    have HHK := Lib.hid hK
    clear hb hO hK hKl HK
    go_wp2
    clear hmk
    go_loopw [25] (fun x wr => ∃ t : Nat, ∃ E : List CardV, t ≤ n ∧ x = .int .i64 t ∧ Hid (E.length = t) ∧ Hid (holes E = (holes D).take t) ∧ Hid (Below w1.heap.size w1 wr) ∧ Hid (wr.heap[w1.heap.size]? = some (.cells (cellsOf (mixL E K) (2 * n)).toArray 68 (0, 0))) ∧ Hid (NewRows wr w1.heap.size E) ∧ Hid (CapsOk E)) (fun x _ => n - (intOf x).toNat)
    case atStart => exact ⟨0, [], Nat.zero_le _, rfl, rfl, by show _ = _; simp [holes], below_box w1 _, by rw [mixL_nil]; exact heap_alloc_new w1 _, NewRows.nil, (fun d hd => by cases hd)⟩
    case round =>
      obtain ⟨t, E, ht, rfl, HE, HS, HB, HC, HR, HCK⟩ := hrel
      by_cases hlt : t < n
      · obtain ⟨d, hd⟩ : ∃ d, D[t]? = some d := ⟨D[t]'(by rw [HN.out]; exact hlt), List.getElem?_eq_getElem _⟩
        obtain ⟨q, hq⟩ : ∃ q, K[t]? = some q := ⟨K[t]'(by rw [HKL.out]; exact hlt), List.getElem?_eq_getElem _⟩
        have hqc : w1.cell? ⟨gk, t, none⟩ = some q.value := by rw [HO.out.cell t, cellsOf_get K n t q hq]
        have BD := below_step B1.out HB.out
        obtain ⟨bq, oq, rfl, hbq, hcell⟩ := (H.out.below (BD.mono hB)) (by rw [HN.out]; omega)
        obtain ⟨hc, hi⟩ := hcell t d hd
        obtain ⟨y1, y2⟩ := deck_width HV.out (holes_at hd)
        have h20 := (okB_parts y1).2
        have h0 : 0 < d.xs.length := by rw [y2]; exact hJ.out
        have bx := below_box wr (.cells #[.slice d.at_ d.xs.length d.cap] 34)
        have p0 : (wr.alloc (.cells #[.slice d.at_ d.xs.length d.cap] 34)).cell? ⟨wr.heap.size, 0, none⟩ = some (.slice d.at_ d.xs.length d.cap) := by simp
        have o1 := cell_kept (cell_kept hqc HB.out) bx
        obtain ⟨m, hm⟩ : ∃ m, d.xs.length = m := ⟨_, rfl⟩
        have HM := Lib.hid hm
        have hw1 : w1.heap.size ≤ wr.heap.size := HB.out.size
        have hBw : B ≤ wr.heap.size := Nat.le_trans hB BD.size
        obtain ⟨W1, hW1⟩ : ∃ W1, wr.alloc (.cells #[.slice d.at_ d.xs.length d.cap] 34) = W1 := ⟨_, rfl⟩
        rw [hW1] at p0 o1 bx
        have hs1 : wr.heap.size ≤ W1.heap.size := bx.size
        have HT := Lib.hid (copyNew_any d.at_ d.cap d.xs B W1.drew ((hi.below (bx.mono hBw)).drew) (by show B ≤ W1.heap.size; omega) h0 (by omega))
        have HBX := Lib.hid (below_step HB.out bx).drew
        have hc0 : w1.heap.size < wr.heap.size := by
          rcases Nat.lt_or_ge w1.heap.size wr.heap.size with hlt | hge
          · exact hlt
          · have := HC.out
            rw [Array.getElem?_eq_none hge] at this
            cases this
        have HCX : Hid (W1.drew.heap[w1.heap.size]? = some (.cells (cellsOf (mixL E K) (2 * n)).toArray 68 (0, 0))) := (bx.block _ hc0).trans HC.out
        have HRX := Lib.hid ((HR.out.later bx).later (Below.refl _ W1).drew)
        have HH1 : Hid (∀ e : CardV, e.xs = d.xs → holes (E ++ [e]) = (holes D).take (t + 1)) := fun e he => by
          rw [List.take_add_one, holes_at hd, ← HS.out]
          simp [holes, he]
        have HQ := Lib.hid hq
        have hml : (mixL E K).length = 2 * t := by rw [mixL_length E K (by rw [HE.out, HKL.out]; omega), HE.out]
        have hz1 : (cellsOf (mixL E K) (2 * n))[t * 2]? = some (.slice none 0 0) := by
          rw [cellsOf, List.getElem?_append_right (by simp [hml]; omega), List.getElem?_replicate, if_pos (by simp [hml]; omega)]
        have hz2 : (cellsOf (mixL E K) (2 * n))[t * 2 + 1]? = some (.slice none 0 0) := by
          rw [cellsOf, List.getElem?_append_right (by simp [hml]; omega), List.getElem?_replicate, if_pos (by simp [hml]; omega)]
        have HZ1 := Lib.hid hz1
        have HZ2 := Lib.hid hz2
        have HML := Lib.hid hml
        unfold CardV.value at hc o1
        rw [hm] at hc p0 HT hW1
        have t0 : (0 : Int) ≤ (t : Int) := Int.natCast_nonneg _
        have t1 : (t : Int) < (n : Int) := by omega
        have x1 : W1.drew.cell? ⟨wr.heap.size, 0, none⟩ = some (.slice d.at_ m d.cap) := p0
        have x2 : W1.drew.cell? ⟨gk, t, none⟩ = some (.slice q.at_ q.xs.length q.cap) := o1
        have hcs : ∀ (W : World) (i : Nat), Hid (W.heap[w1.heap.size]? = some (.cells (cellsOf (mixL E K) (2 * n)).toArray 68 (0, 0))) → W.cell? ⟨w1.heap.size, i, none⟩ = (cellsOf (mixL E K) (2 * n))[i]? ∧ W.frozen? ⟨w1.heap.size, i, none⟩ = false := fun W i h => by
          refine ⟨?_, ?_⟩
          · rw [cell_of_row W w1.heap.size i _ _ _ h.out]
            simp
          · have := h.out
            simp [World.frozen?, this]
        have u1 := (hcs _ (t * 2) HCX).1.trans hz1
        have u2 := (hcs _ (t * 2 + 1) HCX).1.trans hz2
        have u3 := (hcs _ (t * 2) HCX).2
        have u4 := (hcs _ (t * 2 + 1) HCX).2
        have HCS := Lib.hid hcs
        obtain ⟨lq, hlq⟩ : ∃ l, q.xs.length = l := ⟨_, rfl⟩
        rw [hlq] at x2
        have HLQ := Lib.hid hlq
        clear hcell hd hi hm bx p0 o1 BD y1 y2 h20 h0 hq hqc hml hz1 hz2 hcs hlq HB HC HR hbq
        go_wp2_with fail
        go_region_with (go_at_call 50; refine HT.out.mono ?_; rintro e w3 ⟨ge, cp, ex, rfl, hc1, hc2, hge, hb3, hrow⟩; rw [HM.out] at hc1; rw [HM.out]; have z1 := cell_kept x1 hb3; have z2 := cell_kept x2 hb3; have HB3 := Lib.hid (below_step HBX.out hb3); have HC3 : Hid (w3.heap[w1.heap.size]? = some (.cells (cellsOf (mixL E K) (2 * n)).toArray 68 (0, 0))) := (hb3.block _ (Nat.lt_of_lt_of_le hc0 hs1)).trans HCX.out; have v1 := (HCS.out _ (t * 2) HC3).1.trans HZ1.out; have v2 := (HCS.out _ (t * 2 + 1) HC3).1.trans HZ2.out; have v3 := (HCS.out _ (t * 2) HC3).2; have v4 := (HCS.out _ (t * 2 + 1) HC3).2; have HR3 := Lib.hid (HRX.out.more hb3 (e := ⟨some ⟨ge, 0, none⟩, cp, d.xs⟩) rfl hge (Nat.le_trans hw1 (Nat.le_trans hs1 hge)) hrow); have HCC := Lib.hid (And.intro hc1 hc2); clear hb3 hrow hge hc1 hc2)
        all_goals
          go_wp2
          go_roundw
          case rel =>
            have hp := ents_put HC3.out ⟨some ⟨ge, 0, none⟩, cp, d.xs⟩ q (by rw [HML.out]; omega)
            rw [← mixL_more E K _ q (by rw [HE.out]; exact HQ.out), HML.out, Nat.mul_comm 2 t] at hp
            unfold CardV.value at hp
            simp only [HM.out, HLQ.out] at hp
            refine ⟨t + 1, E ++ [(⟨some ⟨ge, 0, none⟩, cp, d.xs⟩ : CardV)], by omega, by go_num, by show _ = _; simp [HE.out], HH1.out _ rfl, (HB3.out.setCell (Nat.le_refl _) _).setCell (Nat.le_refl _) _, Lib.hid hp, ?_, ?_⟩
            · exact HR3.out.ent_set HC3.out _ _ _ _
            · intro x hx
              rcases List.mem_append.1 hx with hx | hx
              · exact HCK.out x hx
              · obtain rfl : x = ⟨some ⟨ge, 0, none⟩, cp, d.xs⟩ := by simpa using hx
                have h1 := HCC.out.1
                have h2 := HCC.out.2
                unfold maxLen at h2
                exact ⟨by show d.xs.length ≤ cp; rw [HM.out]; exact h1, by show cp ≤ _; omega⟩
          case measure => simp [intOf]; omega
      · have htn : t = n := by omega
        have t1 : ¬ (t : Int) < (n : Int) := by omega
        have hh : holes E = holes D := by rw [HS.out, List.take_of_length_le (by simp [holes, HN.out]; omega)]
        have HHH := Lib.hid hh
        have BB := Lib.hid (below_step B1.out HB.out)
        have hKS : Hid (∀ q ∈ K, ∃ gq ex, q.at_ = some ⟨gq, 0, none⟩ ∧ Row wr gq q.xs ex) := fun q hq => by
          obtain ⟨ge, a1, _, _, a4⟩ := HO.out.each q hq
          exact ⟨ge, [], a1, a4.later HB.out⟩
        clear hh htn
        go_wp2
        go_ret2
        have hrows : NewRows wr w.heap.size E := ⟨fun e he => by obtain ⟨ge, ex, h1, h2, h3⟩ := HR.out.each e he; exact ⟨ge, ex, h1, Nat.le_trans B1.out.size h2, h3⟩, HR.out.apart⟩
        exact ⟨_, E, K, rfl, BB.out, HHH.out, HCK.out, HHK.out, ⟨HC.out, hrows, hKS.out⟩⟩
  · obtain ⟨k, hk0⟩ : ∃ k, keysC (holes D) a b = k := ⟨_, rfl⟩
    rw [hk0] at hk e ⊢
    rw [hN] at hk ⊢
    have e1 : (k != 0) = true := by simpa using e
    have HK := Lib.hid hk
    clear hk h hl hcap b0 hk0 hN hn hP
    go_enter Tryd.func41, Tryd.ntmps41
    go_wp2_with fail
    refine HK.out.mono ?_
    rintro e' w1 (⟨_, rfl, hb⟩ | ⟨h0, _⟩)
    · have B1 := Lib.hid (below_step BW.out hb)
      clear hb HK
      go_wp2
      go_ret2
      exact Or.inl ⟨e, rfl, B1.out⟩
    · exact absurd h0 e
end
end Go.Proofs.YtamookdlbmbncabDoor
