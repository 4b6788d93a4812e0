/- impl's run.punched, feed.blank and feed.beside: decks that pass through a reproducer: contracts. -/
import Derived.Test.YtamookdlbmbncaaPairI
namespace Go.Proofs.Ytamookdlbmbncaa
open Go.ChangeShapes Go.WideShapes Go.ChangeAt Go.RowKit

/-- cards of one's own, in a block of one's own -/
def GivesFeed (H : List (List Int)) (n : Nat) (w : World) (e : Ending) (w' : World) : Prop :=
  ∃ g E, e = .returned (.slice (some ⟨g, 0, none⟩) n n) ∧ E.length = n ∧ holes E = H ∧ Below w.heap.size w w' ∧ w.heap.size ≤ g ∧ w'.heap[g]? = some (.cells (cellsOf E n).toArray 33 (0, 0)) ∧ NewRows w' w.heap.size E
theorem GivesFeed.deck {H : List (List Int)} {n : Nat} {w w' : World} {e : Ending} (h : GivesFeed H n w e w') : ∃ g E, e = .returned (.slice (some ⟨g, 0, none⟩) n n) ∧ E.length = n ∧ holes E = H ∧ Below w.heap.size w w' ∧ DeckAt w' w.heap.size w'.heap.size (some ⟨g, 0, none⟩) E := by
  obtain ⟨g, E, h1, h2, h3, h4, h5, h6, h7⟩ := h
  exact ⟨g, E, h1, h2, h3, h4, h7.deckAt (fun _ => ⟨h5, h6⟩) (fun i d hd => by rw [cards_cell h6 i, cellsOf_get E n i d hd])⟩
theorem make_feed (n : Nat) (hn : n ≤ 1048576) (W : World) : (Instr.makeSlice 82 (.int .i64 n) (.int .i64 n)).run Try.prog W = .ok (.slice (some ⟨W.heap.size, 0, none⟩) n n) (W.alloc (.cells (cellsOf [] n).toArray 33)) := by
  obtain ⟨i0, hi0, hz0, hz1, hz2⟩ := info_parts info_card
  have hr := run_make (P := Try.prog) W 82 33 i0 _ Try.underlying82 hi0 hz0 .i64 .i64 n n (by omega) (Int.le_refl _) (by rw [hz2]; omega) (by omega)
  have e : madeCells (Value.agg #[Value.slice none 0 0]).cells ((n : Int).toNat * i0.size) = (cellsOf [] n).toArray := by
    rw [hz1, Int.toNat_natCast, Nat.mul_one]
    apply Array.ext
    · simp [size_madeCells, cellsOf]
    · intro i h1 h2
      simp [madeCells, cellsOf, Value.cells, Nat.mod_one]
  rw [e, Int.toNat_natCast] at hr
  exact hr
theorem pair_box (W : World) (u v : Value) : (W.alloc (.cells #[u, v] 94)).cell? ⟨W.heap.size, 0, none⟩ = some u ∧ (W.alloc (.cells #[u, v] 94)).cell? ⟨W.heap.size, 1, none⟩ = some v := by simp

set_option maxRecDepth 100000 in
set_option maxHeartbeats 2000000 in
theorem runPunched_any (gp n : Nat) (R D : List CardV) (AP : Option Addr) (cP : Nat) (P : List (Int × Int)) (BP : Nat) (H : List (List Int)) (w : World) (hrow : PairRow w gp R D n) (hR : R.length = n) (hD : n ≤ D.length) (hP : Copies w BP AP P) (hBP : BP ≤ w.heap.size) (hn : n ≤ 40) (hl : P.length ≤ 20)
    (each : ∀ (k : Nat) (r d : CardV), R[k]? = some r → D[k]? = some d → Ints w w.heap.size r.at_ r.xs ∧ Ints w w.heap.size d.at_ d.xs ∧ validTo r.xs.length d.xs.length P (-1) = true ∧ r.xs.length ≤ 20 ∧ 0 < d.xs.length ∧ d.xs.length ≤ 20 ∧ H[k]? = some (xferTo r.xs d.xs P)) (hH : H.length = n) :
    Calls Try.prog 64 #[.slice (some ⟨gp, 0, none⟩) n n, .slice AP P.length cP] w (GivesFeed H n w) := by
  have hmk := make_feed n (by omega)
  obtain ⟨m, hM⟩ : ∃ m, P.length = m := ⟨_, rfl⟩
  have hpp := fun (W : World) (hW : Below w.heap.size w W) (k : Nat) (r d : CardV) (hr : R[k]? = some r) (hd : D[k]? = some d) => pairPunched_any r.at_ d.at_ r.cap d.cap r.xs d.xs w.heap.size w.heap.size AP cP P BP W ((each k r d hr hd).1.below hW) ((each k r d hr hd).2.1.below hW) (hP.below (hW.mono hBP)) hW.size hW.size (Nat.le_trans hBP hW.size) (-1) (each k r d hr hd).2.2.1 hl (each k r d hr hd).2.2.2.1 (each k r d hr hd).2.2.2.2.1 (each k r d hr hd).2.2.2.2.2.1
  have hat := fun (k : Nat) (r d : CardV) (hr : R[k]? = some r) (hd : D[k]? = some d) => (each k r d hr hd).2.2.2.2.2.2
  rw [hM] at hl ⊢
  simp only [hM] at hpp
  have HPP := Lib.hid hpp
  have HAT := Lib.hid hat
  have HR := Lib.hid hR
  have HD := Lib.hid hD
  have HRW := Lib.hid hrow
  have HH := Lib.hid hH
  clear hpp hat hR hD hrow hH each hP hM
  go_enter Try.func64, Try.ntmps64
  go_wp2
  clear hmk
  go_loopw [13] (fun x wr => ∃ t : Nat, ∃ E : List CardV, t ≤ n ∧ x = .int .i64 t ∧ Hid (E.length = t) ∧ Hid (holes E = H.take t) ∧ Hid (Below w.heap.size w wr) ∧ Hid (wr.heap[w.heap.size]? = some (.cells (cellsOf E n).toArray 33 (0, 0))) ∧ Hid (NewRows wr w.heap.size E)) (fun x _ => n - (intOf x).toNat)
  case atStart => exact ⟨0, [], Nat.zero_le _, rfl, rfl, by show _ = _; simp [holes], below_box w _, heap_alloc_new w _, NewRows.nil⟩
  case round =>
    obtain ⟨t, E, ht, rfl, HE, HS, HB, HC, HN⟩ := hrel
    by_cases hlt : t < n
    · obtain ⟨r, hr⟩ : ∃ r, R[t]? = some r := ⟨R[t]'(by rw [HR.out]; exact hlt), List.getElem?_eq_getElem _⟩
      obtain ⟨d, hd⟩ : ∃ d, D[t]? = some d := ⟨D[t]'(by have := HD.out; omega), List.getElem?_eq_getElem _⟩
      have c1 := (HRW.out.later HB.out).fst (by have h1 := HR.out; have h2 := HD.out; omega) hr
      have c2 := (HRW.out.later HB.out).snd (by rw [HR.out]; exact hlt) hd
      unfold CardV.value at c1 c2
      have bw := below_box wr (.cells #[.slice r.at_ r.xs.length r.cap, .slice d.at_ d.xs.length d.cap] 94)
      have hp := HPP.out _ (below_step HB.out bw) t r d hr hd
      obtain ⟨s0, s1⟩ := pair_box wr (.slice r.at_ r.xs.length r.cap) (.slice d.at_ d.xs.length d.cap)
      have hx := HAT.out t r d hr hd
      have hxl := xferTo_length r.xs d.xs P
      obtain ⟨Z, hZ⟩ : ∃ Z, xferTo r.xs d.xs P = Z := ⟨_, rfl⟩
      rw [hZ] at hp hx hxl
      have hc0 : w.heap.size < wr.heap.size := by
        rcases Nat.lt_or_ge w.heap.size wr.heap.size with hlt | hge
        · exact hlt
        · have := HC.out
          rw [Array.getElem?_eq_none hge] at this
          cases this
      have hst2 : Hid ((cellsOf E n)[t]? = some (.slice none 0 0)) := by
        show _ = _
        rw [cellsOf, List.getElem?_append_right (by simp [HE.out]), List.getElem?_replicate, if_pos (by simp [HE.out]; omega)]
      have HH1 : Hid (∀ e : CardV, e.xs = Z → holes (E ++ [e]) = H.take (t + 1)) := fun e he => by
        rw [List.take_add_one, hx, ← HS.out]
        simp [holes, he]
      obtain ⟨W1, hW1⟩ : ∃ W1, wr.alloc (.cells #[.slice r.at_ r.xs.length r.cap, .slice d.at_ d.xs.length d.cap] 94) = W1 := ⟨_, rfl⟩
      rw [hW1] at hp s0 s1 bw
      have hsz : wr.heap.size ≤ W1.heap.size := bw.size
      have HB1 := Lib.hid (below_step HB.out bw)
      have HC1 : Hid (W1.heap[w.heap.size]? = some (.cells (cellsOf E n).toArray 33 (0, 0))) := (bw.block _ hc0).trans HC.out
      have HN1 := Lib.hid (HN.out.later bw)
      have t0 : (0 : Int) ≤ (t : Int) := Int.natCast_nonneg _
      have t1 : (t : Int) < (n : Int) := by omega
      obtain ⟨lr, hlr⟩ : ∃ l, r.xs.length = l := ⟨_, rfl⟩
      obtain ⟨ld, hld⟩ : ∃ l, d.xs.length = l := ⟨_, rfl⟩
      rw [hlr] at hp c1 s0 hW1
      rw [hld] at hp c2 s1 hW1
      have HP := Lib.hid hp
      clear hd hr hx hZ hlr hld hp bw hxl
      go_wp2_with fail
      refine HP.out.mono ?_
      rintro e w3 ⟨ge, cp, ex, rfl, hc1, hc2, hge, hb3, hrow⟩
      have HB3 := Lib.hid (below_step HB1.out hb3)
      have HC3 : Hid (w3.heap[w.heap.size]? = some (.cells (cellsOf E n).toArray 33 (0, 0))) := (hb3.block _ (by omega)).trans HC1.out
      have HR3 := Lib.hid (HN1.out.more hb3 (e := ⟨some ⟨ge, 0, none⟩, cp, Z⟩) rfl hge (by omega) hrow)
      have k2 : w3.cell? ⟨w.heap.size, t, none⟩ = some (.slice none 0 0) := by rw [cards_cell HC3.out t]; exact hst2.out
      have f2 := cards_frozen HC3.out t
      clear hb3 hrow hge hc1 hc2
      go_wp2
      go_roundw
      case rel =>
        have hp := cards_put HC3.out ⟨some ⟨ge, 0, none⟩, cp, Z⟩ (by rw [HE.out]; exact hlt)
        rw [HE.out] at hp
        unfold CardV.value at hp
        exact ⟨t + 1, E ++ [(⟨some ⟨ge, 0, none⟩, cp, Z⟩ : CardV)], by omega, by go_num, by show _ = _; simp [HE.out], HH1.out _ rfl, HB3.out.setCell (Nat.le_refl _) _, Lib.hid hp, HR3.out.only (only_set _ _ _ _) HC3.out⟩
      case measure => simp [intOf]; omega
    · have htn : t = n := by omega
      have t1 : ¬ (t : Int) < (n : Int) := by omega
      have hh : holes E = H := by rw [HS.out, List.take_of_length_le (by rw [HH.out]; omega)]
      have HHH := Lib.hid hh
      have HEn : Hid (E.length = n) := by show _ = _; rw [HE.out, htn]
      clear hh htn
      go_wp2
      go_ret
      exact ⟨_, E, rfl, HEn.out, HHH.out, HB.out, Nat.le_refl _, HC.out, HN.out⟩

theorem make_ints (z : Nat) (hz : z ≤ 1048576) : ∃ ob, (∀ W : World, (Instr.makeSlice 29 (.int .i64 z) (.int .i64 z)).run Try.prog W = .ok (.slice (some ⟨W.heap.size, 0, none⟩) z z) (W.alloc ob)) ∧ ∀ W : World, Row (W.alloc ob) W.heap.size (List.replicate z 0) [] := by
  have hmk := run_make_row' (P := Try.prog) 29 2 (.int .i64 0) 8 Try.underlying29 info_int64 rfl .i64 .i64 z (by omega) (by omega)
  refine ⟨_, hmk, fun W => ?_⟩
  rw [madeCells_int]
  exact Row.new_at _ _ rfl

set_option maxRecDepth 100000 in
set_option maxHeartbeats 2000000 in
theorem blank_any (A : Option Addr) (c n z : Nat) (w : World) (hn : n ≤ 40) (hz : z ≤ 20) :
    Calls Try.prog 62 #[.slice A n c, .int .i64 z] w (GivesFeed (List.replicate n (List.replicate z 0)) n w) := by
  have hmk := make_feed n (by omega)
  obtain ⟨ob, hmk2, hrow⟩ := make_ints z (by omega)
  have HRW := Lib.hid hrow
  clear hrow
  go_enter Try.func62, Try.ntmps62
  go_wp2
  clear hmk
  go_loopw [12] (fun x wr => ∃ t : Nat, ∃ E : List CardV, t ≤ n ∧ x = .int .i64 t ∧ Hid (E.length = t) ∧ Hid (holes E = List.replicate t (List.replicate z 0)) ∧ Hid (Below w.heap.size w wr) ∧ Hid (wr.heap[w.heap.size]? = some (.cells (cellsOf E n).toArray 33 (0, 0))) ∧ Hid (NewRows wr w.heap.size E)) (fun x _ => n - (intOf x).toNat)
  case atStart => exact ⟨0, [], Nat.zero_le _, rfl, rfl, by show _ = _; simp [holes], below_box w _, heap_alloc_new w _, NewRows.nil⟩
  case round =>
    obtain ⟨t, E, ht, rfl, HE, HS, HB, HC, HN⟩ := hrel
    by_cases hlt : t < n
    · have hc0 : w.heap.size < wr.heap.size := by
        rcases Nat.lt_or_ge w.heap.size wr.heap.size with hlt | hge
        · exact hlt
        · have := HC.out
          rw [Array.getElem?_eq_none hge] at this
          cases this
      have hst2 : Hid ((cellsOf E n)[t]? = some (.slice none 0 0)) := by
        show _ = _
        rw [cellsOf, List.getElem?_append_right (by simp [HE.out]), List.getElem?_replicate, if_pos (by simp [HE.out]; omega)]
      have bw := below_box wr ob
      have hrow := HRW.out wr
      have HB3 := Lib.hid (below_step HB.out bw)
      have HC3 : Hid ((wr.alloc ob).heap[w.heap.size]? = some (.cells (cellsOf E n).toArray 33 (0, 0))) := (bw.block _ hc0).trans HC.out
      have HR3 := Lib.hid (HN.out.more bw (e := ⟨some ⟨wr.heap.size, 0, none⟩, z, List.replicate z 0⟩) rfl (Nat.le_refl _) (Nat.le_of_lt hc0) hrow)
      have k2 : (wr.alloc ob).cell? ⟨w.heap.size, t, none⟩ = some (.slice none 0 0) := by rw [cards_cell HC3.out t]; exact hst2.out
      have f2 := cards_frozen HC3.out t
      have t0 : (0 : Int) ≤ (t : Int) := Int.natCast_nonneg _
      have t1 : (t : Int) < (n : Int) := by omega
      obtain ⟨W1, hW1⟩ : ∃ W1, wr.alloc ob = W1 := ⟨_, rfl⟩
      rw [hW1] at HB3 HC3 HR3 k2 f2
      have hm2 := hmk2 wr
      rw [hW1] at hm2
      have HW := Lib.hid hW1
      clear bw hrow hmk2 hW1
      go_wp2
      go_roundw
      case rel =>
        have hp := cards_put HC3.out ⟨some ⟨wr.heap.size, 0, none⟩, z, List.replicate z 0⟩ (by rw [HE.out]; exact hlt)
        rw [HE.out] at hp
        unfold CardV.value at hp
        simp only [List.length_replicate] at hp
        exact ⟨t + 1, E ++ [(⟨some ⟨wr.heap.size, 0, none⟩, z, List.replicate z 0⟩ : CardV)], by omega, by go_num, by show _ = _; simp [HE.out], by show _ = _; rw [List.replicate_succ', ← HS.out]; simp [holes], HB3.out.setCell (Nat.le_refl _) _, Lib.hid hp, HR3.out.only (only_set _ _ _ _) HC3.out⟩
      case measure => simp [intOf]; omega
    · obtain rfl : t = n := by omega
      have t1 : ¬ (t : Int) < (t : Int) := by omega
      clear hmk2
      go_wp2
      go_ret
      exact ⟨_, E, rfl, HE.out, HS.out, HB.out, Nat.le_refl _, HC.out, HN.out⟩

/-- pairs of one's own -/
def GivesPairs (R D : List CardV) (n : Nat) (w : World) (e : Ending) (w' : World) : Prop :=
  ∃ g, e = .returned (.slice (some ⟨g, 0, none⟩) n n) ∧ w.heap.size ≤ g ∧ Below w.heap.size w w' ∧ PairRow w' g (R.take n) D n
theorem make_run (n : Nat) (hn : n ≤ 1048576) (W : World) : (Instr.makeSlice 84 (.int .i64 n) (.int .i64 n)).run Try.prog W = .ok (.slice (some ⟨W.heap.size, 0, none⟩) n n) (W.alloc (.cells (cellsOf [] (2 * n)).toArray 94)) := by
  obtain ⟨i0, hi0, hz0, hz1, hz2⟩ := info_parts info_pair
  have hr := run_make (P := Try.prog) W 84 94 i0 _ Try.underlying84 hi0 hz0 .i64 .i64 n n (by omega) (Int.le_refl _) (by rw [hz2]; omega) (by omega)
  have e : madeCells (Value.agg #[Value.slice none 0 0, Value.slice none 0 0]).cells ((n : Int).toNat * i0.size) = (cellsOf [] (2 * n)).toArray := by
    rw [hz1, Int.toNat_natCast]
    apply Array.ext
    · simp [size_madeCells, cellsOf]; omega
    · intro i h1 h2
      have h3 : i % 2 = 0 ∨ i % 2 = 1 := by omega
      rcases h3 with h3 | h3 <;> simp [madeCells, cellsOf, Value.cells, h3]
  rw [e, Int.toNat_natCast] at hr
  exact hr
set_option maxRecDepth 100000 in
set_option maxHeartbeats 2000000 in
theorem beside_any (A A' : Option Addr) (c c' nd nr n : Nat) (D R : List CardV) (B B' : Nat) (w : World) (h : Deck w B A D) (h' : Deck w B' A' R) (hB : B ≤ w.heap.size) (hB' : B' ≤ w.heap.size) (hD : D.length = nd) (hR : R.length = nr) (hnd : n ≤ nd) (hnr : n ≤ nr) (hn : n = nd ∨ n = nr) (h40 : nd ≤ 40) (h41 : nr ≤ 40) :
    Calls Try.prog 63 #[.slice A nd c, .slice A' nr c'] w (GivesPairs R D n w) := by
  have hcs : ((nr : Int) < (nd : Int) ∧ n = nr) ∨ (¬ (nr : Int) < (nd : Int) ∧ n = nd) := by omega
  have hmk := make_run n (by omega)
  have H := Lib.hid h
  have H' := Lib.hid h'
  have HD := Lib.hid hD
  have HR := Lib.hid hR
  have HN1 := Lib.hid hnd
  have HN2 := Lib.hid hnr
  clear h h' hD hR hn hnd hnr
  rcases hcs with ⟨hmin, hnn⟩ | ⟨hmin, hnn⟩
  · have hmin2 : (min (nd : Int) (nr : Int)) = (nr : Int) := by omega
    subst hnn
    go_enter Try.func63, Try.ntmps63
    go_wp2
    clear hmk
    go_loopw [15] (fun x wr => ∃ t : Nat, t ≤ n ∧ x = .int .i64 t ∧ Hid (Below w.heap.size w wr) ∧ Hid (PairRow wr w.heap.size (R.take t) D n)) (fun x _ => n - (intOf x).toNat)
    case atStart => exact ⟨0, Nat.zero_le _, rfl, below_box w _, by show PairRow _ _ _ _ _; unfold PairRow; rw [List.take_zero, zipC_nil]; exact heap_alloc_new w _⟩
    case round =>
      obtain ⟨t, ht, rfl, HB, HP⟩ := hrel
      by_cases hlt : t < n
      · obtain ⟨r, hr⟩ : ∃ r, R[t]? = some r := ⟨R[t]'(by have h1 := HR.out; have h2 := HN2.out; omega), List.getElem?_eq_getElem _⟩
        obtain ⟨d, hd⟩ : ∃ d, D[t]? = some d := ⟨D[t]'(by have h1 := HD.out; have h2 := HN1.out; omega), List.getElem?_eq_getElem _⟩
        obtain ⟨b1, o1, rfl, _, hc1⟩ := (H.out.below (HB.out.mono hB)) (by have h1 := HD.out; have h2 := HN1.out; omega)
        obtain ⟨b2, o2, rfl, _, hc2⟩ := (H'.out.below (HB.out.mono hB')) (by have h1 := HR.out; have h2 := HN2.out; omega)
        have c1 := (hc1 t d hd).1
        have c2 := (hc2 t r hr).1
        have hp := HP.out.put (k := t) hlt (by have h1 := HR.out; have h2 := HN2.out; omega) (by have h1 := HD.out; have h2 := HN1.out; omega) hr hd
        unfold CardV.value at c1 c2 hp
        have k1 : ∃ v, wr.cell? ⟨w.heap.size, t * 2, none⟩ = some v := by
          rw [HP.out.cell]
          exact ⟨_, List.getElem?_eq_getElem (by have := zipC_length (R.take t) D (by have h1 := HD.out; have h2 := HN1.out; simp; omega); simp [cellsOf, this]; omega)⟩
        have k2 : ∃ v, wr.cell? ⟨w.heap.size, t * 2 + 1, none⟩ = some v := by
          rw [HP.out.cell]
          exact ⟨_, List.getElem?_eq_getElem (by have := zipC_length (R.take t) D (by have h1 := HD.out; have h2 := HN1.out; simp; omega); simp [cellsOf, this]; omega)⟩
        obtain ⟨v1, k1⟩ := k1
        obtain ⟨v2, k2⟩ := k2
        have fz := HP.out.frozen
        have HPP := Lib.hid hp
        have HB2 : Hid (Below w.heap.size w ((wr.setCell ⟨w.heap.size, t * 2, none⟩ (.slice r.at_ r.xs.length r.cap)).setCell ⟨w.heap.size, t * 2 + 1, none⟩ (.slice d.at_ d.xs.length d.cap))) := (HB.out.setCell (Nat.le_refl _) _).setCell (Nat.le_refl _) _
        have t0 : (0 : Int) ≤ (t : Int) := Int.natCast_nonneg _
        have t1 : (t : Int) < (n : Int) := by omega
        have t2 : t < nd := by have := HN1.out; omega
        have t3 : t < n := by have := HN2.out; omega
        have t4 : (t : Int) < (nd : Int) := by omega
        have t5 : (t : Int) < (n : Int) := by omega
        clear hr hd hc1 hc2 hp
        go_wp2
        go_region
        all_goals
          go_wp2
          go_roundw
          case rel => exact ⟨t + 1, by omega, by go_num, HB2.out.drew, HPP.out⟩
          case measure => simp [intOf]; omega
      · obtain rfl : t = n := by omega
        have t1 : ¬ (t : Int) < (t : Int) := by omega
        go_wp2
        go_ret
        exact ⟨_, rfl, Nat.le_refl _, HB.out, HP.out⟩
  · have hmin2 : (min (nd : Int) (nr : Int)) = (nd : Int) := by omega
    subst hnn
    go_enter Try.func63, Try.ntmps63
    go_wp2
    clear hmk
    go_loopw [15] (fun x wr => ∃ t : Nat, t ≤ n ∧ x = .int .i64 t ∧ Hid (Below w.heap.size w wr) ∧ Hid (PairRow wr w.heap.size (R.take t) D n)) (fun x _ => n - (intOf x).toNat)
    case atStart => exact ⟨0, Nat.zero_le _, rfl, below_box w _, by show PairRow _ _ _ _ _; unfold PairRow; rw [List.take_zero, zipC_nil]; exact heap_alloc_new w _⟩
    case round =>
      obtain ⟨t, ht, rfl, HB, HP⟩ := hrel
      by_cases hlt : t < n
      · obtain ⟨r, hr⟩ : ∃ r, R[t]? = some r := ⟨R[t]'(by have h1 := HR.out; have h2 := HN2.out; omega), List.getElem?_eq_getElem _⟩
        obtain ⟨d, hd⟩ : ∃ d, D[t]? = some d := ⟨D[t]'(by have h1 := HD.out; have h2 := HN1.out; omega), List.getElem?_eq_getElem _⟩
        obtain ⟨b1, o1, rfl, _, hc1⟩ := (H.out.below (HB.out.mono hB)) (by have h1 := HD.out; have h2 := HN1.out; omega)
        obtain ⟨b2, o2, rfl, _, hc2⟩ := (H'.out.below (HB.out.mono hB')) (by have h1 := HR.out; have h2 := HN2.out; omega)
        have c1 := (hc1 t d hd).1
        have c2 := (hc2 t r hr).1
        have hp := HP.out.put (k := t) hlt (by have h1 := HR.out; have h2 := HN2.out; omega) (by have h1 := HD.out; have h2 := HN1.out; omega) hr hd
        unfold CardV.value at c1 c2 hp
        have k1 : ∃ v, wr.cell? ⟨w.heap.size, t * 2, none⟩ = some v := by
          rw [HP.out.cell]
          exact ⟨_, List.getElem?_eq_getElem (by have := zipC_length (R.take t) D (by have h1 := HD.out; have h2 := HN1.out; simp; omega); simp [cellsOf, this]; omega)⟩
        have k2 : ∃ v, wr.cell? ⟨w.heap.size, t * 2 + 1, none⟩ = some v := by
          rw [HP.out.cell]
          exact ⟨_, List.getElem?_eq_getElem (by have := zipC_length (R.take t) D (by have h1 := HD.out; have h2 := HN1.out; simp; omega); simp [cellsOf, this]; omega)⟩
        obtain ⟨v1, k1⟩ := k1
        obtain ⟨v2, k2⟩ := k2
        have fz := HP.out.frozen
        have HPP := Lib.hid hp
        have HB2 : Hid (Below w.heap.size w ((wr.setCell ⟨w.heap.size, t * 2, none⟩ (.slice r.at_ r.xs.length r.cap)).setCell ⟨w.heap.size, t * 2 + 1, none⟩ (.slice d.at_ d.xs.length d.cap))) := (HB.out.setCell (Nat.le_refl _) _).setCell (Nat.le_refl _) _
        have t0 : (0 : Int) ≤ (t : Int) := Int.natCast_nonneg _
        have t1 : (t : Int) < (n : Int) := by omega
        have t2 : t < n := by have := HN1.out; omega
        have t3 : t < nr := by have := HN2.out; omega
        have t4 : (t : Int) < (n : Int) := by omega
        have t5 : (t : Int) < (nr : Int) := by omega
        clear hr hd hc1 hc2 hp
        go_wp2
        go_region
        all_goals
          go_wp2
          go_roundw
          case rel => exact ⟨t + 1, by omega, by go_num, HB2.out.drew, HPP.out⟩
          case measure => simp [intOf]; omega
      · obtain rfl : t = n := by omega
        have t1 : ¬ (t : Int) < (t : Int) := by omega
        go_wp2
        go_ret
        exact ⟨_, rfl, Nat.le_refl _, HB.out, HP.out⟩
end Go.Proofs.Ytamookdlbmbncaa
