/- impl.SortedBy and spec.SortedBy answer copies of the cards in the sorted order: contracts. -/
import Derived.Test.YtmmppflaacabbaaDoorOrderBy
import Derived.Test.YtmmppflaacabbaaDoorOrderP
import Derived.Test.YtmmppflaacabbaaDoorM10
namespace Go.Proofs.YtmmppflaacabbaaDoor
open Go.ChangeShapes Go.WideShapes Go.ChangeAt Go.RowKit

/-- what is known of a place of the order -/
theorem order_at {D : List CardV} {i j k n : Nat} (hN : D.length = n) (hv : deckB (holes D) = true) (hj : j ≤ widthH (holes D)) (hij : i < j) (hk : k < n) : ∃ (q : Nat) (d : CardV), (orderV (holes D) i j)[k]?.getD 0 = (q : Int) ∧ q < n ∧ D[q]? = some d ∧ (sortV (holes D) i j)[k]? = some d.xs ∧ 0 < d.xs.length ∧ d.xs.length ≤ 20 := by
  have hHn : (holes D).length = n := by simp [holes, hN]
  have hl := orderV_length (holes D) i j
  rw [hHn] at hl
  have hx : (orderV (holes D) i j)[k]? = some ((orderV (holes D) i j)[k]'(by omega)) := List.getElem?_eq_getElem _
  have hm := identL_mem.1 ((orderV_is (holes D) i j).1.subset (List.mem_of_getElem? hx))
  rw [hHn] at hm
  obtain ⟨x, ex⟩ : ∃ x, (orderV (holes D) i j)[k]'(by omega) = x := ⟨_, rfl⟩
  rw [ex] at hx hm
  obtain ⟨q, rfl⟩ : ∃ q : Nat, x = q := ⟨x.toNat, by have := hm.1; omega⟩
  have hq : q < n := by have := hm.2; omega
  have hd : D[q]? = some (D[q]'(by omega)) := List.getElem?_eq_getElem _
  have hh := holes_at hd
  obtain ⟨y1, y2⟩ := deck_width hv hh
  refine ⟨q, _, by rw [hx]; rfl, hq, hd, ?_, by rw [y2]; omega, (okB_parts y1).2⟩
  rw [sortV, List.getElem?_map, hx, Option.map_some, Int.toNat_natCast, hh]
  rfl

/-- A list of cards of new memory, with no less room than columns, and a code. -/
def GivesDCC (H : List (List Int)) (code : Int) (w : World) (e : Ending) (w' : World) : Prop :=
  ∃ A cap E, e = .returned (.tuple #[.slice A H.length cap, .int .i64 code]) ∧ holes E = H ∧ Below w.heap.size w w' ∧ DeckAt w' w.heap.size w'.heap.size A E ∧ CapsOk E

section
variable (A : Option Addr) (c : Nat) (D : List CardV) (B : Nat) (a b : Int) (w : World) (h : Deck w B A D) (hB : B ≤ w.heap.size) (hn : D.length ≤ 1048576) (hl : ∀ d ∈ D, d.xs.length ≤ 1048576)
include h hB hn hl

set_option maxRecDepth 100000 in
set_option maxHeartbeats 2000000 in
theorem implSortedC_any (hcap : CapsOk D) (hP : Places w) :
    Calls Tryd.prog 10 #[.slice A D.length c, .agg #[.int .i64 a, .int .i64 b]] w (GivesDCC (sortA (holes D) a b) (keysC (holes D) a b) w) := by
  have b0 := below_box w (.cells #[.int .i64 a, .int .i64 b] 27)
  have hk := implOrder_any A c D B a b (w.alloc (.cells #[.int .i64 a, .int .i64 b] 27)) (h.below (b0.mono hB)) (by simp; omega) hn hl hcap (hP.below b0)
  have BW := Lib.hid b0
  obtain ⟨n, hN⟩ : ∃ n, D.length = n := ⟨_, rfl⟩
  rw [sortA]
  rw [orderA] at hk
  by_cases e : keysC (holes D) a b = 0
  · obtain ⟨i, j, rfl, rfl, hij, hj, hv, hkb⟩ := keysC_zero e
    have hHn : (holes D).length = n := by simp [holes, hN]
    have hn40 : n ≤ 40 := by
      have := deck_len hv
      omega
    rw [if_pos e, Int.toNat_natCast, Int.toNat_natCast] at hk
    rw [if_pos e, Int.toNat_natCast, Int.toNat_natCast]
    rw [e] at hk ⊢
    have hat := fun k hk => order_at (k := k) hN hv hj hij hk
    have hvl := orderV_length (holes D) i j
    have hsl := sortV_length (holes D) i j
    rw [hHn] at hvl hsl
    obtain ⟨V, hV⟩ : ∃ V, orderV (holes D) i j = V := ⟨_, rfl⟩
    obtain ⟨S, hS⟩ : ∃ S, sortV (holes D) i j = S := ⟨_, rfl⟩
    simp only [hV, hS] at hat
    rw [hV] at hk hvl
    rw [hS] at hsl ⊢
    unfold GivesIC at hk
    rw [hvl, hN] at hk
    rw [hN] at hn ⊢
    have HA := Lib.hid hat
    have HVL := Lib.hid hvl
    have HSL := Lib.hid hsl
    have HK := Lib.hid hk
    have H := Lib.hid h
    have HN := Lib.hid hN
    have hmk : ∀ W : World, (Instr.makeSlice 24 (.int .i64 n) (.int .i64 n)).run Tryd.prog W = .ok (.slice (some ⟨W.heap.size, 0, none⟩) n n) (W.alloc (.cells (cellsOf [] n).toArray 37)) := fun W => by
      obtain ⟨i0, hi0, hz0, hz1, hz2⟩ := info_parts info_card
      have hr := run_make (P := Tryd.prog) W 24 37 i0 _ Tryd.underlying24 hi0 hz0 .i64 .i64 n n (by omega) (Int.le_refl _) (by rw [hz2]; omega) (by omega)
      have e : madeCells (Value.agg #[Value.slice none 0 0]).cells ((n : Int).toNat * i0.size) = (cellsOf [] n).toArray := by
        rw [hz1, Int.toNat_natCast, Nat.mul_one]
        apply Array.ext
        · simp [size_madeCells, cellsOf]
        · intro i h1 h2
          simp [madeCells, cellsOf, Value.cells, Nat.mod_one]
      rw [e, Int.toNat_natCast] at hr
      exact hr
    clear hat hvl hsl hk h hl hcap b0 e hv hkb hj hij hHn hN hP hV hS
    go_enter Tryd.func10, Tryd.ntmps10
    go_wp2_with fail
    refine HK.out.mono ?_
    rintro e w1 ⟨A1, c1, rfl, hb, hi⟩
    have B1 := Lib.hid (below_step BW.out hb)
    have HI := Lib.hid hi
    clear hb hi HK
    go_wp2
    clear hmk
    go_loopw [25] (fun x wr => ∃ t : Nat, ∃ E : List CardV, t ≤ n ∧ x = .int .i64 t ∧ Hid (E.length = t) ∧ Hid (holes E = S.take t) ∧ Hid (Below w1.heap.size w1 wr) ∧ Hid (wr.heap[w1.heap.size]? = some (.cells (cellsOf E n).toArray 37 (0, 0))) ∧ Hid (NewRows wr w1.heap.size E) ∧ Hid (CapsOk E)) (fun x _ => n - (intOf x).toNat)
    case atStart => exact ⟨0, [], Nat.zero_le _, rfl, rfl, by show _ = _; simp [holes], below_box w1 _, heap_alloc_new w1 _, NewRows.nil, (fun d hd => by cases hd)⟩
    case round =>
      obtain ⟨t, E, ht, rfl, HE, HS, HB, HC, HR, HCK⟩ := hrel
      by_cases hlt : t < n
      · obtain ⟨q, d, hq1, hqn, hd, hst, h0, h20⟩ := HA.out t hlt
        obtain ⟨g1, ex1, rfl, _, _, hr1⟩ := HI.out.top (by rw [HVL.out]; omega)
        have o1 := cell_kept (hr1.cell (i := t) (by rw [HVL.out]; exact hlt)) HB.out
        rw [hq1] at o1
        have BD := below_step B1.out HB.out
        obtain ⟨b, off, rfl, hb, hcell⟩ := (H.out.below (BD.mono hB)) (by rw [HN.out]; omega)
        obtain ⟨hc, hi⟩ := hcell q d hd
        have HT := Lib.hid (copyNew_any d.at_ d.cap d.xs B wr hi (Nat.le_trans hB BD.size) h0 (by omega))
        have hc0 : w1.heap.size < wr.heap.size := by
          rcases Nat.lt_or_ge w1.heap.size wr.heap.size with hlt | hge
          · exact hlt
          · have := HC.out
            rw [Array.getElem?_eq_none hge] at this
            cases this
        have hst2 : Hid ((cellsOf E n)[t]? = some (.slice none 0 0)) := by
          show _ = _
          rw [cellsOf, List.getElem?_append_right (by simp [HE.out]), List.getElem?_replicate, if_pos (by simp [HE.out]; omega)]
        have HH1 : Hid (∀ e : CardV, e.xs = d.xs → holes (E ++ [e]) = S.take (t + 1)) := fun e he => by
          rw [List.take_add_one, hst, ← HS.out]
          simp [holes, he]
        unfold CardV.value at hc
        have q0 : (0 : Int) ≤ (q : Int) := Int.natCast_nonneg _
        have q1 : (q : Int) < (n : Int) := by omega
        have t0 : (0 : Int) ≤ (t : Int) := Int.natCast_nonneg _
        have t1 : (t : Int) < (n : Int) := by omega
        obtain ⟨m, hm⟩ : ∃ m, d.xs.length = m := ⟨_, rfl⟩
        rw [hm] at hc HT
        have HM := Lib.hid hm
        clear hcell hd hst hi hr1 BD hq1 h0 h20 hm
        go_wp2_with fail
        refine HT.out.mono ?_
        rintro e w3 ⟨ge, cp, ex, rfl, hc1, hc2, hge, hb3, hrow⟩
        rw [HM.out]
        have HB3 := Lib.hid (below_step HB.out hb3)
        have HC3 : Hid (w3.heap[w1.heap.size]? = some (.cells (cellsOf E n).toArray 37 (0, 0))) := (hb3.block _ hc0).trans HC.out
        have HR3 := Lib.hid (HR.out.more hb3 (e := ⟨some ⟨ge, 0, none⟩, cp, d.xs⟩) rfl hge (Nat.le_trans (Nat.le_of_lt hc0) hge) hrow)
        have c2 : w3.cell? ⟨w1.heap.size, t, none⟩ = some (.slice none 0 0) := by rw [cards_cell HC3.out t]; exact hst2.out
        have f2 := cards_frozen HC3.out t
        have HCK1 : Hid (CapsOk (E ++ [(⟨some ⟨ge, 0, none⟩, cp, d.xs⟩ : CardV)])) := fun x hx => by
          rcases List.mem_append.1 hx with hx | hx
          · exact HCK.out x hx
          · obtain rfl : x = ⟨some ⟨ge, 0, none⟩, cp, d.xs⟩ := by simpa using hx
            unfold maxLen at hc2
            exact ⟨by show d.xs.length ≤ cp; rw [HM.out]; rw [HM.out] at hc1; exact hc1, by show cp ≤ _; omega⟩
        clear hb3 hrow hge hc1 hc2
        go_wp2
        go_roundw
        case rel =>
          have hp := cards_put HC3.out ⟨some ⟨ge, 0, none⟩, cp, d.xs⟩ (by rw [HE.out]; exact hlt)
          rw [HE.out] at hp
          unfold CardV.value at hp
          simp only [HM.out] at hp
          exact ⟨t + 1, E ++ [(⟨some ⟨ge, 0, none⟩, cp, d.xs⟩ : CardV)], by omega, by go_num, by show _ = _; simp [HE.out], HH1.out _ rfl, HB3.out.setCell (Nat.le_refl _) _, Lib.hid hp, HR3.out.only (only_set _ _ _ _) HC3.out, HCK1⟩
        case measure => simp [intOf]; omega
      · have htn : t = n := by omega
        have t1 : ¬ (t : Int) < (n : Int) := by omega
        have hh : holes E = S := by rw [HS.out, List.take_of_length_le (by rw [HSL.out]; omega)]
        have HHH := Lib.hid hh
        have HDA := Lib.hid ((HR.out.deckAt (g := w1.heap.size) (fun _ => ⟨Nat.le_refl _, HC.out⟩) (fun i d hd => by rw [cards_cell HC.out i, cellsOf_get E n i d hd])).widen B1.out.size (Nat.le_refl _) (Nat.le_refl _))
        have BB := Lib.hid (below_step B1.out HB.out)
        clear hh htn
        go_wp2
        go_ret2
        exact ⟨_, n, E, by rw [HSL.out]; rfl, HHH.out, BB.out, HDA.out, HCK.out⟩
  · rw [if_neg e]
    rw [if_neg e] at hk
    obtain ⟨k, hk0⟩ : ∃ k, keysC (holes D) a b = k := ⟨_, rfl⟩
    rw [hk0] at hk e ⊢
    rw [hN] at hk ⊢
    have e1 : (k != 0) = true := by simpa using e
    have HK := Lib.hid hk
    clear hk h hl hcap b0 hk0 hN hn hP
    go_enter Tryd.func10, Tryd.ntmps10
    go_wp2_with fail
    refine HK.out.mono ?_
    rintro e' w1 ⟨A1, c1, rfl, hb, _⟩
    have B1 := Lib.hid (below_step BW.out hb)
    clear hb HK
    go_wp2
    go_ret2
    exact ⟨none, 0, [], rfl, rfl, B1.out, DeckAt.nil (Nat.le_refl _), fun d hd => by cases hd⟩

end
end Go.Proofs.YtmmppflaacabbaaDoor