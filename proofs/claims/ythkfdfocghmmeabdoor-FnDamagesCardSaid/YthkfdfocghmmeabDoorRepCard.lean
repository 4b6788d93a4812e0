/- spec.RepairCard gives the card with the nearest characters, and how many holes are changed, or the code, for every card of at most 1048576 columns: a contract. -/
import Derived.Test.YthkfdfocghmmeabDoorRepair
import Derived.Test.YthkfdfocghmmeabDoorOwnMem
import Derived.Test.YthkfdfocghmmeabDoorStepOwn
import Derived.Test.YthkfdfocghmmeabDoorCloneC
import Derived.Deep.RegionHeld3
import Derived.Deep.RegionLaw
import Derived.StillTailTactics
namespace Go.Proofs.YthkfdfocghmmeabDoor
open Go.ChangeShapes Go.WideShapes Go.ChangeAt Go.RowKit

/-- the columns with the nearest characters -/
def repL (xs : List Int) : List Int := xs.map fun x => codeS (charR (nearK x))
theorem repL_length (xs : List Int) : (repL xs).length = xs.length := by simp [repL]
theorem repL_get (xs : List Int) (k : Nat) (h : k < xs.length) : (repL xs)[k]?.getD 0 = codeS (charR (nearK (xs[k]?.getD 0))) := by
  simp [repL, List.getElem?_eq_getElem h]
theorem repL_legal (xs : List Int) : legalB (repL xs) = true := by
  rw [legalB, List.all_eq_true]
  intro x hx
  rw [repL, List.mem_map] at hx
  obtain ⟨y, _, rfl⟩ := hx
  have := codeR_mask (nearK y) (nearK_lt y)
  simp [maskB, inB]
  exact this
/-- the first k of them, as cells -/
def repCells (xs : List Int) (k : Nat) : List Value := ((repL xs).take k).map (Value.int .i64)
theorem repCells_step (xs : List Int) (k : Nat) (h : k < xs.length) : repCells xs (k + 1) = repCells xs k ++ [Value.int .i64 (codeS (charR (nearK (xs[k]?.getD 0))))] := by
  have hl := repL_length xs
  have hg := repL_get xs k h
  rw [List.getElem?_eq_getElem (by omega)] at hg
  have hg' : (repL xs)[k]'(by omega) = codeS (charR (nearK (xs[k]?.getD 0))) := hg
  rw [repCells, repCells, List.take_succ_eq_append_getElem (by omega), hg']
  simp

/-- A card of new memory with the numbers ys, a number, and OK. -/
def GivesCardN (ys : List Int) (r : Int) (w : World) (e : Ending) (w' : World) : Prop :=
  ∃ g cap ex, e = .returned (.tuple #[.agg #[.slice (some ⟨g, 0, none⟩) ys.length cap], .int .i64 r, .int .i64 0]) ∧ w.heap.size ≤ g ∧ Below w.heap.size w w' ∧ Row w' g ys ex
/-- No card, no number, and a code. -/
def GivesCodeN (a : Int) (w : World) (e : Ending) (w' : World) : Prop :=
  e = .returned (.tuple #[.agg #[.slice none 0 0], .int .i64 0, .int .i64 a]) ∧ Below w.heap.size w w'

theorem specRepair_bad (A : Option Addr) (c : Nat) (xs : List Int) (B : Nat) (w : World) (h : Ints w B A xs) (hB : B ≤ w.heap.size) (hn : xs.length ≤ 1048576) (hv : okB xs = false) :
    Calls Tryd.prog 14 #[.agg #[.slice A xs.length c]] w (GivesCodeN 1 w) := by
  have ho := l02Ok_any A c xs B w.heap.size 0 ((w.alloc (.cells #[.slice A xs.length c] 26)).alloc (.cells #[.slice none 0 0] 26)) (by simp) ((h.alloc hB _).alloc (by simp; omega) _) hn
  rw [hv] at ho
  have HO := Lib.hid ho
  clear ho hv h hn
  go_enter Tryd.func14, Tryd.ntmps14
  go_wp2_with (go_at_call 33; refine HO.out.mono ?_; rintro e w' ⟨rfl, rfl⟩)
  exact bodyPost_ret (v := .tuple #[.agg #[.slice none 0 0], .int .i64 0, .int .i64 1]) (by simp [results, Tryd.results14, go_sem]) rfl ⟨rfl, ((below_box w _).alloc (by simp) _)⟩

set_option maxHeartbeats 2000000 in
set_option maxRecDepth 100000 in
theorem specRepair_good (A : Option Addr) (c : Nat) (xs : List Int) (B : Nat) (w : World) (h : Ints w B A xs) (hB : B ≤ w.heap.size) (hn : xs.length ≤ 1048576) (hv : okB xs = true) :
    Calls Tryd.prog 14 #[.agg #[.slice A xs.length c]] w (GivesCardN (repL xs) (distN xs (repL xs)) w) := by
  obtain ⟨i0, hi0, hz0, hz1, hz2⟩ := info_parts info_int
  have i1 := (h.alloc hB (.cells #[.slice A xs.length c] 26)).alloc (by simp; omega) (.cells #[.slice none 0 0] 26)
  have ho := l02Ok_any A c xs B w.heap.size 0 _ (by simp) i1 hn
  rw [hv] at ho
  obtain ⟨hleg, hn20⟩ := okB_parts hv
  have hn0 : 0 < xs.length := by
    have := hv
    simp [okB, inB] at this
    omega
  obtain ⟨n, hN⟩ : ∃ n, xs.length = n := ⟨_, rfl⟩
  obtain ⟨p, hp⟩ : ∃ p, distN xs (repL xs) = p := ⟨_, rfl⟩
  have hp2 : p ≤ 12582912 := by have := distN_le xs (repL xs); omega
  rw [hp]
  rw [hN] at ho hn hn0 ⊢
  have HO := Lib.hid ho
  have HN := Lib.hid hN
  have HP := Lib.hid hp
  have HL := Lib.hid hleg
  have HI := Lib.hid h
  have HRL := Lib.hid (repL_length xs)
  have HC := Lib.hid l03Code_any
  clear ho i1 h hv hN hp hleg hn20
  go_enter Tryd.func14, Tryd.ntmps14
  go_wp2_with (first | (go_at_call 33; refine HO.out.mono ?_; rintro e w' ⟨rfl, rfl⟩) | fail)
  clear HO
  go_loopw [6, 7] (fun a i wr => ∃ k s : Nat, ∃ v : Value, k ≤ n ∧ i = .int .i64 k ∧ a = .int .i64 s ∧ s ≤ 12582912 ∧ Hid (s + distN (xs.drop k) ((repL xs).drop k) = p) ∧ Hid (Below w.heap.size w wr) ∧ w.heap.size + 3 ≤ wr.heap.size ∧ wr.cell? ⟨w.heap.size + 2, 0, none⟩ = some v ∧ wr.frozen? ⟨w.heap.size + 2, 0, none⟩ = false ∧ wr.cell? ⟨w.heap.size, 0, none⟩ = some (.slice A n c) ∧ (∃ u, wr.cell? ⟨w.heap.size + 1, 0, none⟩ = some u) ∧ wr.frozen? ⟨w.heap.size + 1, 0, none⟩ = false ∧ Hid (wr.ownsRow (w.heap.size + 3) 2 1 v k (repCells xs k))) (fun _ i _ => n - (intOf i).toNat)
  case atStart =>
    exact ⟨0, 0, .slice none 0 0, Nat.zero_le _, rfl, rfl, by omega, by show _ = _; simpa using HP.out, ((below_box w _).alloc (by simp) _).alloc (by simp; omega) _, by simp, by simp [go_sem], by simp [go_sem], by simp [go_sem], ⟨.slice none 0 0, by simp [go_sem]⟩, by simp [go_sem], ⟨rfl, Or.inl ⟨rfl, rfl⟩⟩⟩
  case round =>
    obtain ⟨k, s, v, hk, rfl, rfl, hs, HS, HB, hsz, cv, fv, c0, ⟨u4, c4⟩, f4, HOW⟩ := hrel
    by_cases hlt : k < n
    · have hx : k < xs.length := by rw [HN.out]; exact hlt
      obtain ⟨b, off, rfl, hb, hcell⟩ := (HI.out.below (HB.out.mono hB)) (by omega)
      have x1 := hcell k hx
      have hm := legal_at HL.out hx
      have hst := repCells_step xs k hx
      have HS1 : Hid (s + df (xs[k]?.getD 0) ((repL xs)[k]?.getD 0) + distN (xs.drop (k + 1)) ((repL xs).drop (k + 1)) = p) := by
        have := HS.out
        rw [distN_drop xs (repL xs) k hx (by rw [HRL.out]; exact hx)] at this
        show _ = _
        omega
      rw [repL_get xs k hx] at HS1
      obtain ⟨x, hxx⟩ : ∃ x, xs[k]?.getD 0 = x := ⟨_, rfl⟩
      rw [hxx] at x1 hm hst HS1
      have hr := fun W => l06Repair_any x hm W
      have hcb := charR_le (nearK x)
      obtain ⟨ch, hch⟩ : ∃ ch, charR (nearK x) = ch := ⟨_, rfl⟩
      rw [hch] at hr hst HS1 hcb
      have hc := fun W => HC.out ch hcb.1 hcb.2 W
      have hdl := df_le x (codeS ch)
      obtain ⟨y, hy⟩ : ∃ y, codeS ch = y := ⟨_, rfl⟩
      rw [hy] at hr hst HS1 hc hdl
      obtain ⟨d, hd⟩ : ∃ d, df x y = d := ⟨_, rfl⟩
      rw [hd] at hr HS1 hdl
      have hss : s + d ≤ 12582912 := by have := HS1.out; omega
      have HR := Lib.hid hr
      have HX := Lib.hid hc
      have HST := Lib.hid hst
      have hk0 : (0 : Int) ≤ (k : Int) := Int.natCast_nonneg _
      have hlt' : (k : Int) < (n : Int) := by omega
      have h63 : k + 1 ≤ maxLen := by unfold maxLen; omega
      have h8 : (k + 1) * 8 ≤ 140737488355328 := by omega
      clear hcell hx hxx hm hr hcb hch hc hy hd hst HI HL HS
      have HBD := Lib.hid (Below.drew HB.out)
      have HOD := Lib.hid (own_drew HOW.out)
      have cvd : Hid (wr.drew.cell? ⟨w.heap.size + 2, 0, none⟩ = some v) := cv
      have c0d : Hid (wr.drew.cell? ⟨w.heap.size, 0, none⟩ = some (.slice (some ⟨b, off, none⟩) n c)) := c0
      have c4d : Hid (wr.drew.cell? ⟨w.heap.size + 1, 0, none⟩ = some u4) := c4
      have fvd : Hid (wr.drew.frozen? ⟨w.heap.size + 2, 0, none⟩ = false) := fv
      have f4d : Hid (wr.drew.frozen? ⟨w.heap.size + 1, 0, none⟩ = false) := f4
      have hszd : Hid (w.heap.size + 3 ≤ wr.drew.heap.size) := hsz
      have L2 : Hid (w.heap.size + 2 < wr.drew.heap.size) := by show _ < _; exact Nat.lt_of_lt_of_le (by omega : w.heap.size + 2 < w.heap.size + 3) hsz
      have L1 : Hid (w.heap.size + 1 < wr.drew.heap.size) := by show _ < _; exact Nat.lt_of_lt_of_le (by omega : w.heap.size + 1 < w.heap.size + 3) hsz
      have L0 : Hid (w.heap.size < wr.drew.heap.size) := by show _ < _; exact Nat.lt_of_lt_of_le (by omega : w.heap.size < w.heap.size + 3) hsz
      have E2 : Hid (w.heap.size + 2 < w.heap.size + 3) := by show _ < _; omega
      have E1 : Hid (w.heap.size + 1 < w.heap.size + 3) := by show _ < _; omega
      have E0 : Hid (w.heap.size < w.heap.size + 3) := by show _ < _; omega
      have E3 : Hid (w.heap.size ≤ w.heap.size + 3) := by show _ ≤ _; omega
      have cvA : (wr.alloc (.cells #[.int .i64 y] 2)).cell? ⟨w.heap.size + 2, 0, none⟩ = some v := by
        have hl : w.heap.size + 2 < wr.heap.size := L2.out
        exact (World.cell?_alloc_past (w := wr) _ _ _ hl).trans cv
      go_wp2_with (go_at_call 34; refine (HR.out _).mono ?_; rintro e w' ⟨rfl, rfl⟩)
      go_region_law (first
        | (refine step_append_own _ rfl _ _ 24 rfl (w.heap.size + 3) 2 i0 (.int .i64 0) 1 8 Tryd.underlying24 hi0 hz0 hz1 hz2 rfl (by decide) _ _ _ rfl (HOW.out.alloc _) ⟨wr.heap.size, 0, none⟩ 1 1 [.int .i64 y] rfl rfl (one_news _ y) (one_cell y) h63 h8 (by first | omega | (simp; omega)) ?_; intro v' w9 hown hgrow' _; obtain ⟨gq, cq, rfl⟩ := int_shape hown (Nat.succ_pos _); have hgrow : (wr.drew.alloc (.cells #[.int .i64 y] 2)).grownBy w9 v.ownBlock := hgrow'; have cv9 := cell_block (append_block hgrow HOD.out (i := w.heap.size + 2) L2.out E2.out) cvd.out; have fv9 := frozen_block (append_block hgrow HOD.out (i := w.heap.size + 2) L2.out E2.out) fvd.out; have c09 := cell_block (append_block hgrow HOD.out (i := w.heap.size) L0.out E0.out) c0d.out; have c49 := cell_block (append_block hgrow HOD.out (i := w.heap.size + 1) L1.out E1.out) c4d.out; have f49 := frozen_block (append_block hgrow HOD.out (i := w.heap.size + 1) L1.out E1.out) f4d.out; have HB9 := Lib.hid (below_append HBD.out hgrow HOD.out (Nat.le_of_lt L0.out) E3.out); have HO9 := Lib.hid hown; have hsz9 := Nat.le_trans hszd.out (append_size hgrow); clear hown hgrow hgrow')
        | (go_simp; go_at_call 35; refine (HX.out _).mono ?_; rintro e w' ⟨rfl, rfl⟩))
      all_goals
        go_wp2
        go_roundw
        case rel =>
          refine ⟨k + 1, s + d, .slice (some ⟨gq, 0, none⟩) (k + 1) cq, by omega, by go_num, by go_num, hss, HS1, HB9.out.setCell (by show _ ≤ w.heap.size + 2; omega) _, ?_, ?_, ?_, ?_, ⟨u4, ?_⟩, ?_, ?_⟩
          · simpa [World.setCell] using hsz9
          · simp [go_sem, cv9]
          · simp [go_sem, fv9]
          · simp [go_sem, c09]
          · simp [go_sem, c49]
          · simp [go_sem, f49]
          · have how := HO9.out
            rw [← HST.out] at how
            have := own_far how ⟨w.heap.size + 2, 0, none⟩ (.slice (some ⟨gq, 0, none⟩) (k + 1) cq) (by show w.heap.size + 2 < _; omega)
            simpa [Hid] using this
        case measure => simp [intOf]; omega
    · have hkn : k = n := by omega
      have hk1 : ¬ (k : Int) < (n : Int) := by omega
      obtain rfl : s = p := by
        have := HS.out
        rw [List.drop_of_length_le (by rw [HN.out]; omega), List.drop_of_length_le (by rw [HRL.out, HN.out]; omega)] at this
        simpa [distN] using this
      obtain ⟨gq, cq, rfl⟩ := int_shape HOW.out (by omega)
      have HD : Hid (GivesCardN (repL xs) s w (.returned (.tuple #[.agg #[.slice (some ⟨gq, 0, none⟩) k cq], .int .i64 s, .int .i64 0])) (wr.setCell ⟨w.heap.size + 1, 0, none⟩ (.slice (some ⟨gq, 0, none⟩) k cq))) := by
        have hl := HRL.out
        have ho := HOW.out
        have hcc : repCells xs k = (repL xs).map (Value.int .i64) := by rw [repCells, List.take_of_length_le (by rw [HRL.out, HN.out]; omega)]
        rw [hcc] at ho
        obtain ⟨g, cap, ex, hv, h3, h4, h5, hrow⟩ := owned_rowC ho (by omega) (by rw [HRL.out, HN.out, hkn])
        have hgc : gq = g ∧ cq = cap := by injection hv with h1 h2 h3; injection h1 with h1; injection h1 with h1; exact ⟨h1, h3⟩
        obtain ⟨rfl, rfl⟩ := hgc
        refine ⟨gq, cq, ex, by rw [hl, HN.out, hkn], by omega, HB.out.setCell (by show _ ≤ w.heap.size + 1; omega) _, hrow.far (by show gq ≠ w.heap.size + 1; omega) _⟩
      have hc4 : (wr.setCell ⟨w.heap.size + 1, 0, none⟩ (.slice (some ⟨gq, 0, none⟩) k cq)).cell? ⟨w.heap.size + 1, 0, none⟩ = some (.slice (some ⟨gq, 0, none⟩) k cq) := cell_put c4 _
      clear hkn
      go_wp2
      exact bodyPost_ret (v := .tuple #[.agg #[.slice (some ⟨gq, 0, none⟩) k cq], .int .i64 s, .int .i64 0]) (by simp [results, Tryd.results14, go_sem, hc4]) rfl HD.out
end Go.Proofs.YthkfdfocghmmeabDoor
