/- Plain facts of columns that are moved to greater columns, or to lesser ones. -/
import Derived.Test.YtjfogadcedgndaaSh1
import Derived.Test.YtjfogadcedgndaaSh3
namespace Go.Proofs.Ytjfogadcedgndaa
open Go.ChangeShapes Go.WideShapes Go.ChangeAt Go.RowKit

/-- the first j columns, moved by b, in as many columns as there are -/
def moveTo (xs : List Int) (b : Int) (j : Nat) : List Int := (List.range xs.length).map fun t : Nat => if 0 ≤ (t : Int) - b ∧ (t : Int) - b < (j : Int) then xs[((t : Int) - b).toNat]?.getD 0 else 0
/-- a card as it is read if it is shifted -/
def shiftL (xs : List Int) (b : Int) : List Int := moveTo xs b xs.length

theorem moveTo_length (xs : List Int) (b : Int) (j : Nat) : (moveTo xs b j).length = xs.length := by simp [moveTo]
theorem shiftL_length (xs : List Int) (b : Int) : (shiftL xs b).length = xs.length := moveTo_length _ _ _
theorem moveTo_get (xs : List Int) (b : Int) (j t : Nat) (h : t < xs.length) : (moveTo xs b j)[t]?.getD 0 = if 0 ≤ (t : Int) - b ∧ (t : Int) - b < (j : Int) then xs[((t : Int) - b).toNat]?.getD 0 else 0 := by
  simp [moveTo, h]
theorem moveTo_zero (xs : List Int) (b : Int) : moveTo xs b 0 = List.replicate xs.length 0 := by
  apply List.ext_getElem
  · simp [moveTo]
  · intro t h1 h2
    simp only [moveTo, List.getElem_map, List.getElem_range, List.getElem_replicate]
    rw [if_neg (by omega)]
theorem moveTo_out (xs : List Int) (b : Int) (j : Nat) (h : ¬ (0 ≤ (j : Int) + b ∧ (j : Int) + b < (xs.length : Int))) : moveTo xs b (j + 1) = moveTo xs b j := by
  apply List.ext_getElem
  · simp [moveTo]
  · intro t h1 h2
    have ht : t < xs.length := by simpa [moveTo] using h1
    simp only [moveTo, List.getElem_map, List.getElem_range]
    by_cases hc : 0 ≤ (t : Int) - b ∧ (t : Int) - b < (j : Int)
    · rw [if_pos hc, if_pos (by omega)]
    · rw [if_neg hc, if_neg (by omega)]
theorem moveTo_in (xs : List Int) (b : Int) (j t : Nat) (e : (j : Int) + b = t) (_ : t < xs.length) : (moveTo xs b j).set t (xs[j]?.getD 0) = moveTo xs b (j + 1) := by
  apply List.ext_getElem
  · simp [moveTo]
  · intro u h1 h2
    have hu : u < xs.length := by simpa [moveTo] using h2
    rw [List.getElem_set]
    simp only [moveTo, List.getElem_map, List.getElem_range]
    by_cases hut : t = u
    · subst hut
      rw [if_pos rfl, if_pos (by omega)]
      rw [show ((t : Int) - b).toNat = j by omega]
    · rw [if_neg hut]
      by_cases hc : 0 ≤ (u : Int) - b ∧ (u : Int) - b < (j : Int)
      · rw [if_pos hc, if_pos (by omega)]
      · rw [if_neg hc, if_neg (by omega)]
theorem shiftL_yes (xs : List Int) (b : Int) (k q : Nat) (hk : k < xs.length) (e : (k : Int) - b = q) (hq : q < xs.length) : (shiftL xs b)[k]?.getD 0 = xs[q]?.getD 0 := by
  rw [shiftL, moveTo_get xs b _ k hk, if_pos (by omega), e, Int.toNat_natCast]
theorem shiftL_no (xs : List Int) (b : Int) (k : Nat) (hk : k < xs.length) (h : ¬ (0 ≤ (k : Int) - b ∧ (k : Int) - b < (xs.length : Int))) : (shiftL xs b)[k]?.getD 0 = 0 := by
  rw [shiftL, moveTo_get xs b _ k hk, if_neg h]
theorem part_stay (xs : List Int) (k : Nat) (hk : k < xs.length) (h : xs[k]?.getD 0 = 0) : part xs (k + 1) = part xs k := by
  rw [← part_set xs k hk, h]
  apply List.ext_getElem
  · simp
  · intro t h1 h2
    rw [List.getElem_set]
    by_cases ht : k = t
    · subst ht
      rw [if_pos rfl]
      simp [part, Nat.min_eq_left (Nat.le_of_lt hk)]
    · rw [if_neg ht]
theorem shiftL_mask (xs : List Int) (b : Int) (h : legalB xs = true) : legalB (shiftL xs b) = true := by
  rw [legalB, List.all_eq_true]
  intro x hx
  simp only [shiftL, moveTo, List.mem_map, List.mem_range] at hx
  obtain ⟨t, ht, rfl⟩ := hx
  by_cases hc : 0 ≤ (t : Int) - b ∧ (t : Int) - b < (xs.length : Int)
  · rw [if_pos hc]
    have := legal_at h (j := ((t : Int) - b).toNat) (by omega)
    simp [maskB, inB]
    exact this
  · rw [if_neg hc]
    rfl
theorem okB_shift {xs : List Int} (h : okB xs = true) (b : Int) : okB (shiftL xs b) = true := by
  have h1 := (okB_parts h).1
  rw [okB, h1, Bool.true_and] at h
  rw [okB, shiftL_mask xs b h1, shiftL_length, h]
  rfl
end Go.Proofs.Ytjfogadcedgndaa

/- spec.ShiftCard and impl.ShiftCard give the card as it is read if it is shifted, or the code, for every card of at most 1048576 columns and every number: contracts, of spec.l06Shift and impl's method shifted too. -/
namespace Go.Proofs.Ytjfogadcedgndaa
open Go.ChangeShapes Go.WideShapes Go.ChangeAt Go.RowKit

/-- A card of new memory with the numbers ys. -/
def GivesC (ys : List Int) (w : World) (e : Ending) (w' : World) : Prop :=
  ∃ g cap ex, e = .returned (.agg #[.slice (some ⟨g, 0, none⟩) ys.length cap]) ∧ w.heap.size ≤ g ∧ Below w.heap.size w w' ∧ Row w' g ys ex

theorem l06Shift_any (A : Option Addr) (c : Nat) (xs : List Int) (B p o : Nat) (b : Int) (w : World) (hp : w.cell? ⟨p, o, none⟩ = some (.slice A xs.length c)) (h : Ints w B A xs) (_ : B ≤ w.heap.size) (h0 : 0 < xs.length) (hn : xs.length ≤ 1048576) (hb : -1048576 ≤ b ∧ b ≤ 1048576) :
    Calls Try.prog 75 #[.pointer (some ⟨p, o, none⟩), .int .i64 b] w (GivesC (shiftL xs b) w) := by
  obtain ⟨n, hN⟩ : ∃ n, xs.length = n := ⟨_, rfl⟩
  have hls := shiftL_length xs b
  rw [hN] at hls hn hp h0
  have hmk := run_make_row' (P := Try.prog) 24 2 (.int .i64 0) 8 Try.underlying24 info_int64 rfl .i64 .i64 n (by omega) (by omega)
  have hlt := World.block_lt_of_cell? _ _ hp
  obtain ⟨b', off', rfl, hb', hcell'⟩ := h (by omega)
  have HC := Lib.hid hcell'
  have HN := Lib.hid hN
  have HP := Lib.hid hp
  have HL := Lib.hid hls
  have p1 := cell_kept hp (below_box w (.cells #[.slice none 0 0] 26))
  clear h hcell' hN hls hp
  go_enter Try.func75, Try.ntmps75
  go_wp2
  clear hmk p1
  have HROW : Hid (Row (((w.alloc (.cells #[.slice none 0 0] 26)).alloc (.cells (madeCells #[Value.int .i64 0] n) 2)).alloc (.cells #[.slice (some ⟨w.heap.size + 1, 0, none⟩) n n] 26)) (w.heap.size + 1) (part (shiftL xs b) 0) []) := by
    show Row _ _ _ _
    rw [part_zero, HL.out, madeCells_int]
    exact (Row.new_at _ _ (by simp)).alloc _
  have HBOX : Hid ((((w.alloc (.cells #[.slice none 0 0] 26)).alloc (.cells (madeCells #[Value.int .i64 0] n) 2)).alloc (.cells #[.slice (some ⟨w.heap.size + 1, 0, none⟩) n n] 26)).cell? ⟨w.heap.size + 1 + 1, 0, none⟩ = some (.slice (some ⟨w.heap.size + 1, 0, none⟩) n n)) := by
    show _ = _
    simp [go_sem]
  have HRES : Hid ((((w.alloc (.cells #[.slice none 0 0] 26)).alloc (.cells (madeCells #[Value.int .i64 0] n) 2)).alloc (.cells #[.slice (some ⟨w.heap.size + 1, 0, none⟩) n n] 26)).cell? ⟨w.heap.size, 0, none⟩ = some (.slice none 0 0)) := by
    show _ = _
    simp [go_sem]
  have HFR : Hid ((((w.alloc (.cells #[.slice none 0 0] 26)).alloc (.cells (madeCells #[Value.int .i64 0] n) 2)).alloc (.cells #[.slice (some ⟨w.heap.size + 1, 0, none⟩) n n] 26)).frozen? ⟨w.heap.size, 0, none⟩ = false) := by
    show _ = _
    simp [go_sem]
  have HB2 : Hid (Below w.heap.size w (((w.alloc (.cells #[.slice none 0 0] 26)).alloc (.cells (madeCells #[Value.int .i64 0] n) 2)).alloc (.cells #[.slice (some ⟨w.heap.size + 1, 0, none⟩) n n] 26))) := (((below_box w _).alloc (by simp) _).alloc (by simp; omega) _)
  have HP2 := Lib.hid (cell_kept HP.out HB2.out)
  generalize ((w.alloc (.cells #[.slice none 0 0] 26)).alloc (.cells (madeCells #[Value.int .i64 0] n) 2)).alloc (.cells #[.slice (some ⟨w.heap.size + 1, 0, none⟩) n n] 26) = w2 at *
  go_loopw [7] (fun i wr => ∃ k : Nat, k ≤ n ∧ i = .int .i64 k ∧ w2.grownBy wr (some (w.heap.size + 1)) ∧ Row wr (w.heap.size + 1) (part (shiftL xs b) k) []) (fun i _ => n - (intOf i).toNat)
  case atStart => exact ⟨0, Nat.zero_le _, rfl, World.grownBy.refl _ _, HROW.out⟩
  case round =>
    obtain ⟨k, hk, rfl, hgr, hrow⟩ := hrel
    have e1 := Lib.hid (cell_only hgr HBOX.out (by show w.heap.size + 1 + 1 ≠ w.heap.size + 1; omega))
    have e2 := Lib.hid (cell_only hgr HP2.out (by show p ≠ w.heap.size + 1; have : p < w.heap.size := hlt; omega))
    have hpl := Lib.hid (part_length (shiftL xs b) k (by rw [HL.out]; exact hk))
    by_cases hlt : k < n
    · have hw1 : IntKind.i64.wrap ((k : Int) - b) = (k : Int) - b := IntWalk.i64_in _ (by omega)
      have hw2 : IntKind.i64.wrap ((n : Int) - 1) = (n : Int) - 1 := IntWalk.i64_in _ (by omega)
      have hk1 : (k : Int) < (n : Int) := by omega
      have hin := fun W => in_any ((k : Int) - b) 0 ((n : Int) - 1) W
      by_cases hc : 0 ≤ (k : Int) - b ∧ (k : Int) - b < (n : Int)
      · have hi : inB ((k : Int) - b) 0 ((n : Int) - 1) = true := by simp [inB]; omega
        rw [hi] at hin
        obtain ⟨q, hq⟩ : ∃ q : Nat, (k : Int) - b = q := ⟨((k : Int) - b).toNat, by omega⟩
        have hqn : q < n := by omega
        rw [hq] at hin hw1
        have HI := Lib.hid hin
        have hget := shiftL_yes xs b k q (by rw [HN.out]; exact hlt) hq (by rw [HN.out]; exact hqn)
        have y0 := HC.out q (by rw [HN.out]; exact hqn)
        have y1 := cell_only hgr (cell_kept y0 HB2.out) (by have := World.block_lt_of_cell? _ _ y0; simp at this ⊢; omega)
        have z1 := hrow.frozen k
        have x1 := hrow.cell (i := k) (by rw [hpl.out, HL.out]; exact hlt)
        have hset := Lib.hid (part_set (shiftL xs b) k (by rw [HL.out]; exact hlt))
        obtain ⟨x, hxx⟩ : ∃ x, xs[q]?.getD 0 = x := ⟨_, rfl⟩
        rw [hxx] at y1 hget
        rw [hget] at hset
        obtain ⟨v, hv⟩ : ∃ v, (part (shiftL xs b) k)[k]?.getD 0 = v := ⟨_, rfl⟩
        rw [hv] at x1
        have HG := Lib.hid hgr
        have HRW := Lib.hid hrow
        have e3 := e1.out
        have e4 := e2.out
        have hk0 : (0 : Int) ≤ (k : Int) := Int.natCast_nonneg _
        have hq0 : (0 : Int) ≤ (q : Int) := Int.natCast_nonneg _
        have hq1 : (q : Int) < (n : Int) := by omega
        clear hgr hrow hxx e1 e2 y0 hi hin hv hget hc
        go_wp2_with (go_at_call 84; refine (HI.out _).mono ?_; rintro e w' ⟨rfl, rfl⟩)
        go_region
        all_goals
          go_wp2
          go_roundw
          case rel =>
            refine ⟨k + 1, by omega, by go_num, only_drew (only_step HG.out (only_set _ _ _ _)), ?_⟩
            rw [← hset.out]
            exact (HRW.out.set (by rw [hpl.out, HL.out]; exact hlt) _).drew
          case measure => simp [intOf]; omega
      · have hi : inB ((k : Int) - b) 0 ((n : Int) - 1) = false := by
          simp only [inB, Bool.and_eq_false_iff, decide_eq_false_iff_not]
          omega
        rw [hi] at hin
        have HI := Lib.hid hin
        have hget := shiftL_no xs b k (by rw [HN.out]; exact hlt) (by rw [HN.out]; exact hc)
        have hst := Lib.hid (part_stay (shiftL xs b) k (by rw [HL.out]; exact hlt) hget)
        have HG := Lib.hid hgr
        have HRW := Lib.hid hrow
        clear hgr hrow e1 e2 hi hin hget
        go_wp2_with (go_at_call 84; refine (HI.out _).mono ?_; rintro e w' ⟨rfl, rfl⟩)
        go_roundw
        case rel => exact ⟨k + 1, by omega, by go_num, HG.out, by rw [hst.out]; exact HRW.out⟩
        case measure => simp [intOf]; omega
    · obtain rfl : k = n := by omega
      have c3 := cell_only hgr HRES.out (by show w.heap.size ≠ w.heap.size + 1; omega)
      have f3 := frozen_onlyO hgr HRES.out HFR.out (by show w.heap.size ≠ w.heap.size + 1; omega)
      have B3 := Lib.hid (below_only HB2.out hgr (by omega))
      have hrow2 : Row wr (w.heap.size + 1) (shiftL xs b) [] := by
        have := hrow
        rw [← HL.out, part_all] at this
        exact this
      have HRW := Lib.hid hrow2
      have e3 := e1.out
      clear hgr hrow hrow2 e1 e2
      go_wp2
      refine bodyPost_ret (v := .agg #[.slice (some ⟨w.heap.size + 1, 0, none⟩) k k]) (by simp [results, Try.results75, go_sem, c3]) rfl ⟨w.heap.size + 1, k, [], by rw [HL.out], by omega, ?_, ?_⟩
      · exact B3.out.setCell (by simp) _
      · exact HRW.out.far (by simp) _

theorem shifted_any (A : Option Addr) (c : Nat) (xs : List Int) (B : Nat) (b : Int) (w : World) (h : Ints w B A xs) (hB : B ≤ w.heap.size) (h0 : 0 < xs.length) (hn : xs.length ≤ 1048576) (hb : -1048576 ≤ b ∧ b ≤ 1048576) :
    Calls Try.prog 80 #[.slice A xs.length c, .int .i64 b] w (GivesInts (shiftL xs b) w) := by
  obtain ⟨n, hN⟩ : ∃ n, xs.length = n := ⟨_, rfl⟩
  have hls := shiftL_length xs b
  rw [hN] at hls hn h0 ⊢
  have hmk := run_make_row' (P := Try.prog) 82 2 (.int .i64 0) 8 Try.underlying82 info_int64 rfl .i64 .i64 n (by omega) (by omega)
  obtain ⟨b', off', rfl, hb', hcell'⟩ := h (by omega)
  have HC := Lib.hid hcell'
  have HN := Lib.hid hN
  have HL := Lib.hid hls
  clear h hcell' hN hls
  go_enter Try.func80, Try.ntmps80
  go_wp2
  clear hmk
  have HROW : Hid (Row (w.alloc (.cells (madeCells #[Value.int .i64 0] n) 2)) w.heap.size (moveTo xs b 0) []) := by
    show Row _ _ _ _
    rw [moveTo_zero, HN.out, madeCells_int]
    exact Row.new_at _ _ rfl
  have HB2 : Hid (Below w.heap.size w (w.alloc (.cells (madeCells #[Value.int .i64 0] n) 2))) := below_box w _
  generalize w.alloc (.cells (madeCells #[Value.int .i64 0] n) 2) = w2 at *
  go_loopw [16] (fun i wr => ∃ k : Nat, k ≤ n ∧ i = .int .i64 k ∧ w2.grownBy wr (some w.heap.size) ∧ Row wr w.heap.size (moveTo xs b k) []) (fun i _ => n - (intOf i).toNat)
  case atStart => exact ⟨0, Nat.zero_le _, rfl, World.grownBy.refl _ _, HROW.out⟩
  case round =>
    obtain ⟨k, hk, rfl, hgr, hrow⟩ := hrel
    have hml := Lib.hid (moveTo_length xs b k)
    by_cases hlt : k < n
    · have hw1 : IntKind.i64.wrap ((k : Int) + b) = (k : Int) + b := IntWalk.i64_in _ (by omega)
      have hk0 : (0 : Int) ≤ (k : Int) := Int.natCast_nonneg _
      have hk1 : (k : Int) < (n : Int) := by omega
      have hin := fun W => isColumnOf_any ((k : Int) + b) (n : Int) W
      have y0 := HC.out k (by rw [HN.out]; exact hlt)
      have y1 := cell_only hgr (cell_kept y0 HB2.out) (by have := World.block_lt_of_cell? _ _ y0; simp at this ⊢; omega)
      by_cases hc : 0 ≤ (k : Int) + b ∧ (k : Int) + b < (n : Int)
      · have hi : (decide (0 ≤ (k : Int) + b) && decide ((k : Int) + b < (n : Int))) = true := by simp; exact hc
        rw [hi] at hin
        obtain ⟨q, hq⟩ : ∃ q : Nat, (k : Int) + b = q := ⟨((k : Int) + b).toNat, by omega⟩
        have hqn : q < n := by omega
        rw [hq] at hin hw1
        have HI := Lib.hid hin
        have z1 := hrow.frozen q
        have x1 := hrow.cell (i := q) (by rw [hml.out, HN.out]; exact hqn)
        have hset := Lib.hid (moveTo_in xs b k q hq (by rw [HN.out]; exact hqn))
        obtain ⟨x, hxx⟩ : ∃ x, xs[k]?.getD 0 = x := ⟨_, rfl⟩
        rw [hxx] at y1 hset
        obtain ⟨v, hv⟩ : ∃ v, (moveTo xs b k)[q]?.getD 0 = v := ⟨_, rfl⟩
        rw [hv] at x1
        have HG := Lib.hid hgr
        have HRW := Lib.hid hrow
        have hq0 : (0 : Int) ≤ (q : Int) := Int.natCast_nonneg _
        have hq1 : (q : Int) < (n : Int) := by omega
        clear hgr hrow hxx y0 hi hin hv hc
        go_wp2_with (go_at_call 116; refine (HI.out _).mono ?_; rintro e w' ⟨rfl, rfl⟩)
        go_roundw
        case rel =>
          refine ⟨k + 1, by omega, by go_num, only_step HG.out (only_set _ _ _ _), ?_⟩
          rw [← hset.out]
          exact HRW.out.set (by rw [hml.out, HN.out]; exact hqn) _
        case measure => simp [intOf]; omega
      · have hi : (decide (0 ≤ (k : Int) + b) && decide ((k : Int) + b < (n : Int))) = false := by
          simp only [Bool.and_eq_false_iff, decide_eq_false_iff_not]
          omega
        rw [hi] at hin
        have HI := Lib.hid hin
        have hst := Lib.hid (moveTo_out xs b k (by rw [HN.out]; exact hc))
        have HG := Lib.hid hgr
        have HRW := Lib.hid hrow
        obtain ⟨x, hxx⟩ : ∃ x, xs[k]?.getD 0 = x := ⟨_, rfl⟩
        rw [hxx] at y1
        clear hgr hrow hi hin y0 hxx
        go_wp2_with (go_at_call 116; refine (HI.out _).mono ?_; rintro e w' ⟨rfl, rfl⟩)
        go_roundw
        case rel => exact ⟨k + 1, by omega, by go_num, HG.out, by rw [hst.out]; exact HRW.out⟩
        case measure => simp [intOf]; omega
    · obtain rfl : k = n := by omega
      have hk1 : ¬ (k : Int) < (k : Int) := by omega
      have B3 := Lib.hid (below_only HB2.out hgr (Nat.le_refl _))
      have hrow2 : Row wr w.heap.size (shiftL xs b) [] := by
        have := hrow
        rw [← HN.out] at this
        exact this
      have HRW := Lib.hid hrow2
      clear hgr hrow hrow2
      go_wp2
      go_ret
      exact ⟨w.heap.size, k, [], by rw [HL.out]; rfl, Nat.le_refl _, B3.out, HRW.out⟩

/-- the code of a card and a number of columns by which it is shifted -/
def shiftCode (xs : List Int) (b : Int) : Int := if okB xs = false then 1 else if inB b (-20) 20 = false then 2 else 0
theorem shiftCode_cases (xs : List Int) (b : Int) : (shiftCode xs b = 1 ∧ okB xs = false) ∨ (shiftCode xs b = 2 ∧ okB xs = true ∧ inB b (-20) 20 = false) ∨ (shiftCode xs b = 0 ∧ okB xs = true ∧ inB b (-20) 20 = true) := by
  unfold shiftCode
  cases okB xs <;> cases inB b (-20) 20 <;> simp

theorem specShift_bad (A : Option Addr) (c : Nat) (xs : List Int) (B : Nat) (b : Int) (w : World) (h : Ints w B A xs) (hB : B ≤ w.heap.size) (hn : xs.length ≤ 1048576) (e : shiftCode xs b ≠ 0) :
    Calls Try.prog 33 #[.agg #[.slice A xs.length c], .int .i64 b] w (GivesCode (shiftCode xs b) w) := by
  have ho := l02Ok_any A c xs B w.heap.size 0 ((w.alloc (.cells #[.slice A xs.length c] 26)).alloc (.cells #[.slice none 0 0] 26)) (by simp) ((h.alloc hB _).alloc (by simp; omega) _) hn
  have hi := fun W => in_any b (-20) 20 W
  rcases shiftCode_cases xs b with ⟨e', hv⟩ | ⟨e', hv, hc⟩ | ⟨e', _⟩
  · rw [e']
    rw [hv] at ho
    have HO := Lib.hid ho
    clear ho hi e e' hv h hn
    go_enter Try.func33, Try.ntmps33
    go_wp2_with (go_at_call 57; refine HO.out.mono ?_; rintro e w' ⟨rfl, rfl⟩)
    exact bodyPost_ret (v := .tuple #[.agg #[.slice none 0 0], .int .i64 1]) (by simp [results, Try.results33, go_sem]) rfl ⟨rfl, ((below_box w _).alloc (by simp) _)⟩
  · rw [e']
    rw [hv] at ho
    rw [hc] at hi
    have HO := Lib.hid ho
    have HI := Lib.hid hi
    clear ho hi e e' hv h hc hn
    go_enter Try.func33, Try.ntmps33
    go_wp2_with (first | (go_at_call 57; refine HO.out.mono ?_; rintro e w' ⟨rfl, rfl⟩) | (go_at_call 84; refine (HI.out _).mono ?_; rintro e w' ⟨rfl, rfl⟩))
    exact bodyPost_ret (v := .tuple #[.agg #[.slice none 0 0], .int .i64 2]) (by simp [results, Try.results33, go_sem]) rfl ⟨rfl, ((below_box w _).alloc (by simp) _)⟩
  · exact absurd e' e

theorem specShift_good (A : Option Addr) (c : Nat) (xs : List Int) (B : Nat) (b : Int) (w : World) (h : Ints w B A xs) (hB : B ≤ w.heap.size) (hn : xs.length ≤ 1048576) (eo : okB xs = true) (ei : inB b (-20) 20 = true) :
    Calls Try.prog 33 #[.agg #[.slice A xs.length c], .int .i64 b] w (GivesCard (shiftL xs b) w) := by
  have HH := Lib.hid ((h.alloc hB (.cells #[.slice A xs.length c] 26)).alloc (by simp; omega) (.cells #[.slice none 0 0] 26))
  have ho := l02Ok_any A c xs B w.heap.size 0 ((w.alloc (.cells #[.slice A xs.length c] 26)).alloc (.cells #[.slice none 0 0] 26)) (by simp) HH.out hn
  have hi := fun W => in_any b (-20) 20 W
  have h0 : 0 < xs.length := by
    have := eo
    simp [okB, inB] at this
    omega
  have hb20 : -1048576 ≤ b ∧ b ≤ 1048576 := by simp [inB] at ei; omega
  rw [eo] at ho
  rw [ei] at hi
  have HO := Lib.hid ho
  have HI := Lib.hid hi
  clear ho hi eo ei h
  go_enter Try.func33, Try.ntmps33
  go_wp2_with (first | (go_at_call 57; refine HO.out.mono ?_; rintro e w' ⟨rfl, rfl⟩) | (go_at_call 84; refine (HI.out _).mono ?_; rintro e w' ⟨rfl, rfl⟩))
  have b0 := (below_box w (.cells #[.slice A xs.length c] 26)).alloc (by simp) (.cells #[.slice none 0 0] 26)
  refine (l06Shift_any A c xs B w.heap.size 0 b _ (by simp) HH.out (by simp; omega) h0 hn hb20).mono ?_
  rintro e w1 ⟨g, cap, ex, rfl, hg, hb1, hr⟩
  have B1 := Lib.hid (below_step b0 hb1)
  have c1 := cell_kept (p := ⟨w.heap.size + 1, 0, none⟩) (v := .slice none 0 0) (by simp) hb1
  have f1 : w1.frozen? ⟨w.heap.size + 1, 0, none⟩ = false := by rw [hb1.frozen (by simp)]; simp
  have hg' : w.heap.size + 2 ≤ g := by simpa using hg
  have HR := Lib.hid hr
  clear b0 hb1 hr hg HH HO
  go_wp2
  refine bodyPost_ret (v := .tuple #[.agg #[.slice (some ⟨g, 0, none⟩) (shiftL xs b).length cap], .int .i64 0]) (by simp [results, Try.results33, go_sem, c1]) rfl ⟨g, cap, ex, rfl, by omega, ?_, ?_⟩
  · exact B1.out.setCell (by simp) _
  · exact HR.out.far (by simp; omega) _

theorem implShift_bad (A : Option Addr) (c : Nat) (xs : List Int) (B : Nat) (b : Int) (w : World) (h : Ints w B A xs) (hB : B ≤ w.heap.size) (hn : xs.length ≤ 1048576) (e : shiftCode xs b ≠ 0) :
    Calls Try.prog 32 #[.agg #[.slice A xs.length c], .int .i64 b] w (GivesCode (shiftCode xs b) w) := by
  have ho := implValidCard_any A c xs B ((w.alloc (.cells #[.slice A xs.length c] 26)).alloc (.cells #[.slice none 0 0] 26)) ((h.alloc hB _).alloc (by simp; omega) _) (by simp; omega) hn
  rcases shiftCode_cases xs b with ⟨e', hv⟩ | ⟨e', hv, hc⟩ | ⟨e', _⟩
  · rw [e']
    rw [hv] at ho
    have HO := Lib.hid ho
    clear ho e e' hv h hn
    go_enter Try.func32, Try.ntmps32
    go_wp2_with fail
    refine HO.out.mono ?_
    rintro e w1 ⟨rfl, hb1⟩
    have B1 := Lib.hid (below_step ((below_box w _).alloc (by simp) _) hb1)
    have c1 := cell_kept (p := ⟨w.heap.size + 1, 0, none⟩) (v := .slice none 0 0) (by simp) hb1
    have f1 : w1.frozen? ⟨w.heap.size + 1, 0, none⟩ = false := by rw [hb1.frozen (by simp)]; simp
    clear hb1 HO
    go_wp2
    exact bodyPost_ret (v := .tuple #[.agg #[.slice none 0 0], .int .i64 1]) (by simp [results, Try.results32, go_sem, c1]) rfl ⟨rfl, B1.out.setCell (by simp) _⟩
  · rw [e']
    rw [hv] at ho
    have HO := Lib.hid ho
    have hcc : b < -20 ∨ (¬ b < -20 ∧ 20 < b) := by
      simp only [inB, Bool.and_eq_false_iff, decide_eq_false_iff_not] at hc
      omega
    clear ho e e' hv h hn hc
    rcases hcc with h1 | ⟨h1, h2⟩
    · go_enter Try.func32, Try.ntmps32
      go_wp2_with fail
      refine HO.out.mono ?_
      rintro e w1 ⟨rfl, hb1⟩
      have B1 := Lib.hid (below_step ((below_box w _).alloc (by simp) _) hb1)
      have c1 := cell_kept (p := ⟨w.heap.size + 1, 0, none⟩) (v := .slice none 0 0) (by simp) hb1
      have f1 : w1.frozen? ⟨w.heap.size + 1, 0, none⟩ = false := by rw [hb1.frozen (by simp)]; simp
      clear hb1 HO
      go_wp2
      exact bodyPost_ret (v := .tuple #[.agg #[.slice none 0 0], .int .i64 2]) (by simp [results, Try.results32, go_sem, c1]) rfl ⟨rfl, B1.out.setCell (by simp) _⟩
    · go_enter Try.func32, Try.ntmps32
      go_wp2_with fail
      refine HO.out.mono ?_
      rintro e w1 ⟨rfl, hb1⟩
      have B1 := Lib.hid (below_step ((below_box w _).alloc (by simp) _) hb1)
      have c1 := cell_kept (p := ⟨w.heap.size + 1, 0, none⟩) (v := .slice none 0 0) (by simp) hb1
      have f1 : w1.frozen? ⟨w.heap.size + 1, 0, none⟩ = false := by rw [hb1.frozen (by simp)]; simp
      clear hb1 HO
      go_wp2
      exact bodyPost_ret (v := .tuple #[.agg #[.slice none 0 0], .int .i64 2]) (by simp [results, Try.results32, go_sem, c1]) rfl ⟨rfl, B1.out.setCell (by simp) _⟩
  · exact absurd e' e

theorem implShift_good (A : Option Addr) (c : Nat) (xs : List Int) (B : Nat) (b : Int) (w : World) (h : Ints w B A xs) (hB : B ≤ w.heap.size) (hn : xs.length ≤ 1048576) (eo : okB xs = true) (ei : inB b (-20) 20 = true) :
    Calls Try.prog 32 #[.agg #[.slice A xs.length c], .int .i64 b] w (GivesCard (shiftL xs b) w) := by
  have HH := Lib.hid h
  have ho := implValidCard_any A c xs B ((w.alloc (.cells #[.slice A xs.length c] 26)).alloc (.cells #[.slice none 0 0] 26)) ((h.alloc hB _).alloc (by simp; omega) _) (by simp; omega) hn
  rw [eo] at ho
  have h0 : 0 < xs.length := by
    have := eo
    simp [okB, inB] at this
    omega
  have hb20 : ¬ b < -20 ∧ ¬ 20 < b := by simp [inB] at ei; omega
  obtain ⟨hb1, hb2⟩ := hb20
  have hw := fun W hI hB' => shifted_any A c xs B b W hI hB' h0 hn (by omega)
  have HO := Lib.hid ho
  have HW := Lib.hid hw
  clear ho hw eo ei h
  go_enter Try.func32, Try.ntmps32
  go_wp2_with fail
  refine HO.out.mono ?_
  rintro e w1 ⟨rfl, hb1⟩
  have B1 := Lib.hid (below_step ((below_box w _).alloc (by simp) _) hb1)
  have c0 := cell_kept (p := ⟨w.heap.size, 0, none⟩) (v := .slice A xs.length c) (by simp) hb1
  have c1 := cell_kept (p := ⟨w.heap.size + 1, 0, none⟩) (v := .slice none 0 0) (by simp) hb1
  have f1 : w1.frozen? ⟨w.heap.size + 1, 0, none⟩ = false := by rw [hb1.frozen (by simp)]; simp
  clear hb1 HO
  go_wp2_with fail
  refine (HW.out _ (HH.out.below (B1.out.mono hB)) (Nat.le_trans hB B1.out.size)).mono ?_
  rintro e w2 ⟨g, cap, ex, rfl, hg, hb2, hr⟩
  have B2 := Lib.hid (below_step B1.out hb2)
  have c2 := cell_kept c1 hb2
  have f2 : w2.frozen? ⟨w.heap.size + 1, 0, none⟩ = false := by rw [hb2.frozen (World.block_lt_of_cell? _ _ c1)]; exact f1
  have hg' : w.heap.size + 1 < g := Nat.lt_of_lt_of_le (World.block_lt_of_cell? _ _ c1) hg
  have HR := Lib.hid hr
  clear hb2 hr c0 c1 f1
  go_wp2
  refine bodyPost_ret (v := .tuple #[.agg #[.slice (some ⟨g, 0, none⟩) (shiftL xs b).length cap], .int .i64 0]) (by simp [results, Try.results32, go_sem, c2]) rfl ⟨g, cap, ex, rfl, by omega, ?_, ?_⟩
  · exact B2.out.setCell (by simp) _
  · exact HR.out.far (by simp; omega) _
end Go.Proofs.Ytjfogadcedgndaa
