/- impl.ShiftOf answers by how many columns a card has been shifted, or the code, for all cards of at most 1048576 columns: a contract. -/
import Derived.Test.YtjfogadcedgndaaSh7
import Derived.Test.YtjfogadcedgndaaSh2
namespace Go.Proofs.Ytjfogadcedgndaa
open Go.ChangeShapes Go.WideShapes Go.ChangeAt Go.RowKit

theorem sameCols_any (A A' : Option Addr) (c c' : Nat) (xs ys : List Int) (B B' : Nat) (w : World) (h : Ints w B A xs) (h' : Ints w B' A' ys) (hn : xs.length ≤ 1048576) (hn' : ys.length ≤ 140737488355328) :
    Calls Try.prog 79 #[.slice A xs.length c, .slice A' ys.length c'] w fun e w' => e = .returned (.bool (decide (xs = ys))) ∧ ∃ n, w' = w.drewN n := by
  by_cases hl : xs.length = ys.length
  · obtain ⟨n, hN⟩ : ∃ n, xs.length = n := ⟨_, rfl⟩
    obtain ⟨r, hr⟩ : ∃ r, decide (xs = ys) = r := ⟨_, rfl⟩
    rw [hr]
    rw [hN] at hn ⊢
    rw [← hl, hN]
    have H := Lib.hid h
    have H' := Lib.hid h'
    have HN := Lib.hid hN
    have HL := Lib.hid hl
    have HR := Lib.hid hr
    clear h h' hN hl hr
    go_enter Try.func79, Try.ntmps79
    go_wp2
    go_loopw [13] (fun i wr => ∃ k m : Nat, k ≤ n ∧ i = .int .i64 k ∧ wr = w.drewN m ∧ Hid (xs.take k = ys.take k)) (fun i _ => n - (intOf i).toNat)
    case atStart => exact ⟨0, 0, Nat.zero_le _, rfl, rfl, by simp [Hid]⟩
    case round =>
      obtain ⟨k, m, hk, rfl, rfl, HK⟩ := hrel
      by_cases hlt : k < n
      · have hx : k < xs.length := by rw [HN.out]; exact hlt
        have hy : k < ys.length := by rw [← HL.out, HN.out]; exact hlt
        obtain ⟨b, off, rfl, hb, hcell⟩ := H.out (by omega)
        obtain ⟨b', off', rfl, hb', hcell'⟩ := H'.out (by omega)
        have h1 := hcell k hx
        have h2 := hcell' k hy
        obtain ⟨x, hxx⟩ : ∃ x, xs[k]?.getD 0 = x := ⟨_, rfl⟩
        obtain ⟨y, hyy⟩ : ∃ y, ys[k]?.getD 0 = y := ⟨_, rfl⟩
        rw [hxx] at h1
        rw [hyy] at h2
        have Hx := Lib.hid hxx
        have Hy := Lib.hid hyy
        have hx' := Lib.hid hx
        have hy' := Lib.hid hy
        have hk0 : (0 : Int) ≤ (k : Int) := Int.natCast_nonneg _
        have hk1 : (k : Int) < (n : Int) := by omega
        clear hcell hcell' hxx hyy hx hy H H'
        by_cases hxy : x = y
        · have HK1 : Hid (xs.take (k + 1) = ys.take (k + 1)) := take_more xs ys k hx'.out hy'.out HK.out (by rw [Hx.out, Hy.out, hxy])
          subst hxy
          go_wp2
          go_quiet (fail)
          go_wp2
          go_roundw
          case rel => exact ⟨k + 1, _, by omega, by go_num, rfl, HK1⟩
          case measure => simp [intOf]; omega
        · obtain rfl : r = false := by rw [← HR.out]; exact parts_at xs ys k (by rw [Hx.out, Hy.out]; exact hxy)
          go_wp2
          go_quiet (fail)
          go_wp2
          go_ret
          exact ⟨rfl, _, World.drewN_drewN _ _ _⟩
      · obtain rfl : k = n := by omega
        obtain rfl : r = true := by
          rw [← HR.out]
          have := HK.out
          rw [List.take_of_length_le (by rw [HN.out]; omega), List.take_of_length_le (by rw [← HL.out, HN.out]; omega)] at this
          simpa using this
        go_wp2
        go_ret
        exact ⟨rfl, _, rfl⟩
  · have e : decide (xs = ys) = false := by
      simp only [decide_eq_false_iff_not]
      rintro rfl
      exact hl rfl
    rw [e]
    clear e
    go_enter Try.func79, Try.ntmps79
    go_wp2
    go_ret
    exact ⟨rfl, 0, rfl⟩

theorem abides_below {b : Nat} {w : World} {k : Nat} (hk : k ≤ b) (p : Prop) : Abides b (fun W => p ∧ Below k w W) where
  put := fun W l o o' hl ho _ h => ⟨h.1, h.2.trans ((Below.refl k W).grown (grownBy_putObj' W l o') (by have := (Array.getElem?_eq_some_iff.1 ho).1; omega) (fun q e => by cases e; omega))⟩
  lay := fun W o hs h => ⟨h.1, h.2.alloc (by omega) o⟩

attribute [local go_sem] Oper.semAt_some

set_option maxRecDepth 100000 in
set_option maxHeartbeats 2000000 in
theorem implShiftOf_bad (A A' : Option Addr) (c c' : Nat) (xs ys : List Int) (B B' : Nat) (w : World) (h : Ints w B A xs) (h' : Ints w B' A' ys) (hB : B ≤ w.heap.size) (hB' : B' ≤ w.heap.size) (hn : xs.length ≤ 1048576) (hn' : ys.length ≤ 1048576) (e : pairCode xs ys ≠ 0) :
    Calls Try.prog 29 #[.agg #[.slice A xs.length c], .agg #[.slice A' ys.length c']] w fun e w' => e = .returned (.tuple #[.int .i64 (shiftVal xs ys), .int .i64 (shiftErr xs ys)]) ∧ Below w.heap.size w w' := by
  have hB4 : w.heap.size ≤ ((((w.alloc (.cells #[.slice A xs.length c] 26)).alloc (.cells #[.slice A' ys.length c'] 26)).alloc (.cells #[.int .i64 0] 2)).alloc (.cells #[.int .i64 0] 2)).heap.size := by simp; omega
  have b4 : Below w.heap.size w ((((w.alloc (.cells #[.slice A xs.length c] 26)).alloc (.cells #[.slice A' ys.length c'] 26)).alloc (.cells #[.int .i64 0] 2)).alloc (.cells #[.int .i64 0] 2)) := (((below_box w _).alloc (by simp) _).alloc (by simp; omega) _).alloc (by simp; omega) _
  have i1 := h.below (b4.mono hB)
  have i2 := h'.below (b4.mono hB')
  have o1 := checkPair_any A A' c c' xs ys B B' _ i1 i2 (Nat.le_trans hB hB4) (Nat.le_trans hB' hB4) hn hn'
  rw [shiftVal, shiftErr, if_neg e, if_neg e]
  obtain ⟨a, ha⟩ : ∃ a, pairCode xs ys = a := ⟨_, rfl⟩
  rw [ha] at o1 e ⊢
  have ha' : (a == 0) = false := by simpa using e
  have hne : (a != 0) = true := by simpa using e
  have H1 := Lib.hid o1
  have B4 := Lib.hid b4
  clear o1 i1 i2 h h' e ha b4 hB4
  refine (callsIn_wide (n := 5)).1 ?_
  refine callsIn_of_wp_marks Try.func29 rfl trivial ?_ rfl
  simp only [Try.ntmps29, List.size_toArray, List.length_cons, List.length_nil, Nat.reduceAdd, Nat.reduceSub, Array.replicate_succ, Array.replicate_zero, List.push_toArray, List.append_toArray, List.nil_append, List.cons_append]
  gi_wp2_with (refine ⟨trivial, ?_⟩; gi_at_call 77; refine (callsIn_wide.2 H1.out).mono ?_; rintro e w1 ⟨rfl, hb⟩; have B1 := Lib.hid (below_step B4.out hb); have c1 := cell_kept (p := ⟨w.heap.size + 1 + 1, 0, none⟩) (v := .int .i64 0) (by simp [go_sem]) hb; have c2 := cell_kept (p := ⟨w.heap.size + 1 + 1 + 1, 0, none⟩) (v := .int .i64 0) (by simp [go_sem]) hb; have f1 : w1.frozen? ⟨w.heap.size + 1 + 1, 0, none⟩ = false := (by rw [hb.frozen (by simp)]; simp [go_sem]); have f2 : w1.frozen? ⟨w.heap.size + 1 + 1 + 1, 0, none⟩ = false := (by rw [hb.frozen (by simp)]; simp [go_sem]); clear hb H1)
  refine ⟨.tuple #[.int .i64 0, .int .i64 a], (by simp [results, Try.results29, go_sem, c1, c2]), rfl, (B1.out.setCell (by simp; omega) _).setCell (by simp; omega) _⟩

/-- the loop has ended by a return: the numbers lie in the boxes of the results -/
def Found (w : World) (xs ys : List Int) (pre : List Int) (W : World) : Prop :=
  ∃ q b, pre = q ++ [b] ∧ (∀ y ∈ q, shiftL xs y ≠ ys) ∧ shiftL xs b = ys ∧ W.cell? ⟨w.heap.size + 1 + 1, 0, none⟩ = some (.int .i64 b) ∧ W.cell? ⟨w.heap.size + 1 + 1 + 1, 0, none⟩ = some (.int .i64 0) ∧ Below w.heap.size w W

theorem Found.abides {w : World} {xs ys pre : List Int} {b : Nat} (hb : w.heap.size + 4 ≤ b) : Abides b (Found w xs ys pre) where
  put := fun W l o o' hl ho _ ⟨q, x, h1, h2, h3, h4, h5, h6⟩ => by
    have hg : Below b W (W.putObj l o') := (Below.refl b W).grown (grownBy_putObj' W l o') (by have := (Array.getElem?_eq_some_iff.1 ho).1; omega) (fun q e => by cases e; omega)
    exact ⟨q, x, h1, h2, h3, (hg.cell (by simp; omega)).trans h4, (hg.cell (by simp; omega)).trans h5, h6.trans (hg.mono (by omega))⟩
  lay := fun W o hs ⟨q, x, h1, h2, h3, h4, h5, h6⟩ => by
    have hg : Below b W (W.alloc o) := (Below.refl b W).alloc hs o
    exact ⟨q, x, h1, h2, h3, (hg.cell (by simp; omega)).trans h4, (hg.cell (by simp; omega)).trans h5, h6.trans (hg.mono (by omega))⟩

theorem below_keeps {W W' : World} (h : Below W.heap.size W W') : KeepsOthers W W' :=
  ⟨h.size, fun l _ hk _ => (h.block l (Array.getElem?_eq_some_iff.1 hk).1).trans hk⟩

theorem bodyEnd_on {w w2 W W3 : World} {a : Act} {xs ys pre : List Int} {x : Int} (hno : ∀ y ∈ pre, shiftL xs y ≠ ys) (hx : ¬ shiftL xs x = ys) (hd : Below W.heap.size W W3) (hb : Below w2.heap.size w2 W) :
    BodyEnd (fun W => (∀ y ∈ pre ++ [x], shiftL xs y ≠ ys) ∧ Below w2.heap.size w2 W) (Found w xs ys (pre ++ [x])) W .normal a W3 :=
  ⟨below_keeps hd, fun y hy => by
    rcases List.mem_append.1 hy with hy | hy
    · exact hno y hy
    · rw [List.mem_singleton] at hy
      rw [hy]
      exact hx, hb.trans (hd.mono hb.size)⟩

theorem bodyEnd_found {w w2 W W3 : World} {a : Act} {xs ys pre : List Int} {x : Int} {I : World → Prop} (hno : ∀ y ∈ pre, shiftL xs y ≠ ys) (hx : shiftL xs x = ys) (hd : Below W.heap.size W W3) (h2 : Below w.heap.size w w2) (hb : Below w2.heap.size w2 W) (h3 : W3.cell? ⟨w.heap.size + 1 + 1, 0, none⟩ = some (.int .i64 0)) (h4 : W3.cell? ⟨w.heap.size + 1 + 1 + 1, 0, none⟩ = some (.int .i64 0)) :
    BodyEnd I (Found w xs ys (pre ++ [x])) W .ret a ((W3.setCell ⟨w.heap.size + 1 + 1, 0, none⟩ (.int .i64 x)).setCell ⟨w.heap.size + 1 + 1 + 1, 0, none⟩ (.int .i64 0)) := by
  refine ⟨(below_keeps hd).trans ((KeepsOthers.setCell _ _ _).trans (KeepsOthers.setCell _ _ _)), pre, x, rfl, hno, hx, ?_, ?_, ?_⟩
  · simp [go_sem, h3, h4]
  · simp [go_sem, h3, h4]
  · exact (((below_step h2 hb).trans (hd.mono (by have := h2.size; have := hb.size; omega))).setCell (by simp; omega) _).setCell (by simp; omega) _

theorem left_none {fn : Func} {F : Fence} {n : Nat} {P : Program} {tmps : Array Value} {w w2 W : World} {xs ys l : List Int} {rv rc : Int} (hf : (findS xs ys l).getD 0 = 0 ∧ (if (findS xs ys l).isSome = true then (0 : Int) else 3) = 3) (hv : (findS xs ys l).getD 0 = rv) (hc : (if (findS xs ys l).isSome = true then (0 : Int) else 3) = rc)
    (h3 : W.cell? ⟨w.heap.size + 1 + 1, 0, none⟩ = some (.int .i64 0)) (h4 : W.cell? ⟨w.heap.size + 1 + 1 + 1, 0, none⟩ = some (.int .i64 0)) (h2 : Below w.heap.size w w2) (hb : Below w2.heap.size w2 W) (hl : w.heap.size + 4 ≤ w2.heap.size) (hk : W.heap[w2.heap.size]? = some (.deferred (some [])))
    (hr : ∀ W', W'.cell? ⟨w.heap.size + 1 + 1, 0, none⟩ = some (.int .i64 0) → W'.cell? ⟨w.heap.size + 1 + 1 + 1, 0, none⟩ = some (.int .i64 3) → (results fn tmps).run P W' = .ok (.tuple #[.int .i64 0, .int .i64 3]) W') :
    LeavesInM F n P fn tmps (fun e w' => e = .returned (.tuple #[.int .i64 rv, .int .i64 rc]) ∧ Below w.heap.size w w') [] .returning (((W.setCell ⟨w.heap.size + 1 + 1, 0, none⟩ (.int .i64 0)).setCell ⟨w.heap.size + 1 + 1 + 1, 0, none⟩ (.int .i64 3)).putObj w2.heap.size (.deferred none)) := by
  have hk2 := (((KeepsOthers.setCell W ⟨w.heap.size + 1 + 1, 0, none⟩ (.int .i64 0)).trans (KeepsOthers.setCell _ ⟨w.heap.size + 1 + 1 + 1, 0, none⟩ (.int .i64 3))).same _ _ hk rfl)
  have B4 : Below w.heap.size w ((W.setCell ⟨w.heap.size + 1 + 1, 0, none⟩ (.int .i64 0)).setCell ⟨w.heap.size + 1 + 1 + 1, 0, none⟩ (.int .i64 3)) := ((below_step h2 hb).setCell (by simp; omega) _).setCell (by simp; omega) _
  have k1 : ((W.setCell ⟨w.heap.size + 1 + 1, 0, none⟩ (.int .i64 0)).setCell ⟨w.heap.size + 1 + 1 + 1, 0, none⟩ (.int .i64 3)).cell? ⟨w.heap.size + 1 + 1, 0, none⟩ = some (.int .i64 0) := by simp [go_sem, h3, h4]
  have k2 : ((W.setCell ⟨w.heap.size + 1 + 1, 0, none⟩ (.int .i64 0)).setCell ⟨w.heap.size + 1 + 1 + 1, 0, none⟩ (.int .i64 3)).cell? ⟨w.heap.size + 1 + 1 + 1, 0, none⟩ = some (.int .i64 3) := by simp [go_sem, h3, h4]
  generalize (W.setCell ⟨w.heap.size + 1 + 1, 0, none⟩ (.int .i64 0)).setCell ⟨w.heap.size + 1 + 1 + 1, 0, none⟩ (.int .i64 3) = W4 at *
  have hg : Below w2.heap.size W4 (W4.putObj w2.heap.size (.deferred none)) := (Below.refl _ W4).grown (grownBy_putObj' W4 _ _) (by have := (Array.getElem?_eq_some_iff.1 hk2).1; omega) (fun q e => by cases e; omega)
  exact ⟨_, hr _ ((hg.cell (by simp; omega)).trans k1) ((hg.cell (by simp; omega)).trans k2), by rw [← hv, ← hc, hf.1, hf.2], B4.trans (hg.mono (by omega))⟩

set_option maxRecDepth 100000 in
set_option maxHeartbeats 4000000 in
theorem implShiftOf_good (A A' : Option Addr) (c c' : Nat) (xs ys : List Int) (B B' : Nat) (w : World) (h : Ints w B A xs) (h' : Ints w B' A' ys) (hB : B ≤ w.heap.size) (hB' : B' ≤ w.heap.size) (hn : xs.length ≤ 1048576) (hn' : ys.length ≤ 1048576) (e : pairCode xs ys = 0) :
    Calls Try.prog 29 #[.agg #[.slice A xs.length c], .agg #[.slice A' ys.length c']] w fun e w' => e = .returned (.tuple #[.int .i64 (shiftVal xs ys), .int .i64 (shiftErr xs ys)]) ∧ Below w.heap.size w w' := by
  have hB4 : w.heap.size ≤ ((((w.alloc (.cells #[.slice A xs.length c] 26)).alloc (.cells #[.slice A' ys.length c'] 26)).alloc (.cells #[.int .i64 0] 2)).alloc (.cells #[.int .i64 0] 2)).heap.size := by simp; omega
  have b4 : Below w.heap.size w ((((w.alloc (.cells #[.slice A xs.length c] 26)).alloc (.cells #[.slice A' ys.length c'] 26)).alloc (.cells #[.int .i64 0] 2)).alloc (.cells #[.int .i64 0] 2)) := (((below_box w _).alloc (by simp) _).alloc (by simp; omega) _).alloc (by simp; omega) _
  have i1 := h.below (b4.mono hB)
  have i2 := h'.below (b4.mono hB')
  have o1 := checkPair_any A A' c c' xs ys B B' _ i1 i2 (Nat.le_trans hB hB4) (Nat.le_trans hB' hB4) hn hn'
  rw [e] at o1
  rw [shiftVal, shiftErr, if_pos e, if_pos e]
  obtain ⟨hv, hv', hl⟩ := pairCode_zero e
  have h0 : 1 ≤ xs.length := by
    have := hv
    simp [okB, inB] at this
    omega
  have hN20 : xs.length ≤ 20 := (okB_parts hv).2
  obtain ⟨n, hN⟩ : ∃ n, xs.length = n := ⟨_, rfl⟩
  have HSH : Hid (∀ (b : Int) (W : World), -1048576 ≤ b ∧ b ≤ 1048576 → Ints W B A xs → B ≤ W.heap.size → Calls Try.prog 80 #[.slice A n c, .int .i64 b] W (GivesInts (shiftL xs b) W)) := fun b W hb hI hB => by
    rw [← hN]
    exact shifted_any A c xs B b W hI hB h0 hn hb
  rw [hN] at o1 h0 hN20 ⊢
  obtain ⟨rv, hrv⟩ : ∃ v, (findS xs ys (seqS (n - 1))).getD 0 = v := ⟨_, rfl⟩
  obtain ⟨rc, hrc⟩ : ∃ v, (if (findS xs ys (seqS (n - 1))).isSome = true then (0 : Int) else 3) = v := ⟨_, rfl⟩
  rw [hrv, hrc]
  have HRV := Lib.hid hrv
  have HRC := Lib.hid hrc
  have H1 := Lib.hid o1
  have B4 := Lib.hid (hN ▸ b4)
  have H := Lib.hid h
  have H' := Lib.hid h'
  clear o1 i1 i2 h h' e b4 hB4 hrv hrc hv hv' hl
  refine (callsIn_wide (n := 5)).1 ?_
  refine callsIn_of_wp_marks Try.func29 rfl trivial ?_ rfl
  simp only [Try.ntmps29, List.size_toArray, List.length_cons, List.length_nil, Nat.reduceAdd, Nat.reduceSub, Array.replicate_succ, Array.replicate_zero, List.push_toArray, List.append_toArray, List.nil_append, List.cons_append]
  gi_wp2_with (refine ⟨trivial, ?_⟩; gi_at_call 77; refine (callsIn_wide.2 H1.out).mono ?_; rintro e w1 ⟨rfl, hb⟩; have B1 := Lib.hid (below_step B4.out hb); have b0 := cell_kept (p := ⟨w.heap.size, 0, none⟩) (v := .slice A n c) (by simp [go_sem]) hb; have b1 := cell_kept (p := ⟨w.heap.size + 1, 0, none⟩) (v := .slice A' ys.length c') (by simp [go_sem]) hb; have c1 := cell_kept (p := ⟨w.heap.size + 1 + 1, 0, none⟩) (v := .int .i64 0) (by simp [go_sem]) hb; have c2 := cell_kept (p := ⟨w.heap.size + 1 + 1 + 1, 0, none⟩) (v := .int .i64 0) (by simp [go_sem]) hb; have f1 : w1.frozen? ⟨w.heap.size + 1 + 1, 0, none⟩ = false := (by rw [hb.frozen (by simp)]; simp [go_sem]); have f2 : w1.frozen? ⟨w.heap.size + 1 + 1 + 1, 0, none⟩ = false := (by rw [hb.frozen (by simp)]; simp [go_sem]); clear hb H1)
  have E2 := Lib.hid (below_box w1 (.cells #[.slice A n c] 82))
  have z0 : (w1.alloc (.cells #[.slice A n c] 82)).cell? ⟨w1.heap.size, 0, none⟩ = some (.slice A n c) := by simp [go_sem]
  have z1 := cell_kept b1 E2.out
  have z2 := cell_kept c1 E2.out
  have z3 := cell_kept c2 E2.out
  have z4 : (w1.alloc (.cells #[.slice A n c] 82)).frozen? ⟨w.heap.size + 1 + 1, 0, none⟩ = false := by rw [E2.out.frozen (World.block_lt_of_cell? _ _ c1)]; exact f1
  have z5 : (w1.alloc (.cells #[.slice A n c] 82)).frozen? ⟨w.heap.size + 1 + 1 + 1, 0, none⟩ = false := by rw [E2.out.frozen (World.block_lt_of_cell? _ _ c2)]; exact f2
  have B2 : Hid (Below w.heap.size w (w1.alloc (.cells #[.slice A n c] 82))) := below_step B1.out E2.out
  have L4 : w.heap.size + 4 ≤ (w1.alloc (.cells #[.slice A n c] 82)).heap.size := by
    have := World.block_lt_of_cell? _ _ z3
    simp only at this
    omega
  have I1 : Hid (Ints (w1.alloc (.cells #[.slice A n c] 82)) B A xs) := H.out.below (B2.out.mono hB)
  have I2 : Hid (Ints (w1.alloc (.cells #[.slice A n c] 82)) B' A' ys) := H'.out.below (B2.out.mono hB')
  clear b0 b1 c1 c2 f1 f2 B1 E2 H H' B4
  obtain ⟨p, hp⟩ : ∃ p, w1.heap.size = p := ⟨_, rfl⟩
  rw [hp] at z0 ⊢
  clear hp
  generalize w1.alloc (.cells #[.slice A n c] 82) = w2 at *
  refine wpIn_rangeFunc_first (gf := 78) (first := #[.slice A n c]) rfl (enters_of Try.func78 (by kernel_rfl) rfl) (shifts_iterates A c n 4 (by omega) h0 (by omega))
    (fun pre W => (∀ y ∈ pre, shiftL xs y ≠ ys) ∧ Below w2.heap.size w2 W) (Found w xs ys) (fun pre => abides_below (Nat.le_refl _) _) (fun pre => Found.abides L4) ⟨by simp, Below.refl _ _⟩
    (fun x => { tmps := #[.agg #[.slice A n c], .agg #[.slice A' ys.length c'], .pointer (some ⟨w.heap.size, 0, none⟩), .pointer (some ⟨w.heap.size + 1, 0, none⟩), .pointer (some ⟨w.heap.size + 1 + 1, 0, none⟩), .pointer (some ⟨w.heap.size + 1 + 1 + 1, 0, none⟩), .int .i64 0, .pointer (some ⟨p, 0, none⟩), .int .i64 x, .agg #[.slice A n c], .agg #[.slice A' ys.length c'], .int .i64 0, .int .i64 0, .bool false, undef, .pointer (some ⟨w.heap.size, 0, none⟩), .slice A n c, .slice A n c, .func (.func 78) #[.slice A n c] #[], .int .i64 x, undef, undef, undef, undef, undef, undef, undef], defers := [] }) ?assign ?body ?done ?stop
  case assign =>
    intro l x W K hK
    gi_wp2
    exact hK
  case body =>
    rintro l pre x W hsp ⟨hno, hbW⟩ hsz
    have hx : x ∈ seqS (n - 1) := hsp.subset (by simp)
    have hxb : -1048576 ≤ x ∧ x ≤ 1048576 := by
      obtain ⟨j, hj, e | e⟩ := mem_seqS x (n - 1) hx <;> omega
    have y0 := cell_kept z0 hbW
    have y1 := cell_kept z1 hbW
    have y2 := cell_kept z2 hbW
    have y3 := cell_kept z3 hbW
    have s1 := HSH.out x W.drew hxb (I1.out.below (hbW.mono (by omega))).drew (by show B ≤ W.heap.size; omega)
    have S1 := Lib.hid s1
    have J2 : Hid (Ints W.drew B' A' ys) := (I2.out.below (hbW.mono (by omega))).drew
    have y4 : W.frozen? ⟨w.heap.size + 1 + 1, 0, none⟩ = false := by rw [hbW.frozen (World.block_lt_of_cell? _ _ z2)]; exact z4
    have y5 : W.frozen? ⟨w.heap.size + 1 + 1 + 1, 0, none⟩ = false := by rw [hbW.frozen (World.block_lt_of_cell? _ _ z3)]; exact z5
    have hmx : Try.prog.follows .mixedOrders = true := by kernel_rfl
    obtain ⟨r, hr⟩ : ∃ r, decide (shiftL xs x = ys) = r := ⟨_, rfl⟩
    have HR := Lib.hid hr
    have HBW := Lib.hid hbW
    have HNO := Lib.hid hno
    have hB'W : B' ≤ W.drew.heap.size := by show B' ≤ W.heap.size; omega
    have SAME : Hid (∀ (W1 : World) (g cap : Nat) (ex : List Value), Row W1 g (shiftL xs x) ex → Ints W1 B' A' ys → Calls Try.prog 79 #[.slice (some ⟨g, 0, none⟩) (shiftL xs x).length cap, .slice A' ys.length c'] W1 fun e w' => e = .returned (.bool r) ∧ ∃ n, w' = w'.drewN 0 ∧ w' = W1.drewN n) := fun W1 g cap ex hrw hI => by
      rw [← hr]
      refine (sameCols_any (some ⟨g, 0, none⟩) A' cap c' (shiftL xs x) ys (g + 1) B' W1 hrw.ints hI (by rw [shiftL_length]; exact hn) (by omega)).mono ?_
      rintro e w' ⟨he, m, hm⟩
      exact ⟨he, m, rfl, hm⟩
    clear s1 hr hbW hno z0 z1 z2 z3 z4 z5 hx hsz
    gi_wp2
    gi_region_with_o (first | (refine ⟨trivial, ?_⟩; gi_at_call 80; refine (CallsIn.inRound l (callsIn_wide.2 S1.out)).mono ?_; rintro e W1 ⟨g, cap, ex, rfl, hg, hb1, hrw⟩; have D1 := Lib.hid hb1; have RW := Lib.hid hrw; have x0 := cell_kept (show W.drew.cell? ⟨p, 0, none⟩ = some (.slice A n c) from y0) hb1; have x1 := cell_kept (show W.drew.cell? ⟨w.heap.size + 1, 0, none⟩ = some (.slice A' ys.length c') from y1) hb1; have K2 := Lib.hid (J2.out.below (hb1.mono hB'W)); clear hb1 hrw) | (refine ⟨trivial, ?_⟩; gi_at_call 79; refine (CallsIn.inRound l (callsIn_wide.2 (SAME.out _ _ _ _ RW.out K2.out))).mono ?_; rintro e W2 ⟨rfl, m, hm0, hm⟩; clear hm0; subst hm))
    all_goals
      have D2 : Hid (Below W.heap.size W (W1.drewN m)) := below_drewN ((Below.refl W.heap.size W).drew.trans D1.out) m
      have v2 := cell_kept y2 D2.out
      have v3 := cell_kept y3 D2.out
      have v4 : (W1.drewN m).frozen? ⟨w.heap.size + 1 + 1, 0, none⟩ = false := by rw [D2.out.frozen (World.block_lt_of_cell? _ _ y2)]; exact y4
      have v5 : (W1.drewN m).frozen? ⟨w.heap.size + 1 + 1 + 1, 0, none⟩ = false := by rw [D2.out.frozen (World.block_lt_of_cell? _ _ y3)]; exact y5
      clear x0 x1 K2 RW D1 SAME S1 J2 hg y0 y1 y2 y3 y4 y5 I1 I2
      generalize W1.drewN m = W3 at *
      cases r
      · gi_wp2
        exact bodyEnd_on HNO.out (of_decide_eq_false HR.out) D2.out HBW.out
      · gi_wp2
        exact bodyEnd_found HNO.out (of_decide_eq_true HR.out) D2.out B2.out HBW.out v2 v3
  case done =>
    rintro ys' W hS ⟨hno, hbW⟩ hK
    have y2 := cell_kept z2 hbW
    have y3 := cell_kept z3 hbW
    have y4 : W.frozen? ⟨w.heap.size + 1 + 1, 0, none⟩ = false := by rw [hbW.frozen (World.block_lt_of_cell? _ _ z2)]; exact z4
    have y5 : W.frozen? ⟨w.heap.size + 1 + 1 + 1, 0, none⟩ = false := by rw [hbW.frozen (World.block_lt_of_cell? _ _ z3)]; exact z5
    have HF := Lib.hid (find_no (findS_none (hS ▸ hno)))
    have HBW := Lib.hid hbW
    have HK := Lib.hid hK
    clear hbW hno hK z0 z1 z4 z5
    gi_wp2
    refine ⟨by simp, .inl ⟨_, _, rfl, run_takeDeferred (((KeepsOthers.setCell _ _ _).trans (KeepsOthers.setCell _ _ _)).same _ _ HK.out rfl), ?_⟩⟩
    exact left_none HF.out HRV.out HRC.out y2 y3 B2.out HBW.out L4 HK.out (fun W' h1 h2 => by simp [results, Try.results29, go_sem, h1, h2])
  case stop =>
    rintro pre W hSp ⟨q, b, rfl, hq, hb, hc1, hc2, hB⟩ hK
    have HF := Lib.hid (find_val (findS_at hSp hq hb))
    have HK := Lib.hid hK
    have HB := Lib.hid hB
    clear hq hb hB hK z0 z1 z2 z3 z4 z5
    gi_wp2
    refine ⟨by simp, .inl ⟨_, _, rfl, run_takeDeferred HK.out, ?_⟩⟩
    have hg : Below w2.heap.size W (W.putObj w2.heap.size (.deferred none)) := (Below.refl _ W).grown (grownBy_putObj' W _ _) (by have := (Array.getElem?_eq_some_iff.1 HK.out).1; omega) (fun q e => by cases e; omega)
    have k1 := (hg.cell (p := ⟨w.heap.size + 1 + 1, 0, none⟩) (by simp; omega)).trans hc1
    have k2 := (hg.cell (p := ⟨w.heap.size + 1 + 1 + 1, 0, none⟩) (by simp; omega)).trans hc2
    refine ⟨.tuple #[.int .i64 b, .int .i64 0], (by simp [results, Try.results29, go_sem, k1, k2]), by rw [← HRV.out, ← HRC.out, HF.out.1, HF.out.2], HB.out.trans (hg.mono (by omega))⟩

theorem specShiftOf_any (A A' : Option Addr) (c c' : Nat) (xs ys : List Int) (B B' : Nat) (w : World) (h : Ints w B A xs) (h' : Ints w B' A' ys) (hB : B ≤ w.heap.size) (hB' : B' ≤ w.heap.size) (hn : xs.length ≤ 1048576) (hn' : ys.length ≤ 1048576) :
    Calls Try.prog 30 #[.agg #[.slice A xs.length c], .agg #[.slice A' ys.length c']] w fun e w' => e = .returned (.tuple #[.int .i64 (shiftVal xs ys), .int .i64 (shiftErr xs ys)]) ∧ Below w.heap.size w w' := by
  by_cases e : pairCode xs ys = 0
  · exact specShiftOf_good A A' c c' xs ys B B' w h h' hB hB' hn hn' e
  · exact specShiftOf_bad A A' c c' xs ys B B' w h h' hB hB' hn hn' e

theorem implShiftOf_any (A A' : Option Addr) (c c' : Nat) (xs ys : List Int) (B B' : Nat) (w : World) (h : Ints w B A xs) (h' : Ints w B' A' ys) (hB : B ≤ w.heap.size) (hB' : B' ≤ w.heap.size) (hn : xs.length ≤ 1048576) (hn' : ys.length ≤ 1048576) :
    Calls Try.prog 29 #[.agg #[.slice A xs.length c], .agg #[.slice A' ys.length c']] w fun e w' => e = .returned (.tuple #[.int .i64 (shiftVal xs ys), .int .i64 (shiftErr xs ys)]) ∧ Below w.heap.size w w' := by
  by_cases e : pairCode xs ys = 0
  · exact implShiftOf_good A A' c c' xs ys B B' w h h' hB hB' hn hn' e
  · exact implShiftOf_bad A A' c c' xs ys B B' w h h' hB hB' hn hn' e
end Go.Proofs.Ytjfogadcedgndaa
