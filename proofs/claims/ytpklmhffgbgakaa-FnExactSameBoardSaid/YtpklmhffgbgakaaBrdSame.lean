/- spec.SameBoard and impl.SameBoard answer whether two boards are equal, for at most 1048576 wires: contracts. -/
import Derived.Test.YtpklmhffgbgakaaBrdOk
import Derived.Laws.StructEq
namespace Go.Proofs.Ytpklmhffgbgakaa
open Go.ChangeShapes Go.WideShapes Go.ChangeAt Go.RowKit

theorem wire_beq (a b c d : Int) : (a == c && b == d) = decide ((a, b) = (c, d)) := by
  by_cases h1 : a = c <;> by_cases h2 : b = d <;> simp [h1, h2]

theorem eql_wire (a b c d : Int) (w : World) : (binOp .eql 38 (.agg #[.int .i64 a, .int .i64 b]) (.agg #[.int .i64 c, .int .i64 d])).run Try.prog w = .ok (.bool (a == c && b == d)) w := by
  have u3 := Try.underlying2
  have a3 := Try.isAgg2
  have z3 := Try.sizeOf2
  have hS : Try.prog.underlying 38 = some (.struct (Try.prog.fieldsOf 38)) := by kernel_rfl
  have hp : Try.prog.stoodInHeld 38 = false := by kernel_rfl
  rw [run_eql_struct, show (10000 : Nat) = 9999 + 1 from rfl, run_equalIn_agg w 9999 38 _ _ hS hp]
  simp only [Program.fieldsOf, Try.underlying38]
  go_simp
  by_cases h1 : a = c <;> by_cases h2 : b = d <;> simp [h1, h2]

theorem neq_wire (a b c d : Int) (w : World) : (binOp .neq 38 (.agg #[.int .i64 a, .int .i64 b]) (.agg #[.int .i64 c, .int .i64 d])).run Try.prog w = .ok (.bool (!(a == c && b == d))) w := by
  have u3 := Try.underlying2
  have a3 := Try.isAgg2
  have z3 := Try.sizeOf2
  have hS : Try.prog.underlying 38 = some (.struct (Try.prog.fieldsOf 38)) := by kernel_rfl
  have hp : Try.prog.stoodInHeld 38 = false := by kernel_rfl
  rw [run_neq_struct, show (10000 : Nat) = 9999 + 1 from rfl, run_equalIn_agg w 9999 38 _ _ hS hp]
  simp only [Program.fieldsOf, Try.underlying38]
  go_simp
  by_cases h1 : a = c <;> by_cases h2 : b = d <;> simp [h1, h2]

@[go_sem] theorem guard_wire (op : BinOp) (x y : Operand) (xs ys : Array Value) (w : World) : (eqGuard op 38 x y (.agg xs) (.agg ys)).run Try.prog w = .ok () w := run_eqGuard_agg w op _ x y xs ys (by kernel_rfl)

set_option maxHeartbeats 1000000 in
theorem equalWires_any (A A' : Option Addr) (c c' : Nat) (P Q : List (Int × Int)) (B B' : Nat) (w : World) (h : Wires w B A P) (h' : Wires w B' A' Q) (hB : B ≤ w.heap.size) (hB' : B' ≤ w.heap.size) (hn : P.length ≤ 1048576) (hn' : Q.length ≤ 1048576) :
    Calls Try.prog 63 #[.slice A P.length c, .slice A' Q.length c'] w fun e w' => e = .returned (.bool (decide (P = Q))) ∧ Below w.heap.size w w' := by
  obtain ⟨n, hN⟩ : ∃ n, P.length = n := ⟨_, rfl⟩
  obtain ⟨m, hM⟩ : ∃ m, Q.length = m := ⟨_, rfl⟩
  obtain ⟨r, hr⟩ : ∃ r, decide (P = Q) = r := ⟨_, rfl⟩
  rw [hN] at hn
  rw [hM] at hn'
  rw [hN, hM, hr]
  have H := Lib.hid h
  have H' := Lib.hid h'
  have HN := Lib.hid hN
  have HM := Lib.hid hM
  have HR := Lib.hid hr
  clear h h' hN hM hr
  by_cases hnm : n = m
  · subst hnm
    go_enter Try.func63, Try.ntmps63
    go_wp2
    go_loopw [13] (fun i wr => ∃ t : Nat, t ≤ n ∧ i = .int .i64 t ∧ Hid (P.take t = Q.take t) ∧ Hid (Below w.heap.size w wr)) (fun i _ => n - (intOf i).toNat)
    case atStart => exact ⟨0, Nat.zero_le _, rfl, rfl, Below.refl _ _⟩
    case round =>
      obtain ⟨t, ht, rfl, HK, HB⟩ := hrel
      by_cases hlt : t < n
      · obtain ⟨p, hp⟩ : ∃ p, P[t]? = some p := ⟨P[t]'(by rw [HN.out]; exact hlt), List.getElem?_eq_getElem _⟩
        obtain ⟨q, hq⟩ : ∃ q, Q[t]? = some q := ⟨Q[t]'(by rw [HM.out]; exact hlt), List.getElem?_eq_getElem _⟩
        obtain ⟨b, off, rfl, hb, hcell⟩ := (H.out.below (HB.out.mono hB)) (by rw [HN.out]; omega)
        obtain ⟨b', off', rfl, hb', hcell'⟩ := (H'.out.below (HB.out.mono hB')) (by rw [HM.out]; omega)
        obtain ⟨c1, c2⟩ := hcell t p hp
        obtain ⟨d1, d2⟩ := hcell' t q hq
        have Hp := Lib.hid hp
        have Hq := Lib.hid hq
        obtain ⟨x, y⟩ := p
        obtain ⟨u, v⟩ := q
        simp only at c1 c2 d1 d2
        have k0 : (0 : Int) ≤ (t : Int) := Int.natCast_nonneg _
        have k1 : (t : Int) < (n : Int) := by omega
        clear hcell hcell' hp hq hb hb'
        by_cases he : x = u ∧ y = v
        · obtain ⟨rfl, rfl⟩ := he
          have heq : ∀ W : World, (binOp .neq 38 (.agg #[.int .i64 x, .int .i64 y]) (.agg #[.int .i64 x, .int .i64 y])).run Try.prog W = .ok (.bool false) W := fun W => by rw [neq_wire]; simp
          have HK1 : Hid (P.take (t + 1) = Q.take (t + 1)) := by
            show _ = _
            rw [List.take_add_one, List.take_add_one, Hp.out, Hq.out, HK.out]
          go_wp2
          go_quiet (fail)
          go_wp2
          go_roundw
          case rel => exact ⟨t + 1, by omega, by go_num, HK1, below_drewN HB.out _⟩
          case measure => simp [intOf]; omega
        · have he' : (x == u && y == v) = false := by
            rw [wire_beq, decide_eq_false_iff_not]
            intro e
            injection e with e1 e2
            exact he ⟨e1, e2⟩
          have heq : ∀ W : World, (binOp .neq 38 (.agg #[.int .i64 x, .int .i64 y]) (.agg #[.int .i64 u, .int .i64 v])).run Try.prog W = .ok (.bool true) W := fun W => by rw [neq_wire, he']; rfl
          obtain rfl : r = false := by
            rw [← HR.out, decide_eq_false_iff_not]
            intro e
            have h1 := Hp.out
            rw [e, Hq.out] at h1
            injection h1 with h1
            injection h1 with h1 h2
            exact he ⟨h1.symm, h2.symm⟩
          clear he he'
          go_wp2
          go_quiet (fail)
          go_wp2
          go_ret
          exact ⟨rfl, below_drewN HB.out _⟩
      · have k1 : ¬ (t : Int) < (n : Int) := by omega
        obtain rfl : r = true := by
          have := HK.out
          rw [List.take_of_length_le (by rw [HN.out]; omega), List.take_of_length_le (by rw [HM.out]; omega)] at this
          rw [← HR.out, decide_eq_true_eq]
          exact this
        go_wp2
        go_ret
        exact ⟨rfl, HB.out⟩
  · obtain rfl : r = false := by
      rw [← HR.out, decide_eq_false_iff_not]
      intro e
      exact hnm (by rw [← HN.out, ← HM.out, e])
    have e1 : ((n : Int) != (m : Int)) = true := by
      simp only [bne_iff_ne, ne_eq]
      omega
    go_enter Try.func63, Try.ntmps63
    go_wp2
    go_ret
    exact ⟨rfl, Below.refl _ _⟩

/-- whether two boards are equal -/
def sameBV (e n j : Int) (P : List (Int × Int)) (e' n' j' : Int) (Q : List (Int × Int)) : Bool := decide (e = e') && (decide (n = n') && (decide (j = j') && decide (P = Q)))

theorem implSameBoard_any (e n j : Int) (A : Option Addr) (c : Nat) (P : List (Int × Int)) (e' n' j' : Int) (A' : Option Addr) (c' : Nat) (Q : List (Int × Int)) (B B' : Nat) (w : World) (h : Wires w B A P) (h' : Wires w B' A' Q) (hB : B ≤ w.heap.size) (hB' : B' ≤ w.heap.size) (hn : P.length ≤ 1048576) (hn' : Q.length ≤ 1048576) :
    Calls Try.prog 21 #[.agg #[.int .i64 e, .int .i64 n, .int .i64 j, .slice A P.length c], .agg #[.int .i64 e', .int .i64 n', .int .i64 j', .slice A' Q.length c']] w fun r w' => r = .returned (.bool (sameBV e n j P e' n' j' Q)) ∧ Below w.heap.size w w' := by
  have hE := fun (W : World) (hW : Below w.heap.size w W) => equalWires_any A A' c c' P Q B B' W (h.below (hW.mono hB)) (h'.below (hW.mono hB')) (Nat.le_trans hB hW.size) (Nat.le_trans hB' hW.size) hn hn'
  obtain ⟨q, hq⟩ : ∃ q, decide (P = Q) = q := ⟨_, rfl⟩
  obtain ⟨m, hN⟩ : ∃ m, P.length = m := ⟨_, rfl⟩
  obtain ⟨m', hM⟩ : ∃ m, Q.length = m := ⟨_, rfl⟩
  unfold sameBV
  simp only [hq, hN, hM] at hE ⊢
  have HE := Lib.hid hE
  have HB := (below_box w (.cells #[.int .i64 e, .int .i64 n, .int .i64 j, .slice A m c] 29)).alloc (by simp) (.cells #[.int .i64 e', .int .i64 n', .int .i64 j', .slice A' m' c'] 29)
  have HE1 := Lib.hid (HE.out _ HB)
  have HB := Lib.hid HB
  clear hE HE h h' hN hM hn hn' hq
  by_cases h1 : e = e'
  · by_cases h2 : n = n'
    · by_cases h3 : j = j'
      · subst h1 h2 h3
        simp only [decide_true, Bool.true_and]
        go_enter Try.func21, Try.ntmps21
        go_wp2_with (go_at_call 63; refine HE1.out.mono ?_; rintro r w1 ⟨rfl, hb⟩; have HB1 := Lib.hid (below_step HB.out hb); clear hb)
        go_ret
        exact ⟨rfl, HB1.out⟩
      · have g : (j == j') = false := by simpa using h3
        simp only [h1, h2, h3, decide_true, decide_false, Bool.true_and, Bool.false_and]
        go_enter Try.func21, Try.ntmps21
        go_wp2
        go_ret
        exact ⟨rfl, by simpa [h1, h2] using HB.out⟩
    · have g : (n == n') = false := by simpa using h2
      simp only [h1, h2, decide_true, decide_false, Bool.true_and, Bool.false_and]
      go_enter Try.func21, Try.ntmps21
      go_wp2
      go_ret
      exact ⟨rfl, by simpa [h1] using HB.out⟩
  · have g : (e == e') = false := by simpa using h1
    simp only [h1, decide_false, Bool.false_and]
    go_enter Try.func21, Try.ntmps21
    go_wp2
    go_ret
    exact ⟨rfl, HB.out⟩

set_option maxHeartbeats 2000000 in
theorem specSameBoard_any (e n j : Int) (A : Option Addr) (c : Nat) (P : List (Int × Int)) (e' n' j' : Int) (A' : Option Addr) (c' : Nat) (Q : List (Int × Int)) (B B' : Nat) (w : World) (h : Wires w B A P) (h' : Wires w B' A' Q) (hB : B ≤ w.heap.size) (hB' : B' ≤ w.heap.size) (hn : P.length ≤ 1048576) (hn' : Q.length ≤ 1048576) :
    Calls Try.prog 20 #[.agg #[.int .i64 e, .int .i64 n, .int .i64 j, .slice A P.length c], .agg #[.int .i64 e', .int .i64 n', .int .i64 j', .slice A' Q.length c']] w fun r w' => r = .returned (.bool (sameBV e n j P e' n' j' Q)) ∧ Below w.heap.size w w' := by
  obtain ⟨m, hN⟩ : ∃ m, P.length = m := ⟨_, rfl⟩
  obtain ⟨m', hM⟩ : ∃ m, Q.length = m := ⟨_, rfl⟩
  obtain ⟨q, hq⟩ : ∃ q, decide (P = Q) = q := ⟨_, rfl⟩
  unfold sameBV
  simp only [hq, hN, hM] at hn hn' ⊢
  have HBB := (below_box w (.cells #[.int .i64 e, .int .i64 n, .int .i64 j, .slice A m c] 29)).alloc (by simp) (.cells #[.int .i64 e', .int .i64 n', .int .i64 j', .slice A' m' c'] 29)
  have HB := Lib.hid HBB
  have H := Lib.hid h
  have H' := Lib.hid h'
  have HN := Lib.hid hN
  have HM := Lib.hid hM
  have HQ := Lib.hid hq
  clear h h' hN hM hq
  by_cases h1 : e = e'
  · by_cases h2 : n = n'
    · by_cases h3 : j = j'
      · subst h1 h2 h3
        simp only [decide_true, Bool.true_and]
        by_cases hnm : m = m'
        · subst hnm
          obtain ⟨W1, hW1⟩ : ∃ W1, (w.alloc (.cells #[.int .i64 e, .int .i64 n, .int .i64 j, .slice A m c] 29)).alloc (.cells #[.int .i64 e, .int .i64 n, .int .i64 j, .slice A' m c'] 29) = W1 := ⟨_, rfl⟩
          have b3 : W1.cell? ⟨w.heap.size, 3, none⟩ = some (.slice A m c) := by rw [← hW1]; simp [go_sem]
          have d3 : W1.cell? ⟨w.heap.size + 1, 3, none⟩ = some (.slice A' m c') := by rw [← hW1]; simp [go_sem]
          have b0 : W1.cell? ⟨w.heap.size, 0, none⟩ = some (.int .i64 e) := by rw [← hW1]; simp [go_sem]
          have b1 : W1.cell? ⟨w.heap.size, 1, none⟩ = some (.int .i64 n) := by rw [← hW1]; simp [go_sem]
          have b2 : W1.cell? ⟨w.heap.size, 2, none⟩ = some (.int .i64 j) := by rw [← hW1]; simp [go_sem]
          have d0 : W1.cell? ⟨w.heap.size + 1, 0, none⟩ = some (.int .i64 e) := by rw [← hW1]; simp [go_sem]
          have d1 : W1.cell? ⟨w.heap.size + 1, 1, none⟩ = some (.int .i64 n) := by rw [← hW1]; simp [go_sem]
          have d2 : W1.cell? ⟨w.heap.size + 1, 2, none⟩ = some (.int .i64 j) := by rw [← hW1]; simp [go_sem]
          rw [hW1] at HB
          clear HBB
          go_enter Try.func20, Try.ntmps20
          go_wp2
          go_loopw [5] (fun i wr => ∃ t : Nat, t ≤ m ∧ i = .int .i64 t ∧ Hid (P.take t = Q.take t) ∧ Hid (Below W1.heap.size W1 wr)) (fun i _ => m - (intOf i).toNat)
          case atStart => exact ⟨0, Nat.zero_le _, rfl, rfl, Below.refl _ _⟩
          case round =>
            obtain ⟨t, ht, rfl, HK, HB1⟩ := hrel
            have x3 := cell_kept b3 HB1.out
            have y3 := cell_kept d3 HB1.out
            have HB2 := Lib.hid (below_step HB.out HB1.out)
            by_cases hlt : t < m
            · obtain ⟨p, hp⟩ : ∃ p, P[t]? = some p := ⟨P[t]'(by rw [HN.out]; exact hlt), List.getElem?_eq_getElem _⟩
              obtain ⟨q', hq'⟩ : ∃ q, Q[t]? = some q := ⟨Q[t]'(by rw [HM.out]; exact hlt), List.getElem?_eq_getElem _⟩
              obtain ⟨b, off, rfl, hb, hcell⟩ := (H.out.below (HB2.out.mono hB)) (by rw [HN.out]; omega)
              obtain ⟨b', off', rfl, hb', hcell'⟩ := (H'.out.below (HB2.out.mono hB')) (by rw [HM.out]; omega)
              obtain ⟨c1, c2⟩ := hcell t p hp
              obtain ⟨d1, d2⟩ := hcell' t q' hq'
              have Hp := Lib.hid hp
              have Hq := Lib.hid hq'
              obtain ⟨x, y⟩ := p
              obtain ⟨u, v⟩ := q'
              simp only at c1 c2 d1 d2
              have k0 : (0 : Int) ≤ (t : Int) := Int.natCast_nonneg _
              have k1 : (t : Int) < (m : Int) := by omega
              clear hcell hcell' hp hq' hb hb'
              by_cases he : x = u ∧ y = v
              · obtain ⟨rfl, rfl⟩ := he
                have heq : ∀ W : World, (binOp .neq 38 (.agg #[.int .i64 x, .int .i64 y]) (.agg #[.int .i64 x, .int .i64 y])).run Try.prog W = .ok (.bool false) W := fun W => by rw [neq_wire]; simp
                have HK1 : Hid (P.take (t + 1) = Q.take (t + 1)) := by
                  show _ = _
                  rw [List.take_add_one, List.take_add_one, Hp.out, Hq.out, HK.out]
                go_wp2
                go_quiet (fail)
                go_wp2
                go_roundw
                case rel => exact ⟨t + 1, by omega, by go_num, HK1, below_drewN HB1.out _⟩
                case measure => simp [intOf]; omega
              · have he' : (x == u && y == v) = false := by
                  rw [wire_beq, decide_eq_false_iff_not]
                  intro e
                  injection e with e1 e2
                  exact he ⟨e1, e2⟩
                have heq : ∀ W : World, (binOp .neq 38 (.agg #[.int .i64 x, .int .i64 y]) (.agg #[.int .i64 u, .int .i64 v])).run Try.prog W = .ok (.bool true) W := fun W => by rw [neq_wire, he']; rfl
                obtain rfl : q = false := by
                  rw [← HQ.out, decide_eq_false_iff_not]
                  intro e
                  have h1 := Hp.out
                  rw [e, Hq.out] at h1
                  injection h1 with h1
                  injection h1 with h1 h2
                  exact he ⟨h1.symm, h2.symm⟩
                clear he he'
                go_wp2
                go_quiet (fail)
                go_wp2
                go_ret
                exact ⟨rfl, below_drewN HB2.out _⟩
            · have k1 : ¬ (t : Int) < (m : Int) := by omega
              obtain rfl : q = true := by
                have := HK.out
                rw [List.take_of_length_le (by rw [HN.out]; omega), List.take_of_length_le (by rw [HM.out]; omega)] at this
                rw [← HQ.out, decide_eq_true_eq]
                exact this
              go_wp2
              go_ret
              exact ⟨rfl, HB2.out⟩
        · have g : ((m : Int) != (m' : Int)) = true := by
            simp only [bne_iff_ne, ne_eq]
            omega
          obtain rfl : q = false := by
            rw [← HQ.out, decide_eq_false_iff_not]
            intro e
            exact hnm (by rw [← HN.out, ← HM.out, e])
          go_enter Try.func20, Try.ntmps20
          go_wp2
          go_ret
          exact ⟨rfl, HB.out⟩
      · have g : (j != j') = true := by simpa using h3
        simp only [h1, h2, h3, decide_true, decide_false, Bool.true_and, Bool.false_and]
        go_enter Try.func20, Try.ntmps20
        go_wp2
        go_ret
        exact ⟨rfl, by simpa [h1, h2] using HB.out⟩
    · have g : (n != n') = true := by simpa using h2
      simp only [h1, h2, decide_true, decide_false, Bool.true_and, Bool.false_and]
      go_enter Try.func20, Try.ntmps20
      go_wp2
      go_ret
      exact ⟨rfl, by simpa [h1] using HB.out⟩
  · have g : (e != e') = true := by simpa using h1
    simp only [h1, decide_false, Bool.false_and]
    go_enter Try.func20, Try.ntmps20
    go_wp2
    go_ret
    exact ⟨rfl, HB.out⟩
end Go.Proofs.Ytpklmhffgbgakaa
