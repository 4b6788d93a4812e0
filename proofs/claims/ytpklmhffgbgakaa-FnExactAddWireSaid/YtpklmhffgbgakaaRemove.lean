/- impl.RemoveWire answers the board without a wire: a contract. -/
import Derived.Test.YtpklmhffgbgakaaWithout
namespace Go.Proofs.Ytpklmhffgbgakaa
open Go.ChangeShapes Go.WideShapes Go.ChangeAt Go.RowKit

def remC (e n j : Int) (P : List (Int × Int)) (x : Int) : Int := codeB (boardB e n j P) x P.length
def remV (e n j : Int) (P : List (Int × Int)) (x v : Int) : Int := if remC e n j P x = 0 then v else 0
def remA (e n j : Int) (P : List (Int × Int)) (x : Int) : List (Int × Int) := if remC e n j P x = 0 then keepTo [x] P P.length else []
theorem remA_length (e n j : Int) (P : List (Int × Int)) (x : Int) (hn : P.length ≤ 1048576) : (remA e n j P x).length ≤ 1048576 := by
  unfold remA
  by_cases h : remC e n j P x = 0
  · rw [if_pos h]
    have := keepTo_length [x] P P.length
    omega
  · rw [if_neg h]
    simp
theorem rem_bad {e n j : Int} {P : List (Int × Int)} {x : Int} (h : remC e n j P x ≠ 0) : remA e n j P x = [] ∧ ∀ v, remV e n j P x v = 0 := ⟨if_neg h, fun _ => if_neg h⟩
theorem rem_good {e n j : Int} {P : List (Int × Int)} {x : Int} (h : remC e n j P x = 0) : remA e n j P x = keepTo [x] P P.length ∧ ∀ v, remV e n j P x v = v := ⟨if_pos h, fun _ => if_pos h⟩

/-- two boxes of boards, laid one after the other: the second one is for the answer -/
structure Two (w W0 : World) (e n j : Int) (sl : Value) : Prop where
  below : Below w.heap.size w W0
  size : W0.heap.size = w.heap.size + 1 + 1
  p0 : W0.cell? ⟨w.heap.size, 0, none⟩ = some (.int .i64 e)
  p1 : W0.cell? ⟨w.heap.size, 1, none⟩ = some (.int .i64 n)
  p2 : W0.cell? ⟨w.heap.size, 2, none⟩ = some (.int .i64 j)
  p3 : W0.cell? ⟨w.heap.size, 3, none⟩ = some sl
  q0 : W0.cell? ⟨w.heap.size + 1, 0, none⟩ = some (.int .i64 0)
  q1 : W0.cell? ⟨w.heap.size + 1, 1, none⟩ = some (.int .i64 0)
  q2 : W0.cell? ⟨w.heap.size + 1, 2, none⟩ = some (.int .i64 0)
  q3 : W0.cell? ⟨w.heap.size + 1, 3, none⟩ = some (.slice none 0 0)
  fq : ∀ i, W0.frozen? ⟨w.heap.size + 1, i, none⟩ = false
theorem two_boards (w : World) (e n j : Int) (sl : Value) : Two w ((w.alloc (.cells #[.int .i64 e, .int .i64 n, .int .i64 j, sl] 29)).alloc (.cells #[.int .i64 0, .int .i64 0, .int .i64 0, .slice none 0 0] 29)) e n j sl := by
  refine ⟨(below_box w _).alloc (by simp) _, by simp, ?_, ?_, ?_, ?_, ?_, ?_, ?_, ?_, fun i => ?_⟩ <;> simp [go_sem]

theorem bad_board {w wr : World} {v0 v1 v2 v3 : Value} (hb : Below w.heap.size w wr) :
    Below w.heap.size w ((((wr.setCell ⟨w.heap.size + 1, 0, none⟩ v0).setCell ⟨w.heap.size + 1, 1, none⟩ v1).setCell ⟨w.heap.size + 1, 2, none⟩ v2).setCell ⟨w.heap.size + 1, 3, none⟩ v3) :=
  (((hb.setCell (by show _ ≤ _; simp only; omega) _).setCell (by show _ ≤ _; simp only; omega) _).setCell (by show _ ≤ _; simp only; omega) _).setCell (by show _ ≤ _; simp only; omega) _

set_option maxRecDepth 100000 in
set_option maxHeartbeats 4000000 in
theorem implRemove_any (e n j : Int) (A : Option Addr) (c : Nat) (P : List (Int × Int)) (B : Nat) (x : Int) (w : World) (h : Wires w B A P) (hB : B ≤ w.heap.size) (hn : P.length ≤ 1048576) :
    Calls Try.prog 28 #[.agg #[.int .i64 e, .int .i64 n, .int .i64 j, .slice A P.length c], .int .i64 x] w (GivesBC (remV e n j P x e) (remV e n j P x n) (remV e n j P x j) (remA e n j P x) (remC e n j P x) w) := by
  obtain ⟨W0, hW0⟩ : ∃ W0, (w.alloc (.cells #[.int .i64 e, .int .i64 n, .int .i64 j, .slice A P.length c] 29)).alloc (.cells #[.int .i64 0, .int .i64 0, .int .i64 0, .slice none 0 0] 29) = W0 := ⟨_, rfl⟩
  have ht := two_boards w e n j (.slice A P.length c)
  rw [hW0] at ht
  have hval := implValidBoard_any e n j A c P B W0 (h.below (ht.below.mono hB)) (Nat.le_trans hB ht.below.size) hn
  have hsc : remC e n j P x = codeB (boardB e n j P) x P.length := rfl
  have hcs : (boardB e n j P = false ∧ remC e n j P x = 1) ∨ (boardB e n j P = true ∧ remC e n j P x = 2 ∧ (x < 0 ∨ (¬ x < 0 ∧ x ≥ P.length))) ∨ (boardB e n j P = true ∧ remC e n j P x = 0 ∧ ∃ X : Nat, x = X ∧ X < P.length) := by
    rcases codeB_cases (boardB e n j P) x P.length with ⟨hb, hc⟩ | ⟨hb, hi, hc⟩ | ⟨hb, hi, hc⟩
    · exact Or.inl ⟨hb, by rw [hsc, hc]⟩
    · refine Or.inr (Or.inl ⟨hb, by rw [hsc, hc], ?_⟩)
      by_cases h0 : x < 0
      · exact Or.inl h0
      · refine Or.inr ⟨h0, ?_⟩
        simp only [inB, Bool.and_eq_false_iff, decide_eq_false_iff_not] at hi
        omega
    · refine Or.inr (Or.inr ⟨hb, by rw [hsc, hc], x.toNat, ?_⟩)
      simp only [inB, Bool.and_eq_true, decide_eq_true_eq] at hi
      omega
  rcases hcs with ⟨hb, hc⟩ | ⟨hb, hc, hx⟩ | ⟨hb, hc, X, hx, hX⟩
  · obtain ⟨ha, hv⟩ := rem_bad (e := e) (n := n) (j := j) (P := P) (x := x) (by rw [hc]; decide)
    rw [ha, hv, hv, hv, hc]
    rw [hb] at hval
    obtain ⟨m, hN⟩ : ∃ m, P.length = m := ⟨_, rfl⟩
    rw [hN] at hval ht hW0 ⊢
    have HC := Lib.hid hval
    have HT := Lib.hid ht
    obtain ⟨_, _, p0, p1, p2, p3, q0, q1, q2, q3, _⟩ := ht
    clear hval h hN hn hsc hb hc ha hv
    go_enter Try.func28, Try.ntmps28
    go_wp2_with fail
    refine HC.out.mono ?_
    rintro r w1 ⟨rfl, hb⟩
    have HB := Lib.hid (below_step HT.out.below hb)
    have y0 := cell_kept q0 hb
    have y1 := cell_kept q1 hb
    have y2 := cell_kept q2 hb
    have y3 := cell_kept q3 hb
    have fy : ∀ i, w1.frozen? ⟨w.heap.size + 1, i, none⟩ = false := fun i => by rw [hb.frozen (by simp only; have := HT.out.size; omega)]; exact HT.out.fq i
    clear hb p0 p1 p2 p3 q0 q1 q2 q3
    go_wp2
    refine bodyPost_ret (v := .tuple #[.agg #[.int .i64 0, .int .i64 0, .int .i64 0, .slice none 0 0], .int .i64 1]) (by simp [results, Try.results28, go_sem, y0, y1, y2, y3]) rfl ?_
    exact ⟨none, 0, rfl, bad_board HB.out, ⟨fun h => absurd h (by simp), Nat.le_refl _⟩⟩
  · obtain ⟨ha, hv⟩ := rem_bad (e := e) (n := n) (j := j) (P := P) (x := x) (by rw [hc]; decide)
    rw [ha, hv, hv, hv, hc]
    rw [hb] at hval
    obtain ⟨m, hN⟩ : ∃ m, P.length = m := ⟨_, rfl⟩
    rw [hN] at hval ht hW0 hx ⊢
    have HC := Lib.hid hval
    have HT := Lib.hid ht
    obtain ⟨_, _, p0, p1, p2, p3, q0, q1, q2, q3, _⟩ := ht
    clear hval h hN hn hsc hb hc ha hv
    rcases hx with h0 | ⟨h0, h1⟩
    all_goals
      go_enter Try.func28, Try.ntmps28
      go_wp2_with fail
      refine HC.out.mono ?_
      rintro r w1 ⟨rfl, hb⟩
      have HB := Lib.hid (below_step HT.out.below hb)
      have x3 := cell_kept p3 hb
      have y0 := cell_kept q0 hb
      have y1 := cell_kept q1 hb
      have y2 := cell_kept q2 hb
      have y3 := cell_kept q3 hb
      have fy : ∀ i, w1.frozen? ⟨w.heap.size + 1, i, none⟩ = false := fun i => by rw [hb.frozen (by simp only; have := HT.out.size; omega)]; exact HT.out.fq i
      clear hb p0 p1 p2 p3 q0 q1 q2 q3
      go_wp2
      refine bodyPost_ret (v := .tuple #[.agg #[.int .i64 0, .int .i64 0, .int .i64 0, .slice none 0 0], .int .i64 2]) (by simp [results, Try.results28, go_sem, y0, y1, y2, y3]) rfl ?_
      exact ⟨none, 0, rfl, bad_board HB.out, ⟨fun h => absurd h (by simp), Nat.le_refl _⟩⟩
  · obtain ⟨ha, hv⟩ := rem_good hc
    rw [ha, hv, hv, hv, hc]
    rw [hb] at hval
    have k1 : ¬ x < 0 := by omega
    have k2 : ¬ x ≥ (P.length : Int) := by omega
    clear hx hX
    have hP40 : P.length ≤ 40 := by
      obtain ⟨E', N', J', hE', hN', hJ', _, _, _, _, _, hP, _, _⟩ := board_facts hb
      exact hP
    have hwo := fun (W : World) (hW : Below w.heap.size w W) => without_any e n j A c P B (some ⟨W.heap.size, 0, none⟩) 1 [x] (W.heap.size + 1) (W.alloc (.cells #[.int .i64 x] 2)) (h.below ((hW.alloc hW.size _).mono hB)) (Nat.le_trans hB (hW.alloc hW.size _).size) (fun _ => ⟨W.heap.size, 0, rfl, by omega, fun i hi => by
      have : i = 0 := by simpa using hi
      subst this
      simp⟩) (by simp) hP40 (by simp)
    unfold GivesB at hwo
    simp only [List.length_cons, List.length_nil, Nat.zero_add] at hwo
    obtain ⟨Q, hQ⟩ : ∃ Q, keepTo [x] P P.length = Q := ⟨_, rfl⟩
    simp only [hQ] at hwo
    rw [hQ]
    obtain ⟨m, hN⟩ : ∃ m, P.length = m := ⟨_, rfl⟩
    simp only [hN] at hval ht hW0 hwo k2 ⊢
    have HC := Lib.hid hval
    have HT := Lib.hid ht
    have HWO := Lib.hid hwo
    obtain ⟨_, _, p0, p1, p2, p3, q0, q1, q2, q3, _⟩ := ht
    clear hval h hN hn hsc hb hc ha hv hwo hQ hP40
    go_enter Try.func28, Try.ntmps28
    go_wp2_with fail
    refine HC.out.mono ?_
    rintro r w1 ⟨rfl, hb⟩
    have HB := Lib.hid (below_step HT.out.below hb)
    have x0 := cell_kept p0 hb
    have x1 := cell_kept p1 hb
    have x2 := cell_kept p2 hb
    have x3 := cell_kept p3 hb
    have y0 := cell_kept q0 hb
    have y1 := cell_kept q1 hb
    have y2 := cell_kept q2 hb
    have y3 := cell_kept q3 hb
    have fy : ∀ i, w1.frozen? ⟨w.heap.size + 1, i, none⟩ = false := fun i => by rw [hb.frozen (by simp only; have := HT.out.size; omega)]; exact HT.out.fq i
    have HSZ : Hid (w.heap.size + 1 + 1 ≤ w1.heap.size) := by show _ ≤ _; have := HT.out.size; have := hb.size; omega
    clear hb p0 p1 p2 p3 q0 q1 q2 q3
    go_wp2_with fail
    with_reducible refine (HWO.out _ HB.out).mono ?_
    rintro r w2 ⟨A2, cap2, rfl, hb, hat⟩
    have hbb := below_step (below_box w1 (.cells #[.int .i64 x] 2)) hb
    have HB2 := Lib.hid (below_step HB.out hbb)
    have z0 := cell_kept y0 hbb
    have z1 := cell_kept y1 hbb
    have z2 := cell_kept y2 hbb
    have z3 := cell_kept y3 hbb
    have fz : ∀ i, w2.frozen? ⟨w.heap.size + 1, i, none⟩ = false := fun i => by rw [hbb.frozen (by simp only; have := HSZ.out; omega)]; exact fy i
    have HAT := Lib.hid hat
    have HSZ2 : Hid (w.heap.size + 1 + 1 ≤ w1.heap.size + 1) := Nat.le_succ_of_le HSZ.out
    clear hb hbb hat y0 y1 y2 y3 fy x0 x1 x2 x3
    go_wp2
    refine bodyPost_ret (v := .tuple #[.agg #[.int .i64 e, .int .i64 n, .int .i64 j, .slice A2 Q.length cap2], .int .i64 0]) (by simp [results, Try.results28, go_sem, z0, z1, z2, z3]) rfl ?_
    have hs := HSZ2.out
    have hat := HAT.out
    simp only [World.size_alloc] at hat
    refine ⟨A2, cap2, rfl, bad_board HB2.out, ?_⟩
    have h6 := (((hat.far (p := ⟨w.heap.size + 1, 0, none⟩) (by simp only; omega) (.int .i64 e)).far (p := ⟨w.heap.size + 1, 1, none⟩) (by simp only; omega) (.int .i64 n)).far (p := ⟨w.heap.size + 1, 2, none⟩) (by simp only; omega) (.int .i64 j)).far (p := ⟨w.heap.size + 1, 3, none⟩) (by simp only; omega) (.slice A2 Q.length cap2)
    exact h6.wide (by omega) (by simp [World.setCell]) (Nat.le_refl _)
end Go.Proofs.Ytpklmhffgbgakaa
