/- Boards in memory: one that comes in, opened to its numbers and wires; what the laws' helpers do with boards (sizes, copies, comparisons, marks); boards in memory of their own: contracts. -/
import Derived.Test.YtpklmhffgbgakaaWires
import Derived.Test.YtpklmhffgbgakaaBoxed
namespace Go.Proofs.Ytpklmhffgbgakaa
open Go.ChangeShapes Go.WideShapes Go.ChangeAt Go.RowKit

section
variable {H : Type} {enc : TypeId × Value → H}
set_option maxRecDepth 100000 in
/-- A board that comes in: its three numbers and its wires. -/
theorem open_board {W : World} {b : Nat} {r : Reach} {v : Value} {d : DataW H} {p : List MemPlace} (hv : Value.okWide Try.prog W r b 24 v) (h : DataW.Trod enc Try.prog W 0 (fun _ => true) true 24 v d p) :
    ∃ (e n j : Int) (A : Option Addr) (c : Nat) (P : List (Int × Int)), v = .agg #[.int .i64 e, .int .i64 n, .int .i64 j, .slice A (List.length P) c] ∧ Wires W W.heap.size A P ∧ P.length ≤ 9223372036854775807 ∧ ((Lit.int .i64 e).wf = true ∧ (Lit.int .i64 n).wf = true ∧ (Lit.int .i64 j).wf = true) := by
  obtain ⟨c0, c1, c2, c3, y0, y1, y2, y3, m, rfl, _, _, hy0, hy1, hy2, hy3⟩ := Go.Joins.open_agg4 Try.underlying24 (by kernel_rfl) (by kernel_rfl) hv h
  obtain ⟨e, e0, _, we⟩ := DataW.trod_int Try.underlying2 hy0
  obtain ⟨n, e1, _, wn⟩ := DataW.trod_int Try.underlying2 hy1
  obtain ⟨j, e2, _, wj⟩ := DataW.trod_int Try.underlying2 hy2
  simp only [List.cons.injEq, and_true] at e0 e1 e2
  subst e0 e1 e2
  obtain ⟨A, c, P, rfl, hA, hl, _⟩ := open_wires_at hy3
  exact ⟨e, n, j, A, c, P, rfl, hA, hl, we, wn, wj⟩

set_option maxRecDepth 100000 in
theorem open_wire {W : World} {b : Nat} {r : Reach} {v : Value} {d : DataW H} {p : List MemPlace} (hv : Value.okWide Try.prog W r b 35 v) (h : DataW.Trod enc Try.prog W 0 (fun _ => true) true 35 v d p) :
    ∃ x y : Int, v = .agg #[.int .i64 x, .int .i64 y] ∧ (Lit.int .i64 x).wf = true ∧ (Lit.int .i64 y).wf = true := by
  obtain ⟨c0, c1, y0, y1, m, rfl, _, _, hy0, hy1⟩ := Go.Joins.open_agg2 Try.underlying35 (by kernel_rfl) (by kernel_rfl) hv h
  obtain ⟨x, e0, _, wx⟩ := DataW.trod_int Try.underlying2 hy0
  obtain ⟨y, e1, _, wy⟩ := DataW.trod_int Try.underlying2 hy1
  simp only [List.cons.injEq, and_true] at e0 e1
  subst e0 e1
  exact ⟨x, y, rfl, wx, wy⟩
end

/-- a number that an int64 can hold -/
def I64 (x : Int) : Prop := -9223372036854775808 ≤ x ∧ x ≤ 9223372036854775807
theorem i64_of {x : Int} (h : (Lit.int .i64 x).wf = true) : I64 x := by simpa [I64, Lit.wf, IntKind.min, IntKind.max, IntKind.signed, IntKind.bits] using h
theorem wide_of {e n j : Int} (h : (Lit.int .i64 e).wf = true ∧ (Lit.int .i64 n).wf = true ∧ (Lit.int .i64 j).wf = true) : I64 e ∧ I64 n ∧ I64 j := ⟨i64_of h.1, i64_of h.2.1, i64_of h.2.2⟩

theorem szBoard_any (e n j : Int) (A : Option Addr) (m c : Nat) (left : Int) (w : World) (h0 : 0 ≤ left) (h1 : left ≤ 1048576) (hn : m ≤ 9223372036854775807) :
    Calls Try.prog 15 #[.agg #[.int .i64 e, .int .i64 n, .int .i64 j, .slice A m c], .int .i64 left] w fun e w' => e = .returned (.int .i64 (if left < m then -1 else left - m)) ∧ Below w.heap.size w w' := by
  have hs := fun W => szWires_any A m c left W h0 h1 hn
  by_cases h : left < m
  · have e : (if left < (m : Int) then (-1 : Int) else left - m) = -1 := if_pos h
    rw [e] at hs ⊢
    have HS := Lib.hid hs
    clear hs
    go_enter Try.func15, Try.ntmps15
    go_wp2_with (go_at_call 56; refine (HS.out _).mono ?_; rintro e w' ⟨rfl, rfl⟩)
    go_ret
    exact ⟨rfl, (Below.refl _ _).alloc (Nat.le_refl _) _⟩
  · have e : (if left < (m : Int) then (-1 : Int) else left - m) = left - m := if_neg h
    rw [e] at hs ⊢
    have hx : ¬ left - (m : Int) < 0 := by omega
    have HS := Lib.hid hs
    clear hs
    go_enter Try.func15, Try.ntmps15
    go_wp2_with (go_at_call 56; refine (HS.out _).mono ?_; rintro e w' ⟨rfl, rfl⟩)
    go_ret
    exact ⟨rfl, (Below.refl _ _).alloc (Nat.le_refl _) _⟩

theorem WRow.far {w : World} {g : Nat} {P : List (Int × Int)} (h : WRow w g P) {p : Addr} (hp : p.block ≠ g) (v : Value) : WRow (w.setCell p v) g P := by
  unfold WRow at h ⊢
  rw [← h]
  simp [World.setCell, Array.getElem?_modify, hp]

theorem WRow.wat {w : World} {g lo : Nat} {P : List (Int × Int)} (h : WRow w g P) (hl : lo ≤ g) : WAt w lo w.heap.size (some ⟨g, 0, none⟩) P := by
  refine ⟨fun _ => ⟨g, [], rfl, hl, h.lt, ?_⟩, Nat.le_refl _⟩
  unfold WRowX
  rw [List.append_nil]
  exact h

theorem toBoardAt_any (e n j : Int) (A : Option Addr) (c : Nat) (P : List (Int × Int)) (B : Nat) (w : World) (h : Wires w B A P) (hB : B ≤ w.heap.size) (hn : P.length ≤ 1048576) :
    Calls Try.prog 17 #[.agg #[.int .i64 e, .int .i64 n, .int .i64 j, .slice A P.length c]] w fun r w' => ∃ g, r = .returned (.agg #[.int .i64 e, .int .i64 n, .int .i64 j, .slice (some ⟨g, 0, none⟩) P.length P.length]) ∧ Below w.heap.size w w' ∧ WAt w' w.heap.size w'.heap.size (some ⟨g, 0, none⟩) P := by
  have hT := fun (W : World) (hW : Wires W B A P) (hBW : B ≤ W.heap.size) => toWires_any A c P B W hW hBW hn
  have HT := Lib.hid hT
  have H := Lib.hid h
  obtain ⟨m, hN⟩ : ∃ m, P.length = m := ⟨_, rfl⟩
  rw [hN] at HT ⊢
  clear hT h hN
  go_enter Try.func17, Try.ntmps17
  go_wp2_with fail
  refine (HT.out _ (H.out.below ((((Below.refl _ _).alloc hB _).alloc (by simp; omega) _).alloc (by simp; omega) _)) (by simp; omega)).mono ?_
  rintro r w1 ⟨g, rfl, hg, hb, hrow⟩
  have c0 := cell_kept (p := ⟨w.heap.size + 1 + 1, 0, none⟩) (v := .int .i64 e) (by simp [go_sem]) hb
  have c1 := cell_kept (p := ⟨w.heap.size + 1 + 1, 1, none⟩) (v := .int .i64 n) (by simp [go_sem]) hb
  have c2 := cell_kept (p := ⟨w.heap.size + 1 + 1, 2, none⟩) (v := .int .i64 j) (by simp [go_sem]) hb
  have c3 := cell_kept (p := ⟨w.heap.size + 1 + 1, 3, none⟩) (v := .slice none 0 0) (by simp [go_sem]) hb
  have d0 := cell_kept (p := ⟨w.heap.size + 1, 0, none⟩) (v := .int .i64 0) (by simp [go_sem]) hb
  have d1 := cell_kept (p := ⟨w.heap.size + 1, 1, none⟩) (v := .int .i64 0) (by simp [go_sem]) hb
  have d2 := cell_kept (p := ⟨w.heap.size + 1, 2, none⟩) (v := .int .i64 0) (by simp [go_sem]) hb
  have d3 := cell_kept (p := ⟨w.heap.size + 1, 3, none⟩) (v := .slice none 0 0) (by simp [go_sem]) hb
  have fc : ∀ i, w1.frozen? ⟨w.heap.size + 1 + 1, i, none⟩ = false := fun i => by rw [hb.frozen (by simp)]; simp [go_sem]
  have fd : ∀ i, w1.frozen? ⟨w.heap.size + 1, i, none⟩ = false := fun i => by rw [hb.frozen (by simp)]; simp [go_sem]
  have B1 := Lib.hid (below_step (((below_box w _).alloc (by simp) _).alloc (by simp; omega) _) hb)
  have hg' : w.heap.size + 1 + 1 + 1 ≤ g := by simpa using hg
  have HR := Lib.hid hrow
  have HG := Lib.hid hg'
  clear hb hrow hg hg'
  go_wp2
  refine bodyPost_ret (v := .agg #[.int .i64 e, .int .i64 n, .int .i64 j, .slice (some ⟨g, 0, none⟩) m m]) (by simp [results, Try.results17, go_sem, d0, d1, d2, d3]) rfl ⟨g, rfl, ?_, ?_⟩
  · exact ((((B1.out.setCell (by first | (simp; done) | (simp; omega)) _).setCell (by first | (simp; done) | (simp; omega)) _).setCell (by first | (simp; done) | (simp; omega)) _).setCell (by first | (simp; done) | (simp; omega)) _).setCell (by first | (simp; done) | (simp; omega)) _
  · have hgg := HG.out
    refine WRow.wat ?_ (by omega)
    exact ((((HR.out.far (by simp only; omega) _).far (by simp only; omega) _).far (by simp only; omega) _).far (by simp only; omega) _).far (by simp only; omega) _

theorem eqBoardAt_any (e n j : Int) (A A' : Option Addr) (c c' : Nat) (P : List (Int × Int)) (w : World) (h : Wires w w.heap.size A P) (h' : Wires w w.heap.size A' P) (hn : P.length ≤ 1048576) :
    Calls Try.prog 19 #[.agg #[.int .i64 e, .int .i64 n, .int .i64 j, .slice A P.length c], .agg #[.int .i64 e, .int .i64 n, .int .i64 j, .slice A' P.length c']] w fun r w' => r = .returned (.bool true) ∧ Below w.heap.size w w' := by
  have hE := fun (W : World) (hW : Below w.heap.size w W) => eqWires_same A A' c c' P w.heap.size w.heap.size W (h.below hW) (h'.below hW) hW.size hW.size hn
  obtain ⟨m, hN⟩ : ∃ m, P.length = m := ⟨_, rfl⟩
  simp only [hN] at hE ⊢
  have HE := Lib.hid hE
  have h1 : (e != e) = false := by simp
  have h2 : (n != n) = false := by simp
  have h3 : (j != j) = false := by simp
  clear hE h h' hN hn
  go_enter Try.func19, Try.ntmps19
  go_wp2_with fail
  refine (HE.out _ ((below_box w _).alloc (by simp) _)).mono ?_
  rintro r w1 ⟨rfl, hb⟩
  have B1 := Lib.hid (below_step ((below_box w _).alloc (by simp) _) hb)
  clear hb
  go_wp2
  go_ret
  exact ⟨rfl, B1.out⟩

theorem markBoardAt_any (e n j : Int) (A : Option Addr) (c : Nat) (P : List (Int × Int)) (lo hi : Nat) (k : Int) (w : World) (h : WAt w lo hi A P) (h0 : 0 ≤ k) (h1 : k ≤ 4194304) (hn : P.length ≤ 1048576) :
    Calls Try.prog 25 #[.agg #[.int .i64 e, .int .i64 n, .int .i64 j, .slice A P.length c], .int .i64 k] w fun r w' => r = .returned (.int .i64 (k + 2 * P.length)) ∧ Within lo hi w w' ∧ WAt w' lo hi A (wmk P k P.length) := by
  have hbx := below_box w (.cells #[.int .i64 e, .int .i64 n, .int .i64 j, .slice A P.length c] 29)
  have hc := markWires_any A c P lo hi k _ (h.later hbx) h0 h1 hn
  have HX : Hid (Within lo hi w (w.alloc (.cells #[.int .i64 e, .int .i64 n, .int .i64 j, .slice A P.length c] 29))) := ⟨hbx.os, hbx.tape, hbx.output, hbx.size, fun b hb _ => hbx.block b hb⟩
  obtain ⟨m, hN⟩ : ∃ m, P.length = m := ⟨_, rfl⟩
  rw [hN] at hc HX ⊢
  have HC := Lib.hid hc
  clear hc h hbx hN hn
  go_enter Try.func25, Try.ntmps25
  go_wp2_with fail
  refine HC.out.mono ?_
  rintro r w' ⟨rfl, hg, hr⟩
  have HG := Lib.hid (HX.out.trans hg)
  have HR := Lib.hid hr
  clear hg hr
  go_wp2
  go_ret
  exact ⟨rfl, HG.out, HR.out⟩

theorem heldBoardAt_any (e n j : Int) (A : Option Addr) (c : Nat) (P : List (Int × Int)) (lo hi : Nat) (k : Int) (w : World) (h : WAt w lo hi A (wmk P k P.length)) (h0 : 0 ≤ k) (h1 : k ≤ 4194304) (hn : P.length ≤ 1048576) :
    Calls Try.prog 26 #[.agg #[.int .i64 e, .int .i64 n, .int .i64 j, .slice A P.length c], .int .i64 k] w fun r w' => r = .returned (.int .i64 (k + 2 * P.length)) ∧ Below w.heap.size w w' := by
  have hbx := below_box w (.cells #[.int .i64 e, .int .i64 n, .int .i64 j, .slice A P.length c] 29)
  have hc := heldWires_any A c P lo hi k _ (h.later hbx) h0 h1 hn
  obtain ⟨m, hN⟩ : ∃ m, P.length = m := ⟨_, rfl⟩
  rw [hN] at hc hbx ⊢
  have HC := Lib.hid hc
  have HX := Lib.hid hbx
  have hk : ¬ k + 2 * (m : Int) < 0 := by omega
  clear hc h hbx hN hn
  go_enter Try.func26, Try.ntmps26
  go_wp2_with fail
  refine HC.out.mono ?_
  rintro r w' ⟨rfl, rfl⟩
  go_wp2
  go_ret
  exact ⟨rfl, HX.out⟩

/-- a board of one's own and a code -/
def GivesBC (e n j : Int) (P : List (Int × Int)) (code : Int) (w : World) (r : Ending) (w' : World) : Prop :=
  ∃ A cap, r = .returned (.tuple #[.agg #[.int .i64 e, .int .i64 n, .int .i64 j, .slice A P.length cap], .int .i64 code]) ∧ Below w.heap.size w w' ∧ WAt w' w.heap.size w'.heap.size A P

theorem toWire_pair (a b : Int) (w : World) : Calls Try.prog 23 #[.agg #[.int .i64 a, .int .i64 b]] w fun e w' => e = .returned (.agg #[.int .i64 a, .int .i64 b]) ∧ Below w.heap.size w w' := toWire_any a b w

theorem board_cells (w : World) (e n j : Int) (v : Value) (t : TypeId) : (w.alloc (.cells #[.int .i64 e, .int .i64 n, .int .i64 j, v] t)).cell? ⟨w.heap.size, 0, none⟩ = some (.int .i64 e) ∧ (w.alloc (.cells #[.int .i64 e, .int .i64 n, .int .i64 j, v] t)).cell? ⟨w.heap.size, 1, none⟩ = some (.int .i64 n) ∧ (w.alloc (.cells #[.int .i64 e, .int .i64 n, .int .i64 j, v] t)).cell? ⟨w.heap.size, 2, none⟩ = some (.int .i64 j) ∧ (w.alloc (.cells #[.int .i64 e, .int .i64 n, .int .i64 j, v] t)).cell? ⟨w.heap.size, 3, none⟩ = some v := by
  refine ⟨?_, ?_, ?_, ?_⟩ <;> simp [go_sem]
end Go.Proofs.Ytpklmhffgbgakaa
