/- spec.RemoveWire answers the board without a wire: a contract. -/
import Derived.Test.YtpklmhffgbgakaaRemove
import Derived.Test.YtpklmhffgbgakaaStepOwn
namespace Go.Proofs.Ytpklmhffgbgakaa
open Go.ChangeShapes Go.WideShapes Go.ChangeAt Go.RowKit

theorem wcells {w : World} {b off : Nat} {P : List (Int × Int)} (h : ∀ (k : Nat) (p : Int × Int), P[k]? = some p → w.cell? ⟨b, off + k * 2, none⟩ = some (.int .i64 p.1) ∧ w.cell? ⟨b, off + k * 2 + 1, none⟩ = some (.int .i64 p.2)) :
    ∀ j u, (waCells P)[j]? = some u → w.cell? ⟨b, off + j, none⟩ = some u := fun j u hj => by
  have hlt : j < P.length * 2 := by
    obtain ⟨hl, _⟩ := List.getElem?_eq_some_iff.1 hj
    rwa [waCells_length] at hl
  obtain ⟨d, hd⟩ : ∃ d, P[j / 2]? = some d := ⟨P[j / 2]'(by omega), List.getElem?_eq_getElem _⟩
  obtain ⟨g0, g1⟩ := waCells_get P _ d hd
  obtain ⟨c0, c1⟩ := h _ d hd
  rcases (by omega : j % 2 = 0 ∨ j % 2 = 1) with e | e
  · rw [show j / 2 * 2 = j by omega] at g0 c0
    rw [g0] at hj
    rw [c0, Option.some.inj hj]
  · rw [show j / 2 * 2 + 1 = j by omega] at g1
    rw [show off + j / 2 * 2 + 1 = off + j by omega] at c1
    rw [g1] at hj
    rw [c1, Option.some.inj hj]

theorem wfront {w : World} {b off k : Nat} {P : List (Int × Int)} (h : ∀ j u, (waCells P)[j]? = some u → w.cell? ⟨b, off + j, none⟩ = some u) :
    ∀ j u, (waCells (P.take k))[j]? = some u → w.cell? ((⟨b, off, none⟩ : Addr).add j) = some u := fun j u hj => by
  rw [Go.WideShapes.add_plain]
  refine h _ _ ?_
  have e : waCells P = waCells (P.take k) ++ waCells (P.drop k) := by rw [← waCells_append, List.take_append_drop]
  obtain ⟨hl, _⟩ := List.getElem?_eq_some_iff.1 hj
  rw [e, List.getElem?_append_left hl]
  exact hj
theorem wbehind {w : World} {b off k c : Nat} {P : List (Int × Int)} (hc : P.length ≤ c) (hk : k ≤ P.length) (h : ∀ j u, (waCells P)[j]? = some u → w.cell? ⟨b, off + j, none⟩ = some u) :
    ∀ j u, (waCells (P.drop k))[j]? = some u → w.cell? ((if c = k then (⟨b, off, none⟩ : Addr) else ⟨b, off + k * 2, none⟩).add j) = some u := fun j u hj => by
  by_cases e : c = k
  · have : P.drop k = [] := List.drop_eq_nil_of_le (by omega)
    rw [this] at hj
    cases hj
  · rw [if_neg e, Go.WideShapes.add_plain, Nat.add_assoc]
    refine h _ _ ?_
    have e : waCells P = waCells (P.take k) ++ waCells (P.drop k) := by rw [← waCells_append, List.take_append_drop]
    have hl : (waCells (P.take k)).length = k * 2 := by rw [waCells_length, List.length_take]; congr 1; omega
    rw [e, List.getElem?_append_right (by omega), hl, Nat.add_sub_cancel_left]
    exact hj
theorem wslice_front (W : World) (b off n cap k : Nat) (hk : k ≤ cap) :
    (Instr.sliceAt 27 (.slice (some ⟨b, off, none⟩) n cap) none (some (.int .i64 k)) none).run Try.prog W = .ok (.slice (some ⟨b, off, none⟩) k cap) W := by
  have he : Try.prog.underlying 27 = some (.slice (Try.prog.elem 27)) := by simp [Program.elem, Try.underlying27]
  rw [run_sliceAt_slice (h := he), run_slice_h (ht := he) (h0 := Int.natCast_nonneg _) (h2 := by omega)]
  have hz : (sizeOf (Try.prog.elem 27)).run Try.prog W = .ok 2 W := by kernel_rfl
  rw [hz]
  simp [Result.andThen, sliced, Addr.add]
theorem wslice_behind (W : World) (b off n cap k : Nat) (hk : k ≤ n) :
    (Instr.sliceAt 27 (.slice (some ⟨b, off, none⟩) n cap) (some (.int .i64 k)) none none).run Try.prog W = .ok (.slice (some (if cap = k then ⟨b, off, none⟩ else ⟨b, off + k * 2, none⟩)) (n - k) (cap - k)) W := by
  have he : Try.prog.underlying 27 = some (.slice (Try.prog.elem 27)) := by simp [Program.elem, Try.underlying27]
  rw [run_sliceAt_slice (h := he), run_slice_l (ht := he) (h0 := Int.natCast_nonneg _) (h1 := by omega)]
  have hz : (sizeOf (Try.prog.elem 27)).run Try.prog W = .ok 2 W := by kernel_rfl
  rw [hz]
  by_cases e : cap = k
  · simp [Result.andThen, sliced, e]
  · simp [Result.andThen, sliced, Addr.add, e]

theorem rem_cases (e n j : Int) (P : List (Int × Int)) (x : Int) : (boardB e n j P = false ∧ remC e n j P x = 1) ∨ (boardB e n j P = true ∧ remC e n j P x = 2 ∧ inB x 0 (P.length - 1) = false) ∨ (boardB e n j P = true ∧ remC e n j P x = 0 ∧ inB x 0 (P.length - 1) = true ∧ ∃ X : Nat, x = X ∧ X < P.length) := by
  have hsc : remC e n j P x = codeB (boardB e n j P) x P.length := rfl
  rcases codeB_cases (boardB e n j P) x P.length with ⟨hb, hc⟩ | ⟨hb, hi, hc⟩ | ⟨hb, hi, hc⟩
  · exact Or.inl ⟨hb, by rw [hsc, hc]⟩
  · exact Or.inr (Or.inl ⟨hb, by rw [hsc, hc], hi⟩)
  · refine Or.inr (Or.inr ⟨hb, by rw [hsc, hc], hi, x.toNat, ?_⟩)
    simp only [inB, Bool.and_eq_true, decide_eq_true_eq] at hi
    omega
theorem wempty_owned (w : World) : (w.alloc (.cells #[] 38)).ownsRow w.heap.size 38 2 (.slice (some ⟨w.heap.size, 0, none⟩) 0 0) 0 [] :=
  ⟨rfl, Or.inr ⟨w.heap.size, 0, #[], rfl, Nat.le_refl _, heap_alloc_new w _, Nat.le_refl _, Nat.zero_le _, rfl, rfl⟩⟩

/-- Block b is the box of a board. -/
def Bbox (w : World) (b : Nat) (e n j : Int) (sl : Value) : Prop := w.heap[b]? = some (.cells #[.int .i64 e, .int .i64 n, .int .i64 j, sl] 29 (0, 0))
section
variable {w w' : World} {b : Nat} {e n j : Int} {sl : Value}
theorem Bbox.cells (h : Bbox w b e n j sl) : w.cell? ⟨b, 0, none⟩ = some (.int .i64 e) ∧ w.cell? ⟨b, 1, none⟩ = some (.int .i64 n) ∧ w.cell? ⟨b, 2, none⟩ = some (.int .i64 j) ∧ w.cell? ⟨b, 3, none⟩ = some sl := by
  unfold Bbox at h
  refine ⟨?_, ?_, ?_, ?_⟩ <;> rw [cell_of_row w b _ _ _ _ h] <;> rfl
theorem Bbox.frozen (h : Bbox w b e n j sl) (i : Nat) : w.frozen? ⟨b, i, none⟩ = false := by
  unfold Bbox at h
  simp [World.frozen?, h]
theorem Bbox.lt (h : Bbox w b e n j sl) : b < w.heap.size := by
  rcases Nat.lt_or_ge b w.heap.size with hlt | hge
  · exact hlt
  · unfold Bbox at h
    rw [Array.getElem?_eq_none hge] at h
    cases h
theorem Bbox.block (h : Bbox w b e n j sl) (hk : w'.heap[b]? = w.heap[b]?) : Bbox w' b e n j sl := hk.trans h
theorem Bbox.later (h : Bbox w b e n j sl) (hb : Below w.heap.size w w') : Bbox w' b e n j sl := h.block (hb.block b h.lt)
theorem Bbox.only {g : Nat} (h : Bbox w b e n j sl) (hg : w.grownBy w' (some g)) (hne : b ≠ g) : Bbox w' b e n j sl := h.block (hg.block b h.lt (fun x => hne (Option.some.inj x)))
theorem Bbox.set3 (h : Bbox w b e n j sl) (v : Value) : Bbox (w.setCell ⟨b, 3, none⟩ v) b e n j v := by
  unfold Bbox at h ⊢
  simp [World.setCell, Array.getElem?_modify, h]
theorem Bbox.far (h : Bbox w b e n j sl) {p : Addr} (hp : b ≠ p.block) (v : Value) : Bbox (w.setCell p v) b e n j sl := h.block (Below.heap_setCell w p v b hp)
theorem bbox_new (w : World) (e n j : Int) (sl : Value) : Bbox (w.alloc (.cells #[.int .i64 e, .int .i64 n, .int .i64 j, sl] 29)) w.heap.size e n j sl := heap_alloc_new w _
end

set_option maxRecDepth 100000 in
set_option maxHeartbeats 2000000 in
theorem specRemove_bad (e n j : Int) (A : Option Addr) (c : Nat) (P : List (Int × Int)) (B : Nat) (x : Int) (w : World) (h : Wires w B A P) (hB : B ≤ w.heap.size) (hn : P.length ≤ 1048576) (hbad : remC e n j P x ≠ 0) :
    Calls Try.prog 27 #[.agg #[.int .i64 e, .int .i64 n, .int .i64 j, .slice A P.length c], .int .i64 x] w (GivesBC 0 0 0 [] (remC e n j P x) w) := by
  obtain ⟨W0, hW0⟩ : ∃ W0, (w.alloc (.cells #[.int .i64 e, .int .i64 n, .int .i64 j, .slice A P.length c] 29)).alloc (.cells #[.int .i64 0, .int .i64 0, .int .i64 0, .slice none 0 0] 29) = W0 := ⟨_, rfl⟩
  have ht := two_boards w e n j (.slice A P.length c)
  rw [hW0] at ht
  have hval := l12Ok_any e n j A c P B w.heap.size 0 W0 ht.p0 ht.p1 ht.p2 ht.p3 (h.below (ht.below.mono hB)) (Nat.le_trans hB ht.below.size) hn
  rcases rem_cases e n j P x with ⟨hb, hc⟩ | ⟨hb, hc, hi⟩ | ⟨hb, hc, _⟩
  · rw [hc]
    rw [hb] at hval
    obtain ⟨m, hN⟩ : ∃ m, P.length = m := ⟨_, rfl⟩
    rw [hN] at ht hW0 ⊢
    have HC := Lib.hid hval
    have HT := Lib.hid ht
    obtain ⟨_, _, p0, p1, p2, p3, q0, q1, q2, q3, _⟩ := ht
    clear hval h hN hn hb hc hbad
    go_enter Try.func27, Try.ntmps27
    go_wp2_with fail
    with_reducible refine HC.out.mono ?_
    rintro r w1 ⟨rfl, hb⟩
    have HB := Lib.hid (below_step HT.out.below hb)
    have y0 := cell_kept q0 hb
    have y1 := cell_kept q1 hb
    have y2 := cell_kept q2 hb
    have y3 := cell_kept q3 hb
    have fy : ∀ i, w1.frozen? ⟨w.heap.size + 1, i, none⟩ = false := fun i => by rw [hb.frozen (by simp only; have := HT.out.size; omega)]; exact HT.out.fq i
    clear hb p0 p1 p2 p3 q0 q1 q2 q3
    go_wp2
    refine bodyPost_ret (v := .tuple #[.agg #[.int .i64 0, .int .i64 0, .int .i64 0, .slice none 0 0], .int .i64 1]) (by simp [results, Try.results27, go_sem, y0, y1, y2, y3]) rfl ?_
    exact ⟨none, 0, rfl, bad_board HB.out, ⟨fun h => absurd h (by simp), Nat.le_refl _⟩⟩
  · rw [hc]
    rw [hb] at hval
    have hin := fun W => in_any x 0 ((P.length : Int) - 1) W
    rw [hi] at hin
    obtain ⟨m, hN⟩ : ∃ m, P.length = m := ⟨_, rfl⟩
    rw [hN] at ht hW0 hin hn ⊢
    have hm0 : (0 : Int) ≤ (m : Int) := Int.natCast_nonneg _
    have hm1 : (m : Int) ≤ 1048576 := by omega
    have HC := Lib.hid hval
    have HT := Lib.hid ht
    have HI := Lib.hid hin
    obtain ⟨_, _, p0, p1, p2, p3, q0, q1, q2, q3, _⟩ := ht
    clear hval h hN hn hb hc hbad hi hin
    go_enter Try.func27, Try.ntmps27
    go_wp2_with fail
    with_reducible refine HC.out.mono ?_
    rintro r w1 ⟨rfl, hb⟩
    have HB := Lib.hid (below_step HT.out.below hb)
    have x3 := cell_kept p3 hb
    have y0 := cell_kept q0 hb
    have y1 := cell_kept q1 hb
    have y2 := cell_kept q2 hb
    have y3 := cell_kept q3 hb
    have fy : ∀ i, w1.frozen? ⟨w.heap.size + 1, i, none⟩ = false := fun i => by rw [hb.frozen (by simp only; have := HT.out.size; omega)]; exact HT.out.fq i
    clear hb p0 p1 p2 p3 q0 q1 q2 q3
    go_wp2_with (go_at_call 70; with_reducible refine (HI.out _).mono ?_; rintro r w2 ⟨rfl, rfl⟩)
    refine bodyPost_ret (v := .tuple #[.agg #[.int .i64 0, .int .i64 0, .int .i64 0, .slice none 0 0], .int .i64 2]) (by simp [results, Try.results27, go_sem, y0, y1, y2, y3]) rfl ?_
    exact ⟨none, 0, rfl, bad_board HB.out, ⟨fun h => absurd h (by simp), Nat.le_refl _⟩⟩
  · exact absurd hc hbad

set_option maxRecDepth 100000 in
set_option maxHeartbeats 4000000 in
theorem specRemove_good (e n j : Int) (A : Option Addr) (c : Nat) (P : List (Int × Int)) (B : Nat) (x : Int) (w : World) (h : Wires w B A P) (hB : B ≤ w.heap.size) (hn : P.length ≤ 1048576) (hc0 : P.length ≤ c) (hgood : remC e n j P x = 0) :
    Calls Try.prog 27 #[.agg #[.int .i64 e, .int .i64 n, .int .i64 j, .slice A P.length c], .int .i64 x] w (GivesBC e n j (keepTo [x] P P.length) 0 w) := by
  obtain ⟨i0, hi0, hz0, hz1, hz2⟩ := info_parts info_wire
  obtain ⟨W0, hW0⟩ : ∃ W0, (w.alloc (.cells #[.int .i64 e, .int .i64 n, .int .i64 j, .slice A P.length c] 29)).alloc (.cells #[.int .i64 0, .int .i64 0, .int .i64 0, .slice none 0 0] 29) = W0 := ⟨_, rfl⟩
  have ht := two_boards w e n j (.slice A P.length c)
  rw [hW0] at ht
  have hb0 : Bbox W0 w.heap.size e n j (.slice A P.length c) := by rw [← hW0]; exact (bbox_new w e n j _).later (below_box _ _)
  have hq0 : Bbox W0 (w.heap.size + 1) 0 0 0 (.slice none 0 0) := by
    rw [← hW0]
    have := bbox_new (w.alloc (.cells #[.int .i64 e, .int .i64 n, .int .i64 j, .slice A P.length c] 29)) 0 0 0 (.slice none 0 0)
    simpa using this
  have hval := l12Ok_any e n j A c P B w.heap.size 0 W0 ht.p0 ht.p1 ht.p2 ht.p3 (h.below (ht.below.mono hB)) (Nat.le_trans hB ht.below.size) hn
  rcases rem_cases e n j P x with ⟨_, hc⟩ | ⟨_, hc, _⟩ | ⟨hb, hc, hi, X, hx, hX⟩
  · rw [hc] at hgood
    exact absurd hgood (by decide)
  · rw [hc] at hgood
    exact absurd hgood (by decide)
  · rw [hb] at hval
    have hP40 : P.length ≤ 40 := by
      obtain ⟨E', N', J', hE', hN', hJ', _, _, _, _, _, hP, _, _⟩ := board_facts hb
      exact hP
    have hin := fun W => in_any x 0 ((P.length : Int) - 1) W
    rw [hi] at hin
    have hkeep : keepTo [x] P P.length = P.take X ++ P.drop (X + 1) := by
      rw [hx, keepTo_one P X P.length (Nat.le_refl _), if_neg (by omega), List.take_length]
    rw [hkeep]
    obtain ⟨b, off, rfl, hbB, hcell⟩ := h (by omega)
    have hwc := wcells hcell
    obtain ⟨ad, had⟩ : ∃ ad : Addr, (if c = X + 1 then (⟨b, off, none⟩ : Addr) else ⟨b, off + (X + 1) * 2, none⟩) = ad := ⟨_, rfl⟩
    have hf := fun (W : World) (hW : Below w.heap.size w W) => wfront (w := W) (k := X) (fun j u hj => cell_kept (hwc j u hj) hW)
    have hbh := fun (W : World) (hW : Below w.heap.size w W) => wbehind (w := W) (k := X + 1) hc0 (by omega) (fun j u hj => cell_kept (hwc j u hj) hW)
    have hs1 := fun W => wslice_front W b off P.length c X (by omega)
    have hs2 := fun W => wslice_behind W b off P.length c (X + 1) (by omega)
    simp only [had] at hbh hs2
    have e1 : ((X + 1 : Nat) : Int) = x + 1 := by omega
    rw [e1] at hs2
    rw [← hx] at hs1
    have hl1 : (waCells (P.take X)).length = X * 2 := by rw [waCells_length, List.length_take]; congr 1; omega
    have hl2 : (waCells (P.drop (X + 1))).length = (P.length - (X + 1)) * 2 := by rw [waCells_length, List.length_drop]
    have hlk : (P.take X).length = X := by rw [List.length_take]; omega
    have hlq : (P.take X ++ P.drop (X + 1)).length = X + (P.length - (X + 1)) := by rw [List.length_append, hlk, List.length_drop]
    obtain ⟨m, hN⟩ : ∃ m, P.length = m := ⟨_, rfl⟩
    obtain ⟨r2, hr2⟩ : ∃ r, m - (X + 1) = r := ⟨_, rfl⟩
    simp only [hN] at hval ht hW0 hin hb0 hq0 hs1 hs2 hl2 hlq hn hX hP40
    simp only [hr2] at hs2 hl2 hlq
    have hr40 : X + r2 ≤ 40 := by omega
    have hwr1 : IntKind.i64.wrap (x + 1) = x + 1 := IntWalk.i64_in _ (by omega)
    have hm0 : (0 : Int) ≤ (m : Int) := Int.natCast_nonneg _
    have hm1 : (m : Int) ≤ 40 := by omega
    have kx0 : (0 : Int) ≤ x := by omega
    have kx1 : x < (m : Int) := by omega
    have kx2 : x + 1 ≤ (m : Int) := by omega
    have HC := Lib.hid hval
    have HT := Lib.hid ht
    have HI := Lib.hid hin
    have HF := Lib.hid hf
    have HBH := Lib.hid hbh
    have HL1 := Lib.hid hl1
    have HL2 := Lib.hid hl2
    have HLK := Lib.hid hlk
    have HLQ := Lib.hid hlq
    have HBX := Lib.hid hb0
    have HQX := Lib.hid hq0
    obtain ⟨Q1, hQ1⟩ : ∃ Q, P.take X = Q := ⟨_, rfl⟩
    obtain ⟨Q2, hQ2⟩ : ∃ Q, P.drop (X + 1) = Q := ⟨_, rfl⟩
    rw [hQ1, hQ2]
    rw [hQ1] at HL1 HLK HF
    rw [hQ1, hQ2] at HLQ
    rw [hQ2] at HL2 HBH
    obtain ⟨p0, p1, p2, p3⟩ := hb0.cells
    rw [hN]
    clear hval ht hcell hwc hf hbh hl1 hl2 hlk hlq hb0 hq0 hin hN hn hb hc hi hkeep hx e1 had hQ1 hQ2 hr2 hX hgood hc0 h
    go_enter Try.func27, Try.ntmps27
    go_wp2_with fail
    with_reducible refine HC.out.mono ?_
    rintro r w1 ⟨rfl, hb⟩
    have HB := Lib.hid (below_step HT.out.below hb)
    have HBX1 := Lib.hid (HBX.out.later hb)
    have HQX1 := Lib.hid (HQX.out.later hb)
    have HSZ : Hid (w.heap.size + 1 + 1 ≤ w1.heap.size) := by show _ ≤ _; have := HT.out.size; have := hb.size; omega
    obtain ⟨x0, x1, x2, x3⟩ := HBX1.out.cells
    have fx := HBX1.out.frozen
    clear hb p0 p1 p2 p3 HBX HQX
    have hbw := (below_box w1 (.cells #[.int .i64 e, .int .i64 n, .int .i64 j, .slice (some ⟨b, off, none⟩) m c] 29)).alloc (by simp) (.cells #[] 38)
    have hob := (bbox_new w1 e n j (.slice (some ⟨b, off, none⟩) m c)).later (below_box _ (.cells #[] 38))
    have hem := wempty_owned (w1.alloc (.cells #[.int .i64 e, .int .i64 n, .int .i64 j, .slice (some ⟨b, off, none⟩) m c] 29))
    rw [World.size_alloc] at hem
    have hsz2 : ((w1.alloc (.cells #[.int .i64 e, .int .i64 n, .int .i64 j, .slice (some ⟨b, off, none⟩) m c] 29)).alloc (.cells #[] 38)).heap.size = w1.heap.size + 1 + 1 := by simp
    obtain ⟨W2, hW2⟩ : ∃ W2, (w1.alloc (.cells #[.int .i64 e, .int .i64 n, .int .i64 j, .slice (some ⟨b, off, none⟩) m c] 29)).alloc (.cells #[] 38) = W2 := ⟨_, rfl⟩
    rw [hW2] at hbw hob hem hsz2
    have HB2 := Lib.hid (below_step HB.out hbw)
    have HBX2 := Lib.hid (HBX1.out.later hbw)
    have HQX2 := Lib.hid (HQX1.out.later hbw)
    have HOB2 := Lib.hid hob
    have HEM := Lib.hid hem
    have HSZ2 := Lib.hid hsz2
    obtain ⟨y0, y1, y2, y3⟩ := HBX2.out.cells
    obtain ⟨o0, o1, o2, o3⟩ := hob.cells
    have fo := hob.frozen
    clear hbw hob hem hsz2
    go_wp2_with (first
      | (go_at_call 70; with_reducible refine (HI.out _).mono ?_; rintro r w2 ⟨rfl, rfl⟩)
      | (at_builtin; refine wpList_append_own _ rfl _ _ 27 rfl (w1.heap.size + 1) 38 i0 (.agg #[.int .i64 0, .int .i64 0]) 2 16 Try.underlying27 hi0 hz0 hz1 hz2 rfl (by decide) _ _ _ rfl HEM.out ⟨b, off, none⟩ X c (waCells Q1) rfl HL1.out (HF.out _ HB2.out) (wa_one _) ?c3 ?c4 ?c5 ?_; rotate_left 3; intro v1 w4 hown hgrow _; go_loud (
          rw [Nat.zero_add, List.nil_append] at hown
          obtain ⟨A1, cap1, rfl⟩ := wshape hown
          have hgr : W2.grownBy w4 (some (w1.heap.size + 1)) := hgrow
          have hs := HSZ.out
          have HOB4 := HOB2.out.only hgr (by omega)
          have HBX4 := HBX2.out.only hgr (by omega)
          have HQX4 := HQX2.out.only hgr (by omega)
          have HB4 := HB2.out.grown hgr HB2.out.size (fun z hz => by have e : w1.heap.size + 1 = z := Option.some.inj hz; omega)
          have HOBs := HOB4.set3 (.slice A1 X cap1)
          have HBXs := HBX4.far (p := ⟨w1.heap.size, 3, none⟩) (by simp only; omega) (.slice A1 X cap1)
          have HQXs := HQX4.far (p := ⟨w1.heap.size, 3, none⟩) (by simp only; omega) (.slice A1 X cap1)
          have HBs := HB4.setCell (p := ⟨w1.heap.size, 3, none⟩) (by show _ ≤ _; simp only; omega) (.slice A1 X cap1)
          have HOs := own_far hown ⟨w1.heap.size, 3, none⟩ (.slice A1 X cap1) (by simp only; omega)
          have hs4 : w1.heap.size + 1 + 1 ≤ w4.heap.size := by have := hgr.size; have := HSZ2.out; omega
          have hs5 : w1.heap.size + 1 + 1 ≤ (w4.setCell ⟨w1.heap.size, 3, none⟩ (.slice A1 X cap1)).heap.size := by simpa [World.setCell] using hs4
          have z3 := HOB4.cells.2.2.2
          have fz := HOB4.frozen
          obtain ⟨W5, hW5⟩ : ∃ W5, w4.setCell ⟨w1.heap.size, 3, none⟩ (.slice A1 X cap1) = W5 := ⟨_, rfl⟩
          rw [hW5] at HOBs HBXs HQXs HBs HOs hs5
          have HOB5 := Lib.hid HOBs
          have HBX5 := Lib.hid HBXs
          have HQX5 := Lib.hid HQXs
          have HB5 := Lib.hid HBs
          have HO5 := Lib.hid HOs
          have HS5 := Lib.hid hs5
          obtain ⟨t0, t1, t2, t3⟩ := HBXs.cells
          obtain ⟨s0, s1, s2, s3⟩ := HOBs.cells
          have fs := HOBs.frozen
          clear hown hgrow hgr hs HOB4 HBX4 HQX4 HB4 HOBs HBXs HQXs HBs HOs hs4 hs5 y0 y1 y2 y3 o0 o1 o2 o3 fo)))
    case c3 => unfold maxLen; omega
    case c4 => omega
    case c5 => have := HSZ2.out; omega
    have HO5d : Hid (W5.drew.ownsRow (w1.heap.size + 1) 38 2 (.slice A1 X cap1) X (waCells Q1)) := HO5
    have h63 : X + r2 ≤ maxLen := by unfold maxLen; omega
    have h8 : (X + r2) * 16 ≤ 140737488355328 := by omega
    have hbs : w1.heap.size + 1 ≤ W5.drew.heap.size := by have := HS5.out; show _ ≤ W5.heap.size; omega
    go_region_law (refine step_append_own _ rfl _ _ 27 rfl (w1.heap.size + 1) 38 i0 (.agg #[.int .i64 0, .int .i64 0]) 2 16 Try.underlying27 hi0 hz0 hz1 hz2 rfl (by decide) _ _ _ rfl HO5d.out ad r2 (c - (X + 1)) (waCells Q2) rfl HL2.out (HBH.out _ HB5.out.drew) (wa_one _) h63 h8 hbs ?_; intro v9 w9 hown hgrow _; obtain ⟨A9, cap9, rfl⟩ := wshape hown; have hgr : W5.drew.grownBy w9 (Value.slice A1 X cap1).ownBlock := hgrow; have hk := (fun (i : Nat) (h1 : i < W5.heap.size) (h2 : i < w1.heap.size + 1) => hgr.block i h1 (fun e => Nat.lt_irrefl _ (Nat.lt_of_lt_of_le h2 (HO5d.out.lt _ e.symm).1))); have HOB9 := HOB5.out.block (w' := w9) (hk _ HOB5.out.lt (Nat.lt_succ_self _)); have HQX9 := HQX5.out.block (w' := w9) (hk _ HQX5.out.lt (Nat.lt_succ_of_lt (Nat.lt_of_succ_le HSZ.out))); have HB9 := HB5.out.drew.grown hgr HB5.out.drew.size (fun z hz => Nat.le_trans HB.out.size (Nat.le_of_succ_le (HO5d.out.lt _ hz).1)); have z3 := HOB9.cells.2.2.2; have fz := HOB9.frozen; have HO9 := Lib.hid hown; have HOBh := Lib.hid HOB9; have HQXh := Lib.hid HQX9; have HBh := Lib.hid HB9; clear hown hgrow hgr hk HOB9 HQX9 HB9)
    all_goals
      have hs := HSZ.out
      have hne : w.heap.size + 1 ≠ w1.heap.size := by omega
      have HOBs := HOBh.out.set3 (.slice A9 (X + r2) cap9)
      have HQXs := HQXh.out.far (p := ⟨w1.heap.size, 3, none⟩) hne (.slice A9 (X + r2) cap9)
      obtain ⟨u0, u1, u2, u3⟩ := HOBs.cells
      obtain ⟨v0, v1, v2, v3⟩ := HQXs.cells
      have fv := HQXs.frozen
      go_wp2
      refine bodyPost_ret (v := .tuple #[.agg #[.int .i64 e, .int .i64 n, .int .i64 j, .slice A9 (X + r2) cap9], .int .i64 0]) (by simp [results, Try.results27, go_sem, v0, v1, v2, v3]) rfl ?_
      have hlq := HLQ.out
      have ho := HO9.out
      rw [← waCells_append, ← hlq] at ho
      obtain ⟨A8, cap8, hv8, hat⟩ := own_wat ho rfl
      rw [hlq] at hv8
      obtain ⟨rfl, rfl⟩ : A9 = A8 ∧ cap9 = cap8 := by simpa using hv8
      refine ⟨A9, cap9, by rw [hlq], bad_board (HBh.out.setCell (by show _ ≤ _; simp only; omega) _), ?_⟩
      have h6 := ((((hat.far (p := ⟨w1.heap.size, 3, none⟩) (by simp only; omega) (.slice A9 (X + r2) cap9)).far (p := ⟨w.heap.size + 1, 0, none⟩) (by simp only; omega) (.int .i64 e)).far (p := ⟨w.heap.size + 1, 1, none⟩) (by simp only; omega) (.int .i64 n)).far (p := ⟨w.heap.size + 1, 2, none⟩) (by simp only; omega) (.int .i64 j)).far (p := ⟨w.heap.size + 1, 3, none⟩) (by simp only; omega) (.slice A9 (X + r2) cap9)
      exact h6.wide (by omega) (by simp [World.setCell]) (Nat.le_refl _)

theorem specRemove_any (e n j : Int) (A : Option Addr) (c : Nat) (P : List (Int × Int)) (B : Nat) (x : Int) (w : World) (h : Wires w B A P) (hB : B ≤ w.heap.size) (hn : P.length ≤ 1048576) (hc0 : P.length ≤ c) :
    Calls Try.prog 27 #[.agg #[.int .i64 e, .int .i64 n, .int .i64 j, .slice A P.length c], .int .i64 x] w (GivesBC (remV e n j P x e) (remV e n j P x n) (remV e n j P x j) (remA e n j P x) (remC e n j P x) w) := by
  by_cases hg : remC e n j P x = 0
  · obtain ⟨ha, hv⟩ := rem_good hg
    rw [ha, hv, hv, hv, hg]
    exact specRemove_good e n j A c P B x w h hB hn hc0 hg
  · obtain ⟨ha, hv⟩ := rem_bad hg
    rw [ha, hv, hv, hv]
    exact specRemove_bad e n j A c P B x w h hB hn hg
end Go.Proofs.Ytpklmhffgbgakaa
