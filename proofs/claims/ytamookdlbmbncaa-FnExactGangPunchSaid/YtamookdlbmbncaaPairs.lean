/- Pairs of cards in memory, one that is read and one that is punched; lists that stay while a block turns. No function of the program is spoken of. -/
import Derived.Test.YtamookdlbmbncaaNewRows
import Derived.Test.YtamookdlbmbncaaCopyMem
import Derived.Test.YtamookdlbmbncaaCopyMath
namespace Go.Proofs.Ytamookdlbmbncaa
open Go.ChangeShapes Go.WideShapes Go.ChangeAt Go.RowKit

theorem info_pair : (Try.prog.info? 94).map (fun i => (i.zero, i.size, i.bytes)) = some (some (.agg #[.slice none 0 0, .slice none 0 0]), 2, 48) := by kernel_rfl

/-- two lists, one behind the other -/
def zipC : List CardV → List CardV → List CardV
  | e :: E, k :: K => e :: k :: zipC E K
  | _, _ => []
theorem zipC_nil (K : List CardV) : zipC [] K = [] := by cases K <;> rfl
theorem zipC_length : ∀ (E K : List CardV), E.length ≤ K.length → (zipC E K).length = 2 * E.length
  | [], K, _ => by simp [zipC_nil]
  | e :: E, [], h => by simp at h
  | e :: E, k :: K, h => by
    have := zipC_length E K (by simpa using h)
    simp only [zipC, List.length_cons, this]
    omega
theorem zipC_more : ∀ (E K : List CardV) (e q : CardV), K[E.length]? = some q → zipC (E ++ [e]) K = zipC E K ++ [e] ++ [q]
  | [], [], e, q, h => by simp at h
  | [], k :: K, e, q, h => by
    obtain rfl : k = q := by simpa using h
    simp [zipC]
  | x :: E, [], e, q, h => by simp at h
  | x :: E, k :: K, e, q, h => by
    have := zipC_more E K e q (by simpa using h)
    simp only [List.cons_append, zipC, this]
theorem zipC_fst : ∀ (E K : List CardV) (k : Nat) (e : CardV), E.length ≤ K.length → E[k]? = some e → (zipC E K)[k * 2]? = some e
  | [], _, k, e, _, h => by simp at h
  | x :: E, [], k, e, hl, _ => by simp at hl
  | x :: E, y :: K, 0, e, _, h => by simpa [zipC] using h
  | x :: E, y :: K, k + 1, e, hl, h => by
    have := zipC_fst E K k e (by simpa using hl) (by simpa using h)
    rw [zipC, show (k + 1) * 2 = k * 2 + 1 + 1 by omega]
    simpa using this
theorem zipC_snd : ∀ (E K : List CardV) (k : Nat) (q : CardV), k < E.length → K[k]? = some q → (zipC E K)[k * 2 + 1]? = some q
  | [], _, k, q, hl, h => by simp at hl
  | x :: E, [], k, q, _, h => by simp at h
  | x :: E, y :: K, 0, q, _, h => by simpa [zipC] using h
  | x :: E, y :: K, k + 1, q, hl, h => by
    have := zipC_snd E K k q (by simpa using hl) (by simpa using h)
    rw [zipC, show (k + 1) * 2 + 1 = k * 2 + 1 + 1 + 1 by omega]
    simpa using this

/-- the block g holds the pairs of the cards R that are read and of the others D -/
def PairRow (w : World) (g : Nat) (R D : List CardV) (n : Nat) : Prop := w.heap[g]? = some (.cells (cellsOf (zipC R D) (2 * n)).toArray 94 (0, 0))
section
variable {w w' : World} {g n : Nat} {R D : List CardV}
theorem PairRow.lt (h : PairRow w g R D n) : g < w.heap.size := by
  rcases Nat.lt_or_ge g w.heap.size with hlt | hge
  · exact hlt
  · unfold PairRow at h
    rw [Array.getElem?_eq_none hge] at h
    cases h
theorem PairRow.later (h : PairRow w g R D n) (hb : Below w.heap.size w w') : PairRow w' g R D n := (hb.block g h.lt).trans h
theorem PairRow.cell (h : PairRow w g R D n) (i : Nat) : w.cell? ⟨g, i, none⟩ = (cellsOf (zipC R D) (2 * n))[i]? := by
  rw [cell_of_row w g i _ _ _ h]
  simp
theorem PairRow.frozen (h : PairRow w g R D n) (i : Nat) : w.frozen? ⟨g, i, none⟩ = false := by
  unfold PairRow at h
  simp [World.frozen?, h]
theorem PairRow.fst (h : PairRow w g R D n) (hl : R.length ≤ D.length) {k : Nat} {e : CardV} (he : R[k]? = some e) : w.cell? ⟨g, k * 2, none⟩ = some e.value := by
  rw [h.cell, cellsOf_get _ _ _ e (zipC_fst R D k e hl he)]
theorem PairRow.snd (h : PairRow w g R D n) {k : Nat} {q : CardV} (hk : k < R.length) (hq : D[k]? = some q) : w.cell? ⟨g, k * 2 + 1, none⟩ = some q.value := by
  rw [h.cell, cellsOf_get _ _ _ q (zipC_snd R D k q hk hq)]
theorem pair_put {X : List CardV} {m : Nat} (h : w.heap[g]? = some (.cells (cellsOf X m).toArray 94 (0, 0))) (e q : CardV) (hn : X.length + 1 < m) : ((w.setCell ⟨g, X.length, none⟩ e.value).setCell ⟨g, X.length + 1, none⟩ q.value).heap[g]? = some (.cells (cellsOf (X ++ [e] ++ [q]) m).toArray 94 (0, 0)) := by
  have h1 : (w.setCell ⟨g, X.length, none⟩ e.value).heap[g]? = some (.cells (cellsOf (X ++ [e]) m).toArray 94 (0, 0)) := by
    simp only [World.setCell, Array.getElem?_modify, if_true, h, Option.map_some]
    congr 2
    apply Array.ext'
    simp [cellsOf_set X m e (by omega)]
  have hl : X.length + 1 = (X ++ [e]).length := by simp
  rw [hl]
  simp only [World.setCell, Array.getElem?_modify, if_true] at h1 ⊢
  rw [h1]
  simp only [Option.map_some]
  congr 2
  apply Array.ext'
  have := cellsOf_set (X ++ [e]) m q (by simp; omega)
  rw [← hl] at this
  simpa using this
theorem PairRow.put {k : Nat} (h : PairRow w g (R.take k) D n) (hk : k < n) (hR : n ≤ R.length) (hD : n ≤ D.length) {e q : CardV} (he : R[k]? = some e) (hq : D[k]? = some q) : PairRow ((w.setCell ⟨g, k * 2, none⟩ e.value).setCell ⟨g, k * 2 + 1, none⟩ q.value) g (R.take (k + 1)) D n := by
  have hl : (R.take k).length = k := by simp; omega
  have hz : (zipC (R.take k) D).length = k * 2 := by rw [zipC_length _ _ (by omega), hl]; omega
  have := pair_put (m := 2 * n) h e q (by omega)
  rw [hz] at this
  unfold PairRow
  rw [List.take_add_one, he]
  show _ = some (Obj.cells (cellsOf (zipC (R.take k ++ [e]) D) (2 * n)).toArray _ _)
  rw [zipC_more _ _ _ q (by rw [hl]; exact hq)]
  exact this

theorem Ints.only {B : Nat} {A : Option Addr} {xs : List Int} (h : Ints w B A xs) (hg : w.grownBy w' (some g)) (hB : B ≤ g) : Ints w' B A xs := fun h0 => by
  obtain ⟨b, off, e, hb, hc⟩ := h h0
  exact ⟨b, off, e, hb, fun i hi => cell_only hg (hc i hi) (by show b ≠ g; omega)⟩
theorem Copies.only {B : Nat} {A : Option Addr} {P : List (Int × Int)} (h : Copies w B A P) (hg : w.grownBy w' (some g)) (hB : B ≤ g) : Copies w' B A P := fun h0 => by
  obtain ⟨b, off, e, hb, hc⟩ := h h0
  exact ⟨b, off, e, hb, fun i d hi => ⟨cell_only hg (hc i d hi).1 (by show b ≠ g; omega), cell_only hg (hc i d hi).2 (by show b ≠ g; omega)⟩⟩
theorem Copies.alloc {B : Nat} {A : Option Addr} {P : List (Int × Int)} (h : Copies w B A P) (hB : B ≤ w.heap.size) (o : Obj) : Copies (w.alloc o) B A P := h.below ((below_box w o).mono hB)
theorem Copies.more {B B' : Nat} {A : Option Addr} {P : List (Int × Int)} (h : Copies w B A P) (hB : B ≤ B') : Copies w B' A P := fun h0 => by
  obtain ⟨b, off, e, hb, hc⟩ := h h0
  exact ⟨b, off, e, by omega, hc⟩
end
end Go.Proofs.Ytamookdlbmbncaa
