/- Pairs of cards in memory, one that is read and one that is punched; lists that stay while a block turns. No function of the program is spoken of. -/
import Derived.Test.YtamookdlbmbncaaDoorNewRows
import Derived.Test.YtamookdlbmbncaaDoorCopyMem
import Derived.Test.YtamookdlbmbncaaDoorCopyMath
namespace Go.Proofs.YtamookdlbmbncaaDoor
open Go.ChangeShapes Go.WideShapes Go.ChangeAt Go.RowKit

/-- two lists, one behind the other -/
def zipC : List CardV → List CardV → List CardV
  | e :: E, k :: K => e :: k :: zipC E K
  | _, _ => []
theorem zipC_nil (K : List CardV) : zipC [] K = [] := by cases K <;> rfl
theorem zipC_length : ∀ (E K : List CardV), E.length ≤ K.length → (zipC E K).length = 2 * E.length
  | [], K, _ => by simp [zipC_nil]
  | e :: E, [], h => by simp at h
  | e :: E, k :: K, h => by
    have := zipC_length E K (by simpa using h)
    simp only [zipC, List.length_cons, this]
    omega
theorem zipC_more : ∀ (E K : List CardV) (e q : CardV), K[E.length]? = some q → zipC (E ++ [e]) K = zipC E K ++ [e] ++ [q]
  | [], [], e, q, h => by simp at h
  | [], k :: K, e, q, h => by
    obtain rfl : k = q := by simpa using h
    simp [zipC]
  | x :: E, [], e, q, h => by simp at h
  | x :: E, k :: K, e, q, h => by
    have := zipC_more E K e q (by simpa using h)
    simp only [List.cons_append, zipC, this]
theorem zipC_fst : ∀ (E K : List CardV) (k : Nat) (e : CardV), E.length ≤ K.length → E[k]? = some e → (zipC E K)[k * 2]? = some e
  | [], _, k, e, _, h => by simp at h
  | x :: E, [], k, e, hl, _ => by simp at hl
  | x :: E, y :: K, 0, e, _, h => by simpa [zipC] using h
  | x :: E, y :: K, k + 1, e, hl, h => by
    have := zipC_fst E K k e (by simpa using hl) (by simpa using h)
    rw [zipC, show (k + 1) * 2 = k * 2 + 1 + 1 by omega]
    simpa using this
theorem zipC_snd : ∀ (E K : List CardV) (k : Nat) (q : CardV), k < E.length → K[k]? = some q → (zipC E K)[k * 2 + 1]? = some q
  | [], _, k, q, hl, h => by simp at hl
  | x :: E, [], k, q, _, h => by simp at h
  | x :: E, y :: K, 0, q, _, h => by simpa [zipC] using h
  | x :: E, y :: K, k + 1, q, hl, h => by
    have := zipC_snd E K k q (by simpa using hl) (by simpa using h)
    rw [zipC, show (k + 1) * 2 + 1 = k * 2 + 1 + 1 + 1 by omega]
    simpa using this

section
variable {w w' : World} {g n : Nat} {R D : List CardV}

theorem Ints.only {B : Nat} {A : Option Addr} {xs : List Int} (h : Ints w B A xs) (hg : w.grownBy w' (some g)) (hB : B ≤ g) : Ints w' B A xs := fun h0 => by
  obtain ⟨b, off, e, hb, hc⟩ := h h0
  exact ⟨b, off, e, hb, fun i hi => cell_only hg (hc i hi) (by show b ≠ g; omega)⟩
theorem Copies.only {B : Nat} {A : Option Addr} {P : List (Int × Int)} (h : Copies w B A P) (hg : w.grownBy w' (some g)) (hB : B ≤ g) : Copies w' B A P := fun h0 => by
  obtain ⟨b, off, e, hb, hc⟩ := h h0
  exact ⟨b, off, e, hb, fun i d hi => ⟨cell_only hg (hc i d hi).1 (by show b ≠ g; omega), cell_only hg (hc i d hi).2 (by show b ≠ g; omega)⟩⟩
theorem Copies.alloc {B : Nat} {A : Option Addr} {P : List (Int × Int)} (h : Copies w B A P) (hB : B ≤ w.heap.size) (o : Obj) : Copies (w.alloc o) B A P := h.below ((below_box w o).mono hB)
theorem Copies.more {B B' : Nat} {A : Option Addr} {P : List (Int × Int)} (h : Copies w B A P) (hB : B ≤ B') : Copies w B' A P := fun h0 => by
  obtain ⟨b, off, e, hb, hc⟩ := h h0
  exact ⟨b, off, e, by omega, hc⟩
end
end Go.Proofs.YtamookdlbmbncaaDoor
