/- Lists of strings in memory, and laws.eqStringS, which compares two of them: for every two lists of at most 1048576 strings. -/
import Derived.Test.YtjfogadcedgndaaMem
import Derived.Deep.QuietTactic
import Derived.BigQuiet
import Derived.Laws.Strings
namespace Go.Proofs.Ytjfogadcedgndaa
open Go.ChangeShapes Go.WideShapes Go.ChangeAt Go.RowKit

/-- The strings at address A, in a block below B, are ss. -/
def Texts (w : World) (B : Nat) (A : Option Addr) (ss : List ByteArray) : Prop :=
  0 < ss.length → ∃ b off, A = some ⟨b, off, none⟩ ∧ b < B ∧ ∀ (i : Nat) (s : ByteArray), ss[i]? = some s → w.cell? ⟨b, off + i, none⟩ = some (.string s)

section
variable {w w' : World} {B B' : Nat} {A : Option Addr} {ss : List ByteArray}
theorem Texts.nil : Texts w B A [] := fun h => absurd h (by simp)
theorem Texts.moved (h : Texts w B A ss) (hk : ∀ p : Addr, p.block < B → w'.cell? p = w.cell? p) : Texts w' B A ss := fun hn => by
  obtain ⟨b, off, rfl, hb, hc⟩ := h hn
  exact ⟨b, off, rfl, hb, fun i s hi => (hk ⟨b, off + i, none⟩ hb).trans (hc i s hi)⟩
theorem Texts.more (h : Texts w B A ss) (hB : B ≤ B') : Texts w B' A ss := fun hn => by
  obtain ⟨b, off, rfl, hb, hc⟩ := h hn
  exact ⟨b, off, rfl, by omega, hc⟩
theorem Texts.below (h : Texts w B A ss) (hb : Below B w w') : Texts w' B A ss := h.moved fun _ hp => hb.cell hp
theorem Texts.drew (h : Texts w B A ss) : Texts w.drew B A ss := h
theorem Texts.drewN (h : Texts w B A ss) (n : Nat) : Texts (w.drewN n) B A ss := h
theorem Texts.alloc (h : Texts w B A ss) (hB : B ≤ w.heap.size) (o : Obj) : Texts (w.alloc o) B A ss := h.moved fun p hp => World.cell?_alloc_lt w o p (by omega)
end

theorem bytes_ext {x y : ByteArray} (h : x.toList = y.toList) : x = y := by
  rw [ByteArray.toList_eq, ByteArray.toList_eq] at h
  obtain ⟨⟨x⟩⟩ := x
  obtain ⟨⟨y⟩⟩ := y
  simpa using h

theorem take_step {α : Type} (xs ys : List α) (k : Nat) (x : α) (hx : xs[k]? = some x) (hy : ys[k]? = some x) (h : xs.take k = ys.take k) : xs.take (k + 1) = ys.take (k + 1) := by
  obtain ⟨h1, e1⟩ := List.getElem?_eq_some_iff.1 hx
  obtain ⟨h2, e2⟩ := List.getElem?_eq_some_iff.1 hy
  rw [List.take_succ_eq_append_getElem h1, List.take_succ_eq_append_getElem h2, h, e1, e2]

end Go.Proofs.Ytjfogadcedgndaa