/- How many columns the cards of a deck have: spec.l07Width and impl.widthOf: contracts. -/
import Derived.Test.YtamookdlbmbncaaDoorDeckValid
namespace Go.Proofs.YtamookdlbmbncaaDoor
open Go.ChangeShapes Go.WideShapes Go.ChangeAt Go.RowKit

/-- how many columns the cards have, 20 where there are none -/
def widthH (H : List (List Int)) : Nat := if H.length = 0 then 20 else firstZ H

theorem deck_width {H : List (List Int)} (h : deckB H = true) {k : Nat} {xs : List Int} (hk : H[k]? = some xs) : okB xs = true ∧ xs.length = widthH H := by
  rw [deckB, Bool.and_eq_true] at h
  have hm := List.mem_of_getElem? hk
  have := List.all_eq_true.1 h.1 xs hm
  rw [goodB, Bool.and_eq_true, decide_eq_true_eq] at this
  have h0 : H.length ≠ 0 := by
    intro e
    rw [List.length_eq_zero_iff] at e
    rw [e] at hm
    cases hm
  rw [widthH, if_neg h0]
  exact this
theorem deck_len {H : List (List Int)} (h : deckB H = true) : H.length ≤ 40 := by
  rw [deckB, Bool.and_eq_true, decide_eq_true_eq] at h
  exact h.2

theorem widthOf_any (A : Option Addr) (c : Nat) (D : List CardV) (B : Nat) (w : World) (h : Deck w B A D) (hn : D.length ≤ 1048576) (hl : ∀ d ∈ D, d.xs.length ≤ 1048576) :
    Calls Tryd.prog 33 #[.slice A D.length c] w fun e w' => e = .returned (.int .i64 (widthH (holes D))) ∧ Below w.heap.size w w' := by
  by_cases h0 : D.length = 0
  · have e : widthH (holes D) = 20 := by simp [widthH, holes, h0]
    rw [e, h0]
    clear h hl e h0 hn
    go_enter Tryd.func33, Tryd.ntmps33
    go_wp2
    go_ret
    exact ⟨rfl, Below.refl _ _⟩
  · obtain ⟨d, hd⟩ : ∃ d, D[0]? = some d := ⟨D[0]'(by omega), List.getElem?_eq_getElem _⟩
    have e : widthH (holes D) = d.xs.length := by
      rw [widthH, if_neg (by simpa [holes] using h0)]
      simp [firstZ, holes, hd]
    rw [e]
    obtain ⟨b, off, rfl, hb, hcell⟩ := h (by omega)
    have hc : w.cell? ⟨b, off, none⟩ = some d.value := (hcell 0 d hd).1
    have hm := hl d (List.mem_of_getElem? hd)
    unfold CardV.value at hc
    obtain ⟨n, hN⟩ : ∃ n, D.length = n := ⟨_, rfl⟩
    obtain ⟨m, hM⟩ : ∃ m, d.xs.length = m := ⟨_, rfl⟩
    rw [hM] at hc hm ⊢
    rw [hN] at hn h0 ⊢
    have i0 : ((n : Int) == 0) = false := by simp; omega
    have i1 : (0 : Int) < (n : Int) := by omega
    clear hcell hl e hd hb hN hM h
    go_enter Tryd.func33, Tryd.ntmps33
    go_wp2
    go_ret
    exact ⟨rfl, Below.refl _ _⟩
end Go.Proofs.YtamookdlbmbncaaDoor
