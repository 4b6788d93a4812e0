/- Plain facts of columns with one hole more: its number of holes, the hole, what is overlaid with a blank card or with itself. -/
import Derived.Test.YtjfogadcedgndaaCount
import Derived.Test.YtjfogadcedgndaaPunch
import Derived.Test.YtjfogadcedgndaaOver
import Derived.Test.YtjfogadcedgndaaDraw
namespace Go.Proofs.Ytjfogadcedgndaa
open Go.ChangeShapes Go.WideShapes Go.ChangeAt Go.RowKit

/-- the rows of a column from the top -/
def rowsL : List Int := [12, 11, 0, 1, 2, 3, 4, 5, 6, 7, 8, 9]
def rowAt (r : Nat) : Int := rowsL[r]?.getD 0
theorem rowAt_bit : ∀ r : Fin 12, rowBit (rowAt r.val) = 2 ^ r.val := by decide +kernel

def holeFact (m r : Nat) : Bool :=
  bits .and .i64 (m : Int) (2 ^ r) != 0 || (decide (0 ≤ bits .or .i64 (m : Int) (2 ^ r)) && (decide (bits .or .i64 (m : Int) (2 ^ r) ≤ 4095) && (decide (popc 12 (bits .or .i64 (m : Int) (2 ^ r)).toNat = popc 12 m + 1) && bits .and .i64 (bits .or .i64 (m : Int) (2 ^ r)) (2 ^ r) != 0)))
theorem holeFact_all : ∀ (r : Fin 12) (a b : Fin 64), holeFact (64 * a.val + b.val) r.val = true := by decide +kernel
theorem holeFact_of (m r : Nat) (hm : m ≤ 4095) (hr : r < 12) : holeFact m r = true := by
  have e : 64 * (m / 64) + m % 64 = m := by omega
  have := holeFact_all ⟨r, hr⟩ ⟨m / 64, by omega⟩ ⟨m % 64, by omega⟩
  simp only [e] at this
  exact this
theorem orSelf_all : ∀ a b : Fin 64, bits .or .i64 ((64 * a.val + b.val : Nat) : Int) ((64 * a.val + b.val : Nat) : Int) = ((64 * a.val + b.val : Nat) : Int) ∧ bits .or .i64 ((64 * a.val + b.val : Nat) : Int) 0 = ((64 * a.val + b.val : Nat) : Int) := by decide +kernel
theorem orSelf (m : Nat) (hm : m ≤ 4095) : bits .or .i64 (m : Int) (m : Int) = m ∧ bits .or .i64 (m : Int) 0 = m := by
  have e : 64 * (m / 64) + m % 64 = m := by omega
  have := orSelf_all ⟨m / 64, by omega⟩ ⟨m % 64, by omega⟩
  simp only [e] at this
  exact this

theorem orOf_self : ∀ (l : List Int), maskOk l → orOf l l = l
  | [], _ => rfl
  | x :: xs, h => by
    have h0 := h x (List.mem_cons_self ..)
    obtain ⟨m, rfl⟩ : ∃ m : Nat, x = m := ⟨x.toNat, by omega⟩
    rw [orOf, (orSelf m (by omega)).1, orOf_self xs (fun y hy => h y (List.mem_cons_of_mem _ hy))]
theorem orOf_blank : ∀ (l : List Int), maskOk l → orOf l (List.replicate l.length 0) = l
  | [], _ => rfl
  | x :: xs, h => by
    have h0 := h x (List.mem_cons_self ..)
    obtain ⟨m, rfl⟩ : ∃ m : Nat, x = m := ⟨x.toNat, by omega⟩
    rw [List.length_cons, List.replicate_succ, orOf, (orSelf m (by omega)).2, orOf_blank xs (fun y hy => h y (List.mem_cons_of_mem _ hy))]

theorem countN_set : ∀ (l : List Int) (k : Nat) (y : Int), k < l.length → countN (l.set k y) + popc 12 (l[k]?.getD 0).toNat = countN l + popc 12 y.toNat
  | [], _, _, h => by simp at h
  | x :: xs, 0, y, _ => by simp [countN]; omega
  | x :: xs, k + 1, y, h => by
    have := countN_set xs k y (by simpa using h)
    simp only [countN, List.set_cons_succ, List.map_cons, List.sum_cons, List.getElem?_cons_succ] at this ⊢
    omega
theorem maskOk_set {l : List Int} (h : maskOk l) (k : Nat) {y : Int} (hy : 0 ≤ y ∧ y ≤ 4095) : maskOk (l.set k y) := by
  intro x hx
  rcases List.mem_or_eq_of_mem_set hx with h1 | rfl
  · exact h x h1
  · exact hy
theorem maskOk_at {l : List Int} (h : maskOk l) {k : Nat} (hk : k < l.length) : ∃ m : Nat, l[k]?.getD 0 = m ∧ m ≤ 4095 := by
  have e : l[k]?.getD 0 = l[k] := by rw [List.getElem?_eq_getElem hk]; rfl
  have := h l[k] (List.getElem_mem hk)
  exact ⟨l[k].toNat, by rw [e]; omega, by omega⟩
theorem okB_mask {l : List Int} (h : maskOk l) (h1 : 1 ≤ l.length) (h2 : l.length ≤ 6) : okB l = true := by
  simp only [okB, legalB, inB, maskB, Bool.and_eq_true, decide_eq_true_eq, List.all_eq_true]
  exact ⟨fun x hx => h x hx, by omega, by omega⟩

theorem okB_zeros (m : Nat) (h1 : 1 ≤ m) (h2 : m ≤ 6) : okB (List.replicate m 0) = true :=
  okB_mask (fun x hx => by obtain rfl := List.eq_of_mem_replicate hx; omega) (by simp; omega) (by simp; omega)

/-- what is known of a card with one hole more -/
theorem punched_facts {l : List Int} (h : maskOk l) {k r : Nat} (hk : k < l.length) (hr : r < 12) (hh : holeB l k (rowAt r) = false) {ys : List Int} (hys : l.set k (bits .or .i64 (l[k]?.getD 0) (rowBit (rowAt r))) = ys) :
    maskOk ys ∧ ys.length = l.length ∧ countN ys = countN l + 1 ∧ holeB ys k (rowAt r) = true ∧ ys[k]?.getD 0 = bits .or .i64 (l[k]?.getD 0) (rowBit (rowAt r)) := by
  obtain ⟨m, em, hm⟩ := maskOk_at h hk
  have hf := holeFact_of m r hm hr
  have hb : rowBit (rowAt r) = 2 ^ r := rowAt_bit ⟨r, hr⟩
  rw [holeB, Int.toNat_natCast, em, hb] at hh
  rw [em, hb] at hys
  rw [holeFact, hh, Bool.false_or] at hf
  simp only [Bool.and_eq_true, decide_eq_true_eq] at hf
  obtain ⟨f1, f2, f3, f4⟩ := hf
  have hg : ys[k]?.getD 0 = bits .or .i64 (m : Int) (2 ^ r) := by rw [← hys, List.getElem?_set_self hk]; rfl
  refine ⟨by rw [← hys]; exact maskOk_set h k ⟨f1, f2⟩, by rw [← hys]; simp, ?_, ?_, by rw [hg, em, hb]⟩
  · have := countN_set l k (bits .or .i64 (m : Int) (2 ^ r)) hk
    rw [hys, em, f3] at this
    simp only [Int.toNat_natCast] at this
    omega
  · rw [holeB, Int.toNat_natCast, hg, hb]
    exact f4
end Go.Proofs.Ytjfogadcedgndaa
