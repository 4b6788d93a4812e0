/- The laws' helpers that write marks into a slice of int64 (or a card) and look for them again do so: contracts of laws.markInt64S, markCard, heldInt64S, heldCard, for slices of at most 1048576 elements. -/
import Derived.Test.YtpklmhffgbgakaaInts
namespace Go.Proofs.Ytpklmhffgbgakaa
open Go.ChangeShapes Go.WideShapes Go.ChangeAt Go.RowKit

/-- the n marks from k on -/
def marks (k : Int) (n : Nat) : List Int := (List.range n).map fun i : Nat => k + (i : Int)
theorem marks_length (k : Int) (n : Nat) : (marks k n).length = n := by simp [marks]
theorem marks_get (k : Int) (n i : Nat) (h : i < n) : (marks k n)[i]?.getD 0 = k + (i : Int) := by simp [marks, h]

/-- what a slice holds after j marks -/
def marked (xs : List Int) (k : Int) (j : Nat) : List Int := marks k j ++ xs.drop j
theorem marked_length (xs : List Int) (k : Int) (j : Nat) (h : j ≤ xs.length) : (marked xs k j).length = xs.length := by simp [marked, marks]; omega
theorem marked_all (xs : List Int) (k : Int) : marked xs k xs.length = marks k xs.length := by simp [marked]
theorem marked_set (xs : List Int) (k : Int) (j : Nat) (h : j < xs.length) : (marked xs k j).set j (k + (j : Int)) = marked xs k (j + 1) := by
  apply List.ext_getElem?
  intro i
  have h1 : (marks k j).length = j := marks_length k j
  have h2 : (marks k (j + 1)).length = j + 1 := marks_length k (j + 1)
  have h3 : j < (marked xs k j).length := by rw [marked_length xs k j (by omega)]; exact h
  rw [List.getElem?_set]
  unfold marked at h3 ⊢
  by_cases hi : j = i
  · subst hi
    rw [if_pos rfl, if_pos h3, List.getElem?_append_left (by omega)]
    simp [marks]
  · rw [if_neg hi]
    by_cases hlt : i < j
    · rw [List.getElem?_append_left (by omega), List.getElem?_append_left (by omega)]
      simp [marks, hlt, show i < j + 1 by omega]
    · rw [List.getElem?_append_right (by omega), List.getElem?_append_right (by omega), h1, h2, List.getElem?_drop, List.getElem?_drop]
      congr 1
      omega

theorem markInts_any (g c : Nat) (xs : List Int) (ex : List Value) (k : Int) (w : World) (h : Row w g xs ex) (h0 : 0 ≤ k) (h1 : k ≤ 1099511627776) (hn : xs.length ≤ 1048576) :
    Calls Try.prog 32 #[.slice (some ⟨g, 0, none⟩) xs.length c, .int .i64 k] w fun e w' => e = .returned (.int .i64 (k + xs.length)) ∧ w.grownBy w' (some g) ∧ Row w' g (marks k xs.length) ex := by
  have H := Lib.hid h
  clear h
  go_enter Try.func32, Try.ntmps32
  go_wp2
  go_loopw [1, 5] (fun kk i wr => ∃ j : Nat, j ≤ xs.length ∧ i = .int .i64 j ∧ kk = .int .i64 (k + j) ∧ w.grownBy wr (some g) ∧ Row wr g (marked xs k j) ex) (fun _ i _ => xs.length - (intOf i).toNat)
  case atStart => exact ⟨0, Nat.zero_le _, rfl, by simp, World.grownBy.refl w _, by simpa [marked, marks] using H.out⟩
  case round =>
    obtain ⟨j, hj, rfl, rfl, hg, hr⟩ := hrel
    by_cases hlt : j < xs.length
    · have hl := marked_length xs k j hj
      have h2 := hr.cell (i := j) (by omega)
      have h3 := hr.frozen j
      obtain ⟨u, hu⟩ : ∃ u, (marked xs k j)[j]?.getD 0 = u := ⟨_, rfl⟩
      rw [hu] at h2
      have HG := Lib.hid hg
      have HR := Lib.hid hr
      have HL := Lib.hid hl
      clear hg hr hl hu
      go_wp2
      go_roundw
      case rel =>
        refine ⟨j + 1, by omega, by go_num, by congr 1; omega, only_step HG.out (only_set _ _ _ _), ?_⟩
        rw [← marked_set xs k j hlt]
        exact HR.out.set (by rw [HL.out]; exact hlt) _
      case measure => simp [intOf]; omega
    · obtain rfl : j = xs.length := by omega
      rw [marked_all] at hr
      have HG := Lib.hid hg
      have HR := Lib.hid hr
      clear hg hr
      go_wp2
      go_ret
      exact ⟨rfl, HG.out, HR.out⟩

theorem heldInts_any (A : Option Addr) (c n B : Nat) (k : Int) (w : World) (h : Ints w B A (marks k n)) (h0 : 0 ≤ k) (h1 : k ≤ 1099511627776) (hn : n ≤ 1048576) :
    Calls Try.prog 33 #[.slice A n c, .int .i64 k] w fun e w' => e = .returned (.int .i64 (k + n)) ∧ w = w' := by
  have H := Lib.hid h
  clear h
  go_enter Try.func33, Try.ntmps33
  go_wp2
  go_loop [1, 5] (fun kk i => ∃ j : Nat, j ≤ n ∧ i = .int .i64 j ∧ kk = .int .i64 (k + j)) (fun _ i => n - (intOf i).toNat)
  case atStart => exact ⟨0, Nat.zero_le _, rfl, by simp⟩
  case round =>
    obtain ⟨j, hj, rfl, rfl⟩ := hrel
    by_cases hlt : j < n
    · obtain ⟨b, off, rfl, hb, hcell⟩ := H.out (by rw [marks_length]; omega)
      have h2 := hcell j (by rw [marks_length]; exact hlt)
      rw [marks_get k n j hlt] at h2
      clear hcell H
      go_wp2
      go_round
      case rel => exact ⟨j + 1, by omega, by go_num, by congr 1; omega⟩
      case measure => simp [intOf]; omega
    · obtain rfl : j = n := by omega
      clear H
      go_wp2
      go_ret
      exact ⟨rfl, rfl⟩

theorem markCard_any (g c : Nat) (xs : List Int) (ex : List Value) (k : Int) (w : World) (h : Row w g xs ex) (h0 : 0 ≤ k) (h1 : k ≤ 1099511627776) (hn : xs.length ≤ 1048576) :
    Calls Try.prog 50 #[.agg #[.slice (some ⟨g, 0, none⟩) xs.length c], .int .i64 k] w fun e w' => e = .returned (.int .i64 (k + xs.length)) ∧ w.grownBy w' (some g) ∧ Row w' g (marks k xs.length) ex := by
  have hc := markInts_any g c xs ex k (w.alloc (.cells #[.slice (some ⟨g, 0, none⟩) xs.length c] 58)) (h.alloc _) h0 h1 hn
  have HC := Lib.hid hc
  clear hc h
  go_enter Try.func50, Try.ntmps50
  go_wp2_with fail
  refine HC.out.mono ?_
  rintro e w' ⟨rfl, hg, hr⟩
  have HG := Lib.hid (only_step (only_box w _ g) hg)
  have HR := Lib.hid hr
  clear hg hr
  go_wp2
  go_ret
  exact ⟨rfl, HG.out, HR.out⟩

theorem markCard_nil (c : Nat) (k : Int) (w : World) :
    Calls Try.prog 50 #[.agg #[.slice none 0 c], .int .i64 k] w fun e w' => e = .returned (.int .i64 k) ∧ Below w.heap.size w w' := by
  have hc : ∀ W, Calls Try.prog 32 #[.slice none 0 c, .int .i64 k] W fun e w' => e = .returned (.int .i64 k) ∧ W = w' := fun W => by
    go_enter Try.func32, Try.ntmps32
    go_wp2
    go_loop [1, 5] (fun kk i => i = .int .i64 0 ∧ kk = .int .i64 k) (fun _ _ => 0)
    case atStart => exact ⟨rfl, rfl⟩
    case round =>
      obtain ⟨rfl, rfl⟩ := hrel
      go_wp2
      go_ret
      exact ⟨rfl, rfl⟩
  have HC := Lib.hid hc
  clear hc
  go_enter Try.func50, Try.ntmps50
  go_wp2_with (go_at_call 32; refine (HC.out _).mono ?_; rintro e w' ⟨rfl, rfl⟩)
  go_ret
  exact ⟨rfl, below_box w _⟩

theorem heldCard_any (A : Option Addr) (c n B : Nat) (k : Int) (w : World) (h : Ints w B A (marks k n)) (hB : B ≤ w.heap.size) (h0 : 0 ≤ k) (h1 : k ≤ 1099511627776) (hn : n ≤ 1048576) :
    Calls Try.prog 51 #[.agg #[.slice A n c], .int .i64 k] w fun e w' => e = .returned (.int .i64 (k + n)) ∧ Below w.heap.size w w' := by
  have hc := heldInts_any A c n B k (w.alloc (.cells #[.slice A n c] 58)) (h.alloc hB _) h0 h1 hn
  have HC := Lib.hid hc
  clear hc h
  go_enter Try.func51, Try.ntmps51
  go_wp2_with fail
  refine HC.out.mono ?_
  rintro e w' ⟨rfl, rfl⟩
  go_wp2
  go_ret
  exact ⟨rfl, below_box w _⟩
end Go.Proofs.Ytpklmhffgbgakaa
