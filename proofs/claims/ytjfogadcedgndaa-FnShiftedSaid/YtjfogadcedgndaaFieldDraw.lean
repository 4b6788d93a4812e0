/- What spec.l02DrawField gives: some field; nothing but the source's block turns, and new blocks. -/
import Derived.Test.YtjfogadcedgndaaBentDraw
import Derived.Test.YtjfogadcedgndaaDrawProg
namespace Go.Proofs.Ytjfogadcedgndaa
open Go.ChangeShapes Go.WideShapes Go.ChangeAt Go.RowKit

theorem l00Max_any (a b : Int) (w : World) : Calls Try.prog 121 #[.int .i64 a, .int .i64 b] w fun e w' => e = .returned (.int .i64 (if b < a then a else b)) ∧ w = w' := by
  by_cases h : b < a
  · rw [if_pos h]
    go_enter Try.func121, Try.ntmps121
    go_wp2
    go_ret
    exact ⟨rfl, rfl⟩
  · rw [if_neg h]
    go_enter Try.func121, Try.ntmps121
    go_wp2
    go_ret
    exact ⟨rfl, rfl⟩

/-- What a drawing of a field leaves. -/
def DrawsField (B g K : Nat) (w : World) (e : Ending) (w' : World) : Prop :=
  ∃ f t : Int, e = .returned (.agg #[.int .i64 f, .int .i64 t]) ∧ w.grownBy w' (some g) ∧ Src w' B g K

set_option maxRecDepth 100000 in
set_option maxHeartbeats 4000000 in
theorem l02DrawField_any (B g k n : Nat) (w : World) (h : Src w B g k) (hk : k ≤ 90000) (hn : n ≤ 64) :
    Calls Try.prog 93 #[.pointer (some ⟨g, 0, none⟩), .int .i64 n] w (DrawsField B g (k + 12) w) := by
  have hglt := h.lt
  have HO := Lib.hid (one_any (w.alloc (.cells #[.int .i64 0, .int .i64 0] 70)) B g k 12 (h.boxed _) (by omega) (by omega) (by omega))
  have c0 : (w.alloc (.cells #[.int .i64 0, .int .i64 0] 70)).cell? ⟨w.heap.size, 0, none⟩ = some (.int .i64 0) := by simp [go_sem]
  have d0 : (w.alloc (.cells #[.int .i64 0, .int .i64 0] 70)).cell? ⟨w.heap.size, 1, none⟩ = some (.int .i64 0) := by simp [go_sem]
  have f0 : (w.alloc (.cells #[.int .i64 0, .int .i64 0] 70)).frozen? ⟨w.heap.size, 0, none⟩ = false := by simp [go_sem]
  have e0 : (w.alloc (.cells #[.int .i64 0, .int .i64 0] 70)).frozen? ⟨w.heap.size, 1, none⟩ = false := by simp [go_sem]
  clear h
  go_enter Try.func93, Try.ntmps93
  go_wp2_with fail
  refine HO.out.mono ?_
  rintro e w1 ⟨b, rfl, hg, hs⟩
  have G1 := Lib.hid (only_step (only_box w (.cells #[.int .i64 0, .int .i64 0] 70) g) hg)
  have S1 := Lib.hid hs
  have c1 := cell_only hg c0 (by show w.heap.size ≠ g; omega)
  have d1 := cell_only hg d0 (by show w.heap.size ≠ g; omega)
  have f1 := frozen_only hg c0 f0 (by show w.heap.size ≠ g; omega)
  have e1 := frozen_only hg d0 e0 (by show w.heap.size ≠ g; omega)
  clear hg hs HO c0 d0 f0 e0
  cases b
  · obtain ⟨m, hm⟩ : ∃ m : Nat, (if (n : Int) < 1 then (1 : Int) else (n : Int)) = m := by
      by_cases h : (n : Int) < 1
      · exact ⟨1, by rw [if_pos h]; rfl⟩
      · exact ⟨n, by rw [if_neg h]⟩
    have hm1 : 1 ≤ m ∧ m ≤ 64 := by
      by_cases h : (n : Int) < 1
      · rw [if_pos h] at hm; omega
      · rw [if_neg h] at hm; omega
    have hx := fun W => l00Max_any 1 n W
    rw [hm] at hx
    have HX := Lib.hid hx
    have HP := Lib.hid (pick_any w1 B g (k + 2) m S1.out (by omega) (by omega) (by omega))
    clear hx hm
    go_wp2_with fail
    refine (HX.out _).mono ?_
    rintro e w' ⟨rfl, rfl⟩
    go_wp2_with fail
    refine HP.out.mono ?_
    rintro e w2 ⟨r, rfl, hr0, hr1, hg, hs⟩
    have G2 := Lib.hid (only_step G1.out hg)
    have S2 := Lib.hid hs
    have c2 := cell_only hg c1 (by show w.heap.size ≠ g; omega)
    have d2 := cell_only hg d1 (by show w.heap.size ≠ g; omega)
    have f2 := frozen_only hg c1 f1 (by show w.heap.size ≠ g; omega)
    have e2 := frozen_only hg d1 e1 (by show w.heap.size ≠ g; omega)
    have hw1 : IntKind.i64.wrap ((n : Int) - r) = (n : Int) - r := IntWalk.i64_in _ (by omega)
    have hw2 : IntKind.i64.wrap (r + 1) = r + 1 := IntWalk.i64_in _ (by omega)
    obtain ⟨m', hm'⟩ : ∃ m : Nat, (if ((n : Int) - r) < 1 then (1 : Int) else ((n : Int) - r)) = m := by
      by_cases h : ((n : Int) - r) < 1
      · exact ⟨1, by rw [if_pos h]; rfl⟩
      · exact ⟨((n : Int) - r).toNat, by rw [if_neg h]; omega⟩
    have hm2 : 1 ≤ m' ∧ m' ≤ 64 := by
      by_cases h : ((n : Int) - r) < 1
      · rw [if_pos h] at hm'; omega
      · rw [if_neg h] at hm'; omega
    have hx := fun W => l00Max_any 1 ((n : Int) - r) W
    rw [hm'] at hx
    have HX2 := Lib.hid hx
    have HP2 := Lib.hid (pick_any w2 B g (k + 2 + 2) m' S2.out (by omega) (by omega) (by omega))
    clear hg hs hx hm' HP HX c1 d1 f1 e1
    go_wp2_with fail
    refine (HX2.out _).mono ?_
    rintro e w' ⟨rfl, rfl⟩
    go_wp2_with fail
    refine HP2.out.mono ?_
    rintro e w3 ⟨r', rfl, hr2, hr3, hg, hs⟩
    have G3 := Lib.hid (only_step G2.out hg)
    have S3 := Lib.hid hs
    have c3 := cell_only hg c2 (by show w.heap.size ≠ g; omega)
    have d3 := cell_only hg d2 (by show w.heap.size ≠ g; omega)
    have f3 := frozen_only hg c2 f2 (by show w.heap.size ≠ g; omega)
    have e3 := frozen_only hg d2 e2 (by show w.heap.size ≠ g; omega)
    have hw3 : IntKind.i64.wrap (r + 1 + r') = r + 1 + r' := IntWalk.i64_in _ (by omega)
    clear hg hs HP2 HX2 c2 d2 f2 e2
    go_wp2
    refine bodyPost_ret (v := .agg #[.int .i64 (r), .int .i64 (r + 1 + r')]) (by simp [results, Try.results93, go_sem, c3, d3]) rfl ⟨_, _, rfl, only_far (only_far G3.out ⟨w.heap.size, 0, none⟩ _ (by simp)) ⟨w.heap.size, 1, none⟩ _ (by simp), ((S3.out.far ⟨w.heap.size, 0, none⟩ _ hglt).far ⟨w.heap.size, 1, none⟩ _ hglt).more (by omega)⟩
  · have HAM := Lib.hid (among_any (w1.alloc (.cells #[.int .i64 (-1), .int .i64 0, .int .i64 1, .int .i64 n, .int .i64 9223372036854775807, .int .i64 (-9223372036854775808)] 2)) B g (k + 2) w1.heap.size 6 [-1, 0, 1, (n : Int), 9223372036854775807, -9223372036854775808] (S1.out.boxed _) (by omega) (by simp) (by simp) (Nat.ne_of_gt S1.out.lt) (fun j x hj => by
      rw [cell_of_row (w1.alloc (.cells #[.int .i64 (-1), .int .i64 0, .int .i64 1, .int .i64 n, .int .i64 9223372036854775807, .int .i64 (-9223372036854775808)] 2)) w1.heap.size j _ _ _ (heap_alloc_new w1 (.cells #[.int .i64 (-1), .int .i64 0, .int .i64 1, .int .i64 n, .int .i64 9223372036854775807, .int .i64 (-9223372036854775808)] 2))]
      match j, hj with
      | 0, hj => injection hj with hj; subst hj; rfl
      | 1, hj => injection hj with hj; subst hj; rfl
      | 2, hj => injection hj with hj; subst hj; rfl
      | 3, hj => injection hj with hj; subst hj; rfl
      | 4, hj => injection hj with hj; subst hj; rfl
      | 5, hj => injection hj with hj; subst hj; rfl))
    have c1a := cell_kept c1 (below_box w1 (.cells #[.int .i64 (-1), .int .i64 0, .int .i64 1, .int .i64 n, .int .i64 9223372036854775807, .int .i64 (-9223372036854775808)] 2))
    have d1a := cell_kept d1 (below_box w1 (.cells #[.int .i64 (-1), .int .i64 0, .int .i64 1, .int .i64 n, .int .i64 9223372036854775807, .int .i64 (-9223372036854775808)] 2))
    have f1a : (w1.alloc (.cells #[.int .i64 (-1), .int .i64 0, .int .i64 1, .int .i64 n, .int .i64 9223372036854775807, .int .i64 (-9223372036854775808)] 2)).frozen? ⟨w.heap.size, 0, none⟩ = false := by rw [(below_box w1 _).frozen (World.block_lt_of_cell? _ _ c1)]; exact f1
    have e1a : (w1.alloc (.cells #[.int .i64 (-1), .int .i64 0, .int .i64 1, .int .i64 n, .int .i64 9223372036854775807, .int .i64 (-9223372036854775808)] 2)).frozen? ⟨w.heap.size, 1, none⟩ = false := by rw [(below_box w1 _).frozen (World.block_lt_of_cell? _ _ d1)]; exact e1
    have G1a := Lib.hid (only_step G1.out (only_box w1 (.cells #[.int .i64 (-1), .int .i64 0, .int .i64 1, .int .i64 n, .int .i64 9223372036854775807, .int .i64 (-9223372036854775808)] 2) g))
    go_wp2_with fail
    refine HAM.out.mono ?_
    rintro e w2 ⟨x, _, rfl, hg, hs⟩
    have G2 := Lib.hid (only_step G1a.out hg)
    have S2 := Lib.hid hs
    have c2 := cell_only hg c1a (by show w.heap.size ≠ g; omega)
    have d2 := cell_only hg d1a (by show w.heap.size ≠ g; omega)
    have f2 := frozen_only hg c1a f1a (by show w.heap.size ≠ g; omega)
    have e2 := frozen_only hg d1a e1a (by show w.heap.size ≠ g; omega)
    have hw1 : IntKind.i64.wrap ((n : Int) + 1) = (n : Int) + 1 := IntWalk.i64_in _ (by omega)
    have HAM2 := Lib.hid (among_any (w2.alloc (.cells #[.int .i64 0, .int .i64 1, .int .i64 n, .int .i64 ((n : Int) + 1), .int .i64 9223372036854775807] 2)) B g (k + 2 + 2) w2.heap.size 5 [0, 1, (n : Int), (n : Int) + 1, 9223372036854775807] (S2.out.boxed _) (by omega) (by simp) (by simp) (Nat.ne_of_gt S2.out.lt) (fun j x hj => by
      rw [cell_of_row (w2.alloc (.cells #[.int .i64 0, .int .i64 1, .int .i64 n, .int .i64 ((n : Int) + 1), .int .i64 9223372036854775807] 2)) w2.heap.size j _ _ _ (heap_alloc_new w2 (.cells #[.int .i64 0, .int .i64 1, .int .i64 n, .int .i64 ((n : Int) + 1), .int .i64 9223372036854775807] 2))]
      match j, hj with
      | 0, hj => injection hj with hj; subst hj; rfl
      | 1, hj => injection hj with hj; subst hj; rfl
      | 2, hj => injection hj with hj; subst hj; rfl
      | 3, hj => injection hj with hj; subst hj; rfl
      | 4, hj => injection hj with hj; subst hj; rfl))
    have c2a := cell_kept c2 (below_box w2 (.cells #[.int .i64 0, .int .i64 1, .int .i64 n, .int .i64 ((n : Int) + 1), .int .i64 9223372036854775807] 2))
    have d2a := cell_kept d2 (below_box w2 (.cells #[.int .i64 0, .int .i64 1, .int .i64 n, .int .i64 ((n : Int) + 1), .int .i64 9223372036854775807] 2))
    have f2a : (w2.alloc (.cells #[.int .i64 0, .int .i64 1, .int .i64 n, .int .i64 ((n : Int) + 1), .int .i64 9223372036854775807] 2)).frozen? ⟨w.heap.size, 0, none⟩ = false := by rw [(below_box w2 _).frozen (World.block_lt_of_cell? _ _ c2)]; exact f2
    have e2a : (w2.alloc (.cells #[.int .i64 0, .int .i64 1, .int .i64 n, .int .i64 ((n : Int) + 1), .int .i64 9223372036854775807] 2)).frozen? ⟨w.heap.size, 1, none⟩ = false := by rw [(below_box w2 _).frozen (World.block_lt_of_cell? _ _ d2)]; exact e2
    have G2a := Lib.hid (only_step G2.out (only_box w2 (.cells #[.int .i64 0, .int .i64 1, .int .i64 n, .int .i64 ((n : Int) + 1), .int .i64 9223372036854775807] 2) g))
    clear hg hs HAM c1 d1 f1 e1 c1a d1a f1a e1a
    go_wp2_with fail
    refine HAM2.out.mono ?_
    rintro e w3 ⟨y, _, rfl, hg, hs⟩
    have G3 := Lib.hid (only_step G2a.out hg)
    have S3 := Lib.hid hs
    have c3 := cell_only hg c2a (by show w.heap.size ≠ g; omega)
    have d3 := cell_only hg d2a (by show w.heap.size ≠ g; omega)
    have f3 := frozen_only hg c2a f2a (by show w.heap.size ≠ g; omega)
    have e3 := frozen_only hg d2a e2a (by show w.heap.size ≠ g; omega)
    clear hg hs HAM2 c2 d2 f2 e2 c2a d2a f2a e2a
    go_wp2
    refine bodyPost_ret (v := .agg #[.int .i64 (x), .int .i64 (y)]) (by simp [results, Try.results93, go_sem, c3, d3]) rfl ⟨_, _, rfl, only_far (only_far G3.out ⟨w.heap.size, 0, none⟩ _ (by simp)) ⟨w.heap.size, 1, none⟩ _ (by simp), ((S3.out.far ⟨w.heap.size, 0, none⟩ _ hglt).far ⟨w.heap.size, 1, none⟩ _ hglt).more (by omega)⟩
end Go.Proofs.Ytjfogadcedgndaa
