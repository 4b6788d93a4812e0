/- spec.l06Two and impl.checkPair answer the code of two cards that should have as many columns, for all cards of at most 1048576 columns: contracts. -/
import Derived.Test.YthkfdfocghmmeabDoorDamMath
namespace Go.Proofs.YthkfdfocghmmeabDoor
open Go.ChangeShapes Go.WideShapes Go.ChangeAt Go.RowKit

theorem l06Two_any (A A' : Option Addr) (c c' : Nat) (xs ys : List Int) (B B' p o q o' : Nat) (w : World) (hp : w.cell? ⟨p, o, none⟩ = some (.slice A xs.length c)) (hq : w.cell? ⟨q, o', none⟩ = some (.slice A' ys.length c')) (h : Ints w B A xs) (h' : Ints w B' A' ys) (hn : xs.length ≤ 1048576) (hn' : ys.length ≤ 1048576) :
    Calls Tryd.prog 24 #[.pointer (some ⟨p, o, none⟩), .pointer (some ⟨q, o', none⟩)] w fun e w' => e = .returned (.int .i64 (pairCode xs ys)) ∧ Below w.heap.size w w' := by
  have o1 := l02Ok_any A c xs B p o w hp h hn
  have o2 := l02Ok_any A' c' ys B' q o' w hq h' hn'
  have tok : True := trivial
  rcases pairCode_cases xs ys with ⟨e, hv⟩ | ⟨e, hv, hv'⟩ | ⟨e, hv, hv', hl⟩ | ⟨e, hv, hv', hl⟩
  · rw [e]
    rw [hv] at o1
    have H1 := Lib.hid o1
    clear o1 o2 h h' e hv
    go_enter Tryd.func24, Tryd.ntmps24
    go_wp2_with (go_at_call 33; refine H1.out.mono ?_; rintro e w' ⟨rfl, rfl⟩)
    go_ret
    exact ⟨rfl, Below.refl _ _⟩
  · rw [e]
    rw [hv] at o1
    rw [hv'] at o2
    have H1 := Lib.hid o1
    have H2 := Lib.hid o2
    clear o1 o2 h h' e hv hv'
    go_enter Tryd.func24, Tryd.ntmps24
    go_wp2_with (first | (go_at_call 33; have _t := tok; refine H1.out.mono ?_; rintro e w' ⟨rfl, rfl⟩; clear tok _t) | (go_at_call 33; refine H2.out.mono ?_; rintro e w' ⟨rfl, rfl⟩))
    go_ret
    exact ⟨rfl, Below.refl _ _⟩
  all_goals
    rw [e]
    rw [hv] at o1
    rw [hv'] at o2
    have H1 := Lib.hid o1
    have H2 := Lib.hid o2
    obtain ⟨n, hN⟩ : ∃ n, xs.length = n := ⟨_, rfl⟩
    obtain ⟨m, hM⟩ : ∃ m, ys.length = m := ⟨_, rfl⟩
    rw [hN, hM] at hl
    rw [hN] at hp
    rw [hM] at hq
    rw [hN] at hn
    rw [hM] at hn'
    have hnm : ((n : Int) == (m : Int)) = decide (n = m) := by
      by_cases h0 : n = m
      · subst h0; simp
      · rw [decide_eq_false h0]; simpa using (by omega : ¬ (n : Int) = m)
    first | rw [decide_eq_false hl] at hnm | rw [decide_eq_true hl] at hnm
    clear o1 o2 h h' e hv hv' hN hM hl
    go_enter Tryd.func24, Tryd.ntmps24
    go_wp2_with (first | (go_at_call 33; have _t := tok; refine H1.out.mono ?_; rintro e w' ⟨rfl, rfl⟩; clear tok _t) | (go_at_call 33; refine H2.out.mono ?_; rintro e w' ⟨rfl, rfl⟩))
    go_region
    all_goals
      go_wp2
      go_ret
      exact ⟨rfl, below_drewN (Below.refl _ _) 1⟩

theorem checkPair_any (A A' : Option Addr) (c c' : Nat) (xs ys : List Int) (B B' : Nat) (w : World) (h : Ints w B A xs) (h' : Ints w B' A' ys) (hB : B ≤ w.heap.size) (hB' : B' ≤ w.heap.size) (hn : xs.length ≤ 1048576) (hn' : ys.length ≤ 1048576) :
    Calls Tryd.prog 22 #[.agg #[.slice A xs.length c], .agg #[.slice A' ys.length c']] w fun e w' => e = .returned (.int .i64 (pairCode xs ys)) ∧ Below w.heap.size w w' := by
  have i1 := (h.alloc hB (.cells #[.slice A xs.length c] 26)).alloc (by simp; omega) (.cells #[.slice A' ys.length c'] 26)
  have o1 := implValidCard_any A c xs B _ i1 (by simp; omega) hn
  have o2 := fun W hI hb => implValidCard_any A' c' ys B' W hI hb hn'
  have HJ := Lib.hid h'
  rcases pairCode_cases xs ys with ⟨e, hv⟩ | ⟨e, hv, hv'⟩ | ⟨e, hv, hv', hl⟩ | ⟨e, hv, hv', hl⟩
  · rw [e]
    rw [hv] at o1
    have H1 := Lib.hid o1
    clear o1 o2 i1 h h' e hv HJ
    go_enter Tryd.func22, Tryd.ntmps22
    go_wp2_with fail
    refine H1.out.mono ?_
    rintro e w1 ⟨rfl, hb⟩
    have B1 := Lib.hid (below_step ((below_box w _).alloc (by simp) _) hb)
    clear hb
    go_wp2
    go_ret
    exact ⟨rfl, B1.out⟩
  · rw [e]
    rw [hv] at o1
    rw [hv'] at o2
    have H1 := Lib.hid o1
    have H2 := Lib.hid o2
    clear o1 o2 i1 h h' e hv hv'
    go_enter Tryd.func22, Tryd.ntmps22
    go_wp2_with fail
    refine H1.out.mono ?_
    rintro e w1 ⟨rfl, hb⟩
    have B1 := Lib.hid (below_step ((below_box w _).alloc (by simp) _) hb)
    have d1 := cell_kept (p := ⟨w.heap.size + 1, 0, none⟩) (v := .slice A' ys.length c') (by simp [go_sem]) hb
    clear hb H1
    go_wp2_with fail
    refine (H2.out _ (HJ.out.below (B1.out.mono hB')) (Nat.le_trans hB' B1.out.size)).mono ?_
    rintro e w2 ⟨rfl, hb⟩
    have B2 := Lib.hid (below_step B1.out hb)
    clear hb
    go_wp2
    go_ret
    exact ⟨rfl, B2.out⟩
  all_goals
    rw [e]
    rw [hv] at o1
    rw [hv'] at o2
    have H1 := Lib.hid o1
    have H2 := Lib.hid o2
    obtain ⟨n, hN⟩ : ∃ n, xs.length = n := ⟨_, rfl⟩
    obtain ⟨m, hM⟩ : ∃ m, ys.length = m := ⟨_, rfl⟩
    rw [hN, hM] at hl
    have hnm : ((n : Int) == (m : Int)) = decide (n = m) := by
      by_cases h0 : n = m
      · subst h0; simp
      · rw [decide_eq_false h0]; simpa using (by omega : ¬ (n : Int) = m)
    first | rw [decide_eq_false hl] at hnm | rw [decide_eq_true hl] at hnm
    rw [hN, hM] at H1
    rw [hM] at H2
    rw [hN] at hn ⊢
    rw [hM] at hn' ⊢
    clear o1 o2 i1 h h' e hv hv' hN hM hl
    go_enter Tryd.func22, Tryd.ntmps22
    go_wp2_with fail
    refine H1.out.mono ?_
    rintro e w1 ⟨rfl, hb⟩
    have B1 := Lib.hid (below_step ((below_box w _).alloc (by simp) _) hb)
    have c1 := cell_kept (p := ⟨w.heap.size, 0, none⟩) (v := .slice A n c) (by simp [go_sem]) hb
    have d1 := cell_kept (p := ⟨w.heap.size + 1, 0, none⟩) (v := .slice A' m c') (by simp [go_sem]) hb
    clear hb H1
    go_wp2_with fail
    refine (H2.out _ (HJ.out.below (B1.out.mono hB')) (Nat.le_trans hB' B1.out.size)).mono ?_
    rintro e w2 ⟨rfl, hb⟩
    have B2 := Lib.hid (below_step B1.out hb)
    have c2 := cell_kept c1 hb
    have d2 := cell_kept d1 hb
    clear hb c1 d1 H2
    go_wp2
    go_ret
    exact ⟨rfl, B2.out⟩
end Go.Proofs.YthkfdfocghmmeabDoor
