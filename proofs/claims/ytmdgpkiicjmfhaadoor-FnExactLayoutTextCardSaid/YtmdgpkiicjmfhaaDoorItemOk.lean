/- Whether an item is one for cards of so many columns: contracts of spec.l04Item and spec.l04Meet. -/
import Derived.Test.YtmdgpkiicjmfhaaDoorItems
import Derived.Test.YtmdgpkiicjmfhaaDoorNames
import Derived.Test.YtmdgpkiicjmfhaaDoorFieldOf
import Derived.Test.YtmdgpkiicjmfhaaDoorBits
import Derived.Deep.QuietTactic
import Derived.BigQuiet
import Derived.IntWalk
namespace Go.Proofs.YtmdgpkiicjmfhaaDoor
open Go.ChangeShapes Go.WideShapes Go.ChangeAt Go.RowKit

/-- whether two fields have a column in common -/
def meetB (a b c d : Int) : Bool := decide (a < d) && decide (c < b)
theorem l04Meet_any (a b c d : Int) (w : World) :
    Calls Tryd.prog 49 #[.agg #[.int .i64 a, .int .i64 b], .agg #[.int .i64 c, .int .i64 d]] w fun e w' => e = .returned (.bool (meetB a b c d)) ∧ Below w.heap.size w w' := by
  by_cases h1 : a < d
  · by_cases h2 : c < b
    · have e : meetB a b c d = true := by simp [meetB, h1, h2]
      rw [e]
      clear e
      go_enter Tryd.func49, Tryd.ntmps49
      go_wp2
      go_ret
      exact ⟨rfl, (below_box w _).alloc (by simp) _⟩
    · have e : meetB a b c d = false := by simp [meetB, h2]
      rw [e]
      clear e
      go_enter Tryd.func49, Tryd.ntmps49
      go_wp2
      go_ret
      exact ⟨rfl, (below_box w _).alloc (by simp) _⟩
  · have e : meetB a b c d = false := by simp [meetB, h1]
    rw [e]
    clear e
    go_enter Tryd.func49, Tryd.ntmps49
    go_wp2
    go_ret
    exact ⟨rfl, (below_box w _).alloc (by simp) _⟩

/-- whether d is an item of cards of n columns -/
def itemB (d : It) (n : Int) : Bool := nameB d.name && (inB d.kind 1 2 && (fieldB d.f0 d.f1 n && (decide (d.kind = 1) || decide (d.f1 - d.f0 ≤ 12))))

theorem l04Item_any (d : It) (b o : Nat) (n : Int) (w : World) (c0 : w.cell? ⟨b, o, none⟩ = some (.string d.name)) (c1 : w.cell? ⟨b, o + 1, none⟩ = some (.int .i64 d.kind)) (c2 : w.cell? ⟨b, o + 2, none⟩ = some (.int .i64 d.f0)) (c3 : w.cell? ⟨b, o + 3, none⟩ = some (.int .i64 d.f1)) (hn : n ≤ 9223372036854775807) :
    Calls Tryd.prog 48 #[.pointer (some ⟨b, o, none⟩), .int .i64 n] w fun e w' => e = .returned (.bool (itemB d n)) ∧ Below w.heap.size w w' := by
  obtain ⟨nm, kd, f0, f1⟩ := d
  have hN := fun W => specIsName_any nm W
  have hI := fun W => in_any kd 1 2 W
  have hF := fun W => l02Field_any f0 f1 n W
  obtain ⟨v, hv⟩ : ∃ v, itemB ⟨nm, kd, f0, f1⟩ n = v := ⟨_, rfl⟩
  rw [hv]
  unfold itemB at hv
  cases h1 : nameB nm
  · obtain rfl : v = false := by rw [← hv]; simp [h1]
    rw [h1] at hN
    have HN := Lib.hid hN
    clear hN hI hF hv h1
    go_enter Tryd.func48, Tryd.ntmps48
    go_wp2_with (go_at_call 69; refine (HN.out _).mono ?_; rintro e w' ⟨rfl, rfl⟩)
    go_ret
    exact ⟨rfl, Below.refl _ _⟩
  · cases h2 : inB kd 1 2
    · obtain rfl : v = false := by rw [← hv]; simp [h2]
      rw [h1] at hN
      rw [h2] at hI
      have HN := Lib.hid hN
      have HI := Lib.hid hI
      clear hN hI hF hv h1 h2
      go_enter Tryd.func48, Tryd.ntmps48
      go_wp2_with (first | (go_at_call 69; refine (HN.out _).mono ?_; rintro e w' ⟨rfl, rfl⟩) | (go_at_call 47; refine (HI.out _).mono ?_; rintro e w' ⟨rfl, rfl⟩))
      go_ret
      exact ⟨rfl, Below.refl _ _⟩
    · cases h3 : fieldB f0 f1 n
      · obtain rfl : v = false := by rw [← hv]; simp [h3]
        rw [h1] at hN
        rw [h2] at hI
        rw [h3] at hF
        have HN := Lib.hid hN
        have HI := Lib.hid hI
        have HF := Lib.hid hF
        clear hN hI hF hv h1 h2 h3
        go_enter Tryd.func48, Tryd.ntmps48
        go_wp2_with (first | (go_at_call 69; refine (HN.out _).mono ?_; rintro e w' ⟨rfl, rfl⟩) | (go_at_call 47; refine (HI.out _).mono ?_; rintro e w' ⟨rfl, rfl⟩) | (go_at_call 70; refine (HF.out _).mono ?_; rintro e w' ⟨rfl, hb⟩; have HB := Lib.hid hb; clear hb))
        go_ret
        exact ⟨rfl, HB.out⟩
      · have hv' : (decide (kd = 1) || decide (f1 - f0 ≤ 12)) = v := by rw [← hv]; simp [h1, h2, h3]
        have hf : 0 ≤ f0 ∧ f0 < f1 ∧ f1 ≤ n := by
          simp only [fieldB, Bool.and_eq_true, decide_eq_true_eq] at h3
          exact h3
        obtain ⟨q0, q1, q2⟩ := hf
        rw [h1] at hN
        rw [h2] at hI
        rw [h3] at hF
        have HN := Lib.hid hN
        have HI := Lib.hid hI
        have HF := Lib.hid hF
        clear hN hI hF hv h1 h2 h3
        by_cases hk : kd = 1
        · obtain rfl : v = true := by rw [← hv']; simp [hk]
          subst hk
          clear hv'
          go_enter Tryd.func48, Tryd.ntmps48
          go_wp2_with (first | (go_at_call 69; refine (HN.out _).mono ?_; rintro e w' ⟨rfl, rfl⟩) | (go_at_call 47; refine (HI.out _).mono ?_; rintro e w' ⟨rfl, rfl⟩) | (go_at_call 70; refine (HF.out _).mono ?_; rintro e w' ⟨rfl, hb⟩; have HB := Lib.hid hb; have c0 := cell_kept c0 hb; have c1 := cell_kept c1 hb; have c2 := cell_kept c2 hb; have c3 := cell_kept c3 hb; clear hb))
          go_quiet (fail)
          go_wp2
          go_ret
          exact ⟨rfl, below_drewN HB.out _⟩
        · have hk' : (kd == 1) = false := by simpa using hk
          have hk2 : decide (kd = 1) = false := by simpa using hk
          rw [hk2, Bool.false_or] at hv'
          have hw : IntKind.i64.wrap (f1 - f0) = f1 - f0 := IntWalk.i64_in _ (by omega)
          subst hv'
          go_enter Tryd.func48, Tryd.ntmps48
          go_wp2_with (first | (go_at_call 69; refine (HN.out _).mono ?_; rintro e w' ⟨rfl, rfl⟩) | (go_at_call 47; refine (HI.out _).mono ?_; rintro e w' ⟨rfl, rfl⟩) | (go_at_call 70; refine (HF.out _).mono ?_; rintro e w' ⟨rfl, hb⟩; have HB := Lib.hid hb; have c0 := cell_kept c0 hb; have c1 := cell_kept c1 hb; have c2 := cell_kept c2 hb; have c3 := cell_kept c3 hb; clear hb))
          go_quiet (fail)
          go_wp2
          go_ret
          exact ⟨rfl, below_drewN HB.out _⟩

theorem isItemFor_any (d : It) (n : Int) (w : World) (hn : n ≤ 9223372036854775807) :
    Calls Tryd.prog 52 #[d.val, .int .i64 n] w fun e w' => e = .returned (.bool (itemB d n)) ∧ Below w.heap.size w w' := by
  obtain ⟨nm, kd, f0, f1⟩ := d
  show Calls Tryd.prog 52 #[.agg #[.string nm, .int .i64 kd, .int .i64 f0, .int .i64 f1], .int .i64 n] w _
  have hN := fun W => implIsName_any nm W
  have hF := fun W => isFieldOf_any f0 f1 n W
  have B0 := Lib.hid (below_box w (.cells #[.string nm, .int .i64 kd, .int .i64 f0, .int .i64 f1] 51))
  have c0 : (w.alloc (.cells #[.string nm, .int .i64 kd, .int .i64 f0, .int .i64 f1] 51)).cell? ⟨w.heap.size, 0, none⟩ = some (.string nm) := by simp [go_sem]
  have c1 : (w.alloc (.cells #[.string nm, .int .i64 kd, .int .i64 f0, .int .i64 f1] 51)).cell? ⟨w.heap.size, 1, none⟩ = some (.int .i64 kd) := by simp [go_sem]
  have c2 : (w.alloc (.cells #[.string nm, .int .i64 kd, .int .i64 f0, .int .i64 f1] 51)).cell? ⟨w.heap.size, 2, none⟩ = some (.int .i64 f0) := by simp [go_sem]
  have c3 : (w.alloc (.cells #[.string nm, .int .i64 kd, .int .i64 f0, .int .i64 f1] 51)).cell? ⟨w.heap.size, 3, none⟩ = some (.int .i64 f1) := by simp [go_sem]
  obtain ⟨v, hv⟩ : ∃ v, itemB ⟨nm, kd, f0, f1⟩ n = v := ⟨_, rfl⟩
  rw [hv]
  unfold itemB at hv
  cases h1 : nameB nm
  · obtain rfl : v = false := by rw [← hv]; simp [h1]
    rw [h1] at hN
    have HN := Lib.hid hN
    clear hN hF hv h1
    go_enter Tryd.func52, Tryd.ntmps52
    go_wp2_with fail
    refine (HN.out _).mono ?_
    rintro e w1 ⟨rfl, hb⟩
    have HB := Lib.hid (below_step B0.out hb)
    clear hb
    go_wp2
    go_ret
    exact ⟨rfl, HB.out⟩
  · cases h3 : fieldB f0 f1 n
    · obtain rfl : v = false := by rw [← hv]; simp [h3]
      rw [h1] at hN
      rw [h3] at hF
      have HN := Lib.hid hN
      have HF := Lib.hid hF
      clear hN hF hv h1 h3
      go_enter Tryd.func52, Tryd.ntmps52
      go_wp2_with fail
      refine (HN.out _).mono ?_
      rintro e w1 ⟨rfl, hb⟩
      have HB := Lib.hid (below_step B0.out hb)
      replace c2 := cell_kept c2 hb
      replace c3 := cell_kept c3 hb
      clear hb
      go_wp2_with fail
      refine (HF.out _).mono ?_
      rintro e w2 ⟨rfl, hb⟩
      have HB2 := Lib.hid (below_step HB.out hb)
      clear hb
      go_wp2
      go_ret
      exact ⟨rfl, HB2.out⟩
    · have hf : 0 ≤ f0 ∧ f0 < f1 ∧ f1 ≤ n := by
        simp only [fieldB, Bool.and_eq_true, decide_eq_true_eq] at h3
        exact h3
      obtain ⟨q0, q1, q2⟩ := hf
      have hv' : (inB kd 1 2 && (decide (kd = 1) || decide (f1 - f0 ≤ 12))) = v := by rw [← hv]; simp [h1, h3]
      have hw : IntKind.i64.wrap (f1 - f0) = f1 - f0 := IntWalk.i64_in _ (by omega)
      have hv2 : v = (decide (kd = 1) || (decide (kd = 2) && decide (f1 - f0 ≤ 12))) := by
        rw [← hv']
        by_cases k1 : kd = 1
        · subst k1
          simp [inB]
        · by_cases k2 : kd = 2
          · subst k2
            simp [inB]
          · have : inB kd 1 2 = false := by
              simp only [inB, Bool.and_eq_false_iff, decide_eq_false_iff_not]
              omega
            simp [this, k1, k2]
      rw [h1] at hN
      rw [h3] at hF
      have HN := Lib.hid hN
      have HF := Lib.hid hF
      clear hN hF hv h1 h3 hv'
      have HV := Lib.hid hv2
      clear hv2
      have hk : kd = 1 ∨ (kd ≠ 1 ∧ kd = 2) ∨ (kd ≠ 1 ∧ kd ≠ 2) := by omega
      rcases hk with hk | ⟨hk, hk2⟩ | ⟨hk, hk2⟩
      all_goals
        first | subst hk2 | subst hk | skip
        go_enter Tryd.func52, Tryd.ntmps52
        go_wp2_with fail
        refine (HN.out _).mono ?_
        rintro e w1 ⟨rfl, hb⟩
        have HB := Lib.hid (below_step B0.out hb)
        replace c1 := cell_kept c1 hb
        replace c2 := cell_kept c2 hb
        replace c3 := cell_kept c3 hb
        clear hb
        go_wp2_with fail
        refine (HF.out _).mono ?_
        rintro e w2 ⟨rfl, hb⟩
        have HB2 := Lib.hid (below_step HB.out hb)
        replace c1 := cell_kept c1 hb
        replace c2 := cell_kept c2 hb
        replace c3 := cell_kept c3 hb
        clear hb
        go_wp2
        go_ret
        refine ⟨ret_bool ?_, HB2.out⟩
        rw [HV.out]
        simp [*]
end Go.Proofs.YtmdgpkiicjmfhaaDoor
