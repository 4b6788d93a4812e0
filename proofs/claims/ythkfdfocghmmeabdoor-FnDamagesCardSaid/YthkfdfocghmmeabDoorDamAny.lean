/- The functions of chapter 6 as the law FnDamages meets them: one contract each, whether they succeed or not; and the helpers of the laws. -/
import Derived.Test.YthkfdfocghmmeabDoorDamFacts
import Derived.Test.YthkfdfocghmmeabDoorRepImpl
import Derived.Test.YthkfdfocghmmeabDoorSame
namespace Go.Proofs.YthkfdfocghmmeabDoor
open Go.ChangeShapes Go.WideShapes Go.ChangeAt Go.RowKit

theorem Ints.step {w w' : World} {A : Option Addr} {xs : List Int} (h : Ints w w.heap.size A xs) (hb : Below w.heap.size w w') : Ints w' w'.heap.size A xs := (h.below hb).more hb.size
theorem row_ints {w : World} {A : Option Addr} {ys : List Int} {b : Nat} (h : 0 < ys.length → ∃ g ex, A = some ⟨g, 0, none⟩ ∧ b ≤ g ∧ Row w g ys ex) : Ints w w.heap.size A ys := fun hn => by
  obtain ⟨g, ex, rfl, _, hr⟩ := h hn
  exact (hr.ints.more hr.lt) hn

theorem f6big_any (A : Option Addr) (n c : Nat) (w : World) (hn : n ≤ 9223372036854775807) :
    Calls Tryd.prog 4 #[.slice A n c] w fun e w' => e = .returned (.bool (decide (4096 < n))) ∧ w = w' := by
  by_cases h : 4096 < n
  · have h' : (4096 : Int) < (n : Int) := by omega
    rw [decide_eq_true h]
    go_enter Tryd.func4, Tryd.ntmps4
    go_wp2
    go_ret
    exact ⟨rfl, rfl⟩
  · have h' : ¬ (4096 : Int) < (n : Int) := by omega
    rw [decide_eq_false h]
    go_enter Tryd.func4, Tryd.ntmps4
    go_wp2
    go_ret
    exact ⟨rfl, rfl⟩

theorem f6ints_any (A A' : Option Addr) (c c' : Nat) (xs ys : List Int) (B B' : Nat) (w : World) (h : Ints w B A xs) (h' : Ints w B' A' ys) (hn : xs.length ≤ 1048576) (hn' : ys.length ≤ 140737488355328) :
    Calls Tryd.prog 18 #[.slice A xs.length c, .slice A' ys.length c'] w fun e w' => e = .returned (.bool (decide (xs = ys))) ∧ ∃ n, w' = w.drewN n := by
  by_cases hl : xs.length = ys.length
  · obtain ⟨n, hN⟩ : ∃ n, xs.length = n := ⟨_, rfl⟩
    obtain ⟨r, hr⟩ : ∃ r, decide (xs = ys) = r := ⟨_, rfl⟩
    rw [hr]
    rw [hN] at hn ⊢
    rw [← hl, hN]
    have H := Lib.hid h
    have H' := Lib.hid h'
    have HN := Lib.hid hN
    have HL := Lib.hid hl
    have HR := Lib.hid hr
    clear h h' hN hl hr
    go_enter Tryd.func18, Tryd.ntmps18
    go_wp2
    go_loopw [5] (fun i wr => ∃ k m : Nat, k ≤ n ∧ i = .int .i64 k ∧ wr = w.drewN m ∧ Hid (xs.take k = ys.take k)) (fun i _ => n - (intOf i).toNat)
    case atStart => exact ⟨0, 0, Nat.zero_le _, rfl, rfl, by simp [Hid]⟩
    case round =>
      obtain ⟨k, m, hk, rfl, rfl, HK⟩ := hrel
      by_cases hlt : k < n
      · have hx : k < xs.length := by rw [HN.out]; exact hlt
        have hy : k < ys.length := by rw [← HL.out, HN.out]; exact hlt
        obtain ⟨b, off, rfl, hb, hcell⟩ := H.out (by omega)
        obtain ⟨b', off', rfl, hb', hcell'⟩ := H'.out (by omega)
        have h1 := hcell k hx
        have h2 := hcell' k hy
        obtain ⟨x, hxx⟩ : ∃ x, xs[k]?.getD 0 = x := ⟨_, rfl⟩
        obtain ⟨y, hyy⟩ : ∃ y, ys[k]?.getD 0 = y := ⟨_, rfl⟩
        rw [hxx] at h1
        rw [hyy] at h2
        have Hx := Lib.hid hxx
        have Hy := Lib.hid hyy
        have hx' := Lib.hid hx
        have hy' := Lib.hid hy
        have hk0 : (0 : Int) ≤ (k : Int) := Int.natCast_nonneg _
        have hk1 : (k : Int) < (n : Int) := by omega
        clear hcell hcell' hxx hyy hx hy H H'
        by_cases hxy : x = y
        · have HK1 : Hid (xs.take (k + 1) = ys.take (k + 1)) := take_more xs ys k hx'.out hy'.out HK.out (by rw [Hx.out, Hy.out, hxy])
          subst hxy
          go_wp2
          go_quiet (fail)
          go_wp2
          go_roundw
          case rel => exact ⟨k + 1, _, by omega, by go_num, rfl, HK1⟩
          case measure => simp [intOf]; omega
        · obtain rfl : r = false := by rw [← HR.out]; exact parts_at xs ys k (by rw [Hx.out, Hy.out]; exact hxy)
          go_wp2
          go_quiet (fail)
          go_wp2
          go_ret
          exact ⟨rfl, _, World.drewN_drewN _ _ _⟩
      · obtain rfl : k = n := by omega
        obtain rfl : r = true := by
          rw [← HR.out]
          have := HK.out
          rw [List.take_of_length_le (by rw [HN.out]; omega), List.take_of_length_le (by rw [← HL.out, HN.out]; omega)] at this
          simpa using this
        go_wp2
        go_ret
        exact ⟨rfl, _, rfl⟩
  · have e : decide (xs = ys) = false := by
      simp only [decide_eq_false_iff_not]
      rintro rfl
      exact hl rfl
    rw [e]
    clear e
    go_enter Tryd.func18, Tryd.ntmps18
    go_wp2
    go_ret
    exact ⟨rfl, 0, rfl⟩


/-- A list, and a code. -/
def GivesLC (ys : List Int) (a : Int) (w : World) (e : Ending) (w' : World) : Prop :=
  ∃ A cap, e = .returned (.tuple #[.slice A ys.length cap, .int .i64 a]) ∧ Below w.heap.size w w' ∧ Ints w' w'.heap.size A ys
theorem givesLC_good {ys : List Int} {w w' : World} {e : Ending} (h : GivesList ys w e w') : GivesLC ys 0 w e w' := by
  obtain ⟨A, cap, he, hb, hr⟩ := h
  exact ⟨A, cap, he, hb, row_ints hr⟩
theorem givesLC_bad {a : Int} {w w' : World} {e : Ending} (h : GivesNoList a w e w') : GivesLC [] a w e w' := by
  obtain ⟨he, hb⟩ := h
  exact ⟨none, 0, he, hb, Ints.nil⟩

section
variable (A A' : Option Addr) (c c' : Nat) (xs ys : List Int) (w : World) (h : Ints w w.heap.size A xs) (h' : Ints w w.heap.size A' ys) (hn : xs.length ≤ 1048576) (hn' : ys.length ≤ 1048576)
include h h' hn hn'
theorem implAdded_any : Calls Tryd.prog 8 #[.agg #[.slice A xs.length c], .agg #[.slice A' ys.length c']] w (GivesLC (addL xs ys) (pairCode xs ys) w) := by
  by_cases e : pairCode xs ys = 0
  · rw [addL, if_pos e, e]
    exact (implAdded_good A A' c c' xs ys _ _ w h h' (Nat.le_refl _) (Nat.le_refl _) hn hn' e).mono fun _ _ => givesLC_good
  · rw [addL, if_neg e]
    exact (implAdded_bad A A' c c' xs ys _ _ w h h' (Nat.le_refl _) (Nat.le_refl _) hn hn' e).mono fun _ _ => givesLC_bad
theorem specAdded_any : Calls Tryd.prog 9 #[.agg #[.slice A xs.length c], .agg #[.slice A' ys.length c']] w (GivesLC (addL xs ys) (pairCode xs ys) w) := by
  by_cases e : pairCode xs ys = 0
  · rw [addL, if_pos e, e]
    exact (specAdded_good A A' c c' xs ys _ _ w h h' (Nat.le_refl _) (Nat.le_refl _) hn hn' e).mono fun _ _ => givesLC_good
  · rw [addL, if_neg e]
    exact (specMore_bad 9 (Or.inl rfl) A A' c c' xs ys _ _ w h h' (Nat.le_refl _) (Nat.le_refl _) hn hn' e).mono fun _ _ => givesLC_bad
theorem implLost_any : Calls Tryd.prog 10 #[.agg #[.slice A xs.length c], .agg #[.slice A' ys.length c']] w (GivesLC (lostL xs ys) (pairCode xs ys) w) := by
  by_cases e : pairCode xs ys = 0
  · rw [lostL, if_pos e, e]
    exact (implLost_good A A' c c' xs ys _ _ w h h' (Nat.le_refl _) (Nat.le_refl _) hn hn' e).mono fun _ _ => givesLC_good
  · rw [lostL, if_neg e]
    exact (implLost_bad A A' c c' xs ys _ _ w h h' (Nat.le_refl _) (Nat.le_refl _) hn hn' e).mono fun _ _ => givesLC_bad
theorem specLost_any : Calls Tryd.prog 11 #[.agg #[.slice A xs.length c], .agg #[.slice A' ys.length c']] w (GivesLC (lostL xs ys) (pairCode xs ys) w) := by
  by_cases e : pairCode xs ys = 0
  · rw [lostL, if_pos e, e]
    exact (specLost_good A A' c c' xs ys _ _ w h h' (Nat.le_refl _) (Nat.le_refl _) hn hn' e).mono fun _ _ => givesLC_good
  · rw [lostL, if_neg e]
    exact (specMore_bad 11 (Or.inr rfl) A A' c c' xs ys _ _ w h h' (Nat.le_refl _) (Nat.le_refl _) hn hn' e).mono fun _ _ => givesLC_bad
theorem implAdded_back : Calls Tryd.prog 8 #[.agg #[.slice A' ys.length c'], .agg #[.slice A xs.length c]] w (GivesLC (lostL xs ys) (pairCode xs ys) w) := by
  have := implAdded_any A' A c' c ys xs w h' h hn' hn
  rwa [add_lost, pairCode_comm ys xs] at this
theorem implDist_back : Calls Tryd.prog 6 #[.agg #[.slice A' ys.length c'], .agg #[.slice A xs.length c]] w fun e w' => e = .returned (.tuple #[.int .i64 (distV xs ys), .int .i64 (pairCode xs ys)]) ∧ Below w.heap.size w w' := by
  have := implDist_any A' A c' c ys xs _ _ w h' h (Nat.le_refl _) (Nat.le_refl _) hn' hn
  rwa [distV_comm, pairCode_comm ys xs] at this
end

/-- A card, a number and a code. -/
def GivesCNC (ys : List Int) (r a : Int) (w : World) (e : Ending) (w' : World) : Prop :=
  ∃ A cap, e = .returned (.tuple #[.agg #[.slice A ys.length cap], .int .i64 r, .int .i64 a]) ∧ Below w.heap.size w w' ∧ Ints w' w'.heap.size A ys
theorem specRep_any (A : Option Addr) (c : Nat) (xs : List Int) (w : World) (h : Ints w w.heap.size A xs) (hn : xs.length ≤ 1048576) : Calls Tryd.prog 14 #[.agg #[.slice A xs.length c]] w (GivesCNC (repV xs) (repN xs) (repC xs) w) := by
  cases e : okB xs
  · rw [repV, repN, repC, e]
    exact (specRepair_bad A c xs _ w h (Nat.le_refl _) hn e).mono fun _ _ ⟨he, hb⟩ => ⟨none, 0, he, hb, Ints.nil⟩
  · rw [repV, repN, repC, e]
    exact (specRepair_good A c xs _ w h (Nat.le_refl _) hn e).mono fun _ _ ⟨g, cap, ex, he, _, hb, hr⟩ => ⟨_, cap, he, hb, hr.ints.more hr.lt⟩
theorem implRep_any (A : Option Addr) (c : Nat) (xs : List Int) (w : World) (h : Ints w w.heap.size A xs) (hn : xs.length ≤ 1048576) (hp : Places w) : Calls Tryd.prog 13 #[.agg #[.slice A xs.length c]] w (GivesCNC (repV xs) (repN xs) (repC xs) w) := by
  cases e : okB xs
  · rw [repV, repN, repC, e]
    exact (implRepair_bad A c xs _ w h (Nat.le_refl _) hn e).mono fun _ _ ⟨he, hb⟩ => ⟨none, 0, he, hb, Ints.nil⟩
  · rw [repV, repN, repC, e]
    exact (implRepair_good A c xs _ w h (Nat.le_refl _) hn e hp).mono fun _ _ ⟨g, cap, ex, he, _, hb, hr⟩ => ⟨_, cap, he, hb, hr.ints.more hr.lt⟩
theorem repDist (A A' : Option Addr) (c c' : Nat) (xs : List Int) (w : World) (h : Ints w w.heap.size A xs) (h' : Ints w w.heap.size A' (repL xs)) (hn : xs.length ≤ 1048576) (e : okB xs = true) :
    Calls Tryd.prog 6 #[.agg #[.slice A xs.length c], .agg #[.slice A' (repL xs).length c']] w fun e w' => e = .returned (.tuple #[.int .i64 (distN xs (repL xs)), .int .i64 0]) ∧ Below w.heap.size w w' := by
  have := implDist_any A A' c c' xs (repL xs) _ _ w h h' (Nat.le_refl _) (Nat.le_refl _) hn (by rw [repL_length]; exact hn)
  rwa [distV, if_pos (rep_pair e), rep_pair e] at this
theorem repIll (A : Option Addr) (c : Nat) (xs : List Int) (w : World) (h : Ints w w.heap.size A (repL xs)) (hn : xs.length ≤ 1048576) (e : okB xs = true) :
    Calls Tryd.prog 20 #[.agg #[.slice A (repL xs).length c]] w fun e w' => (∃ L cap, e = .returned (.tuple #[.slice L 0 cap, .int .i64 0])) ∧ Below w.heap.size w w' := by
  refine (implIll_good A c (repL xs) _ w h (Nat.le_refl _) (by rw [repL_length]; exact hn) (rep_ok e)).mono ?_
  rw [rep_ill]
  rintro e w' ⟨L, cap, he, hb, _⟩
  exact ⟨⟨L, cap, he⟩, hb⟩
end Go.Proofs.YthkfdfocghmmeabDoor
