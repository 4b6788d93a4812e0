/- spec.l07Step finds the first text that is less than the one before it; spec.FirstStep and spec.IsSorted answer so for a deck and a field: contracts. -/
import Derived.Test.YtamookdlbmbncabDoorSortKeys
namespace Go.Proofs.YtamookdlbmbncabDoor
open Go.ChangeShapes Go.WideShapes Go.ChangeAt Go.RowKit

theorem holes_at {D : List CardV} {k : Nat} {d : CardV} (h : D[k]? = some d) : (holes D)[k]? = some d.xs := by simp [holes, h]
theorem cmpK_at {D : List CardV} {i j p q : Nat} {d e : CardV} (h : D[p]? = some d) (h' : D[q]? = some e) : cmpK (holes D) i j p q = cmpTo (partOf d.xs i j) (partOf e.xs i j) (j - i) := by
  rw [cmpK, holes_at h, holes_at h']
  rfl
/-- one round of the search -/
theorem step_yes {H : List (List Int)} {i j t n : Nat} {r : Int} (hs : stepFrom (lessB H i j) (n - (t + 1)) (t + 1) = r) (ht : t + 1 < n) (hl : cmpK H i j (t + 1) t < 0) : r = ((t + 1 : Nat) : Int) := by
  rw [show n - (t + 1) = (n - (t + 1) - 1) + 1 by omega, stepFrom_succ, if_pos (by simpa [lessB] using hl)] at hs
  exact hs.symm
theorem step_no {H : List (List Int)} {i j t n : Nat} {r : Int} (hs : stepFrom (lessB H i j) (n - (t + 1)) (t + 1) = r) (ht : t + 1 < n) (hl : ¬ cmpK H i j (t + 1) t < 0) : stepFrom (lessB H i j) (n - (t + 1 + 1)) (t + 1 + 1) = r := by
  rw [show n - (t + 1) = (n - (t + 1 + 1)) + 1 by omega, stepFrom_succ, if_neg (by simpa [lessB] using hl)] at hs
  exact hs
theorem step_end {q : Nat → Bool} {t n : Nat} {r : Int} (hs : stepFrom q (n - (t + 1)) (t + 1) = r) (ht : ¬ t + 1 < n) : r = -1 := by
  rw [show n - (t + 1) = 0 by omega] at hs
  exact hs.symm

set_option maxHeartbeats 1000000 in
theorem l07Step_any (A : Option Addr) (c : Nat) (D : List CardV) (i j : Nat) (w : World) (hr : 0 < D.length → ∃ g, A = some ⟨g, 0, none⟩ ∧ g < w.heap.size ∧ KeyRow w g D i j) (hv : deckB (holes D) = true) (hk : keysB (holes D) i j = true) (hij : i < j) (hj : j ≤ widthH (holes D)) :
    Calls Tryd.prog 18 #[.slice A D.length c] w fun e w' => e = .returned (.int .i64 (stepV (holes D) i j)) ∧ Below w.heap.size w w' := by
  obtain ⟨r, hrr⟩ : ∃ r, stepV (holes D) i j = r := ⟨_, rfl⟩
  rw [hrr]
  rw [stepV, show (holes D).length = D.length by simp [holes]] at hrr
  have hn40 : D.length ≤ 40 := by
    have := deck_len hv
    simpa [holes] using this
  obtain ⟨n, hN⟩ : ∃ n, D.length = n := ⟨_, rfl⟩
  rw [hN] at hrr hn40 hr ⊢
  have HR := Lib.hid hr
  have HN := Lib.hid hN
  have HV := Lib.hid hv
  have HK := Lib.hid hk
  have HRR := Lib.hid hrr
  have HJ := Lib.hid hj
  clear hr hN hv hk hrr hj
  go_enter Tryd.func18, Tryd.ntmps18
  go_wp2
  go_loopw [3] (fun x wr => ∃ t : Nat, (t + 1 ≤ n ∨ t = 0) ∧ x = .int .i64 ((t : Int) + 1) ∧ Hid (Below w.heap.size w wr) ∧ Hid (stepFrom (lessB (holes D) i j) (n - (t + 1)) (t + 1) = r)) (fun x _ => n + 1 - (intOf x).toNat)
  case atStart => exact ⟨0, Or.inr rfl, rfl, Below.refl _ _, HRR⟩
  case round =>
    obtain ⟨t, ht, rfl, HB, HS⟩ := hrel
    by_cases hlt : t + 1 < n
    · obtain ⟨g, rfl, hg, hrow⟩ := HR.out (by omega)
      obtain ⟨d, hd⟩ : ∃ d, D[t + 1]? = some d := ⟨D[t + 1]'(by rw [HN.out]; exact hlt), List.getElem?_eq_getElem _⟩
      obtain ⟨e, he⟩ : ∃ e, D[t]? = some e := ⟨D[t]'(by rw [HN.out]; omega), List.getElem?_eq_getElem _⟩
      have c1 := cell_kept (hrow (t + 1) d hd) HB.out
      have c2 := cell_kept (hrow t e he) HB.out
      obtain ⟨g1, g2⟩ := deck_width HV.out (holes_at hd)
      obtain ⟨g3, g4⟩ := deck_width HV.out (holes_at he)
      have o1 := keysB_at (holes_at hd) HK.out
      have o2 := keysB_at (holes_at he) HK.out
      have l1 := partOf_length d.xs i j (by rw [g2]; exact HJ.out)
      have l2 := partOf_length e.xs i j (by rw [g4]; exact HJ.out)
      have z1 : (textS (partOf d.xs i j)).size = j - i := by rw [← l1]; exact textL_length _
      have z2 : (textS (partOf e.xs i j)).size = j - i := by rw [← l2]; exact textL_length _
      have h20 := (okB_parts g1).2
      have hc := fun W => l03Compare_any (textS (partOf d.xs i j)) (textS (partOf e.xs i j)) (partOf d.xs i j) (partOf e.xs i j) (j - i) z1 z2 l1 l2 (fun k h => textS_get _ k h) (fun k h => textS_get _ k h) o1 o2 (by have := HJ.out; omega) W
      have hck := cmpK_at (i := i) (j := j) hd he
      rw [keyS] at c1 c2
      obtain ⟨S1, e1⟩ : ∃ S, textS (partOf d.xs i j) = S := ⟨_, rfl⟩
      obtain ⟨S2, e2⟩ : ∃ S, textS (partOf e.xs i j) = S := ⟨_, rfl⟩
      obtain ⟨v, ev⟩ : ∃ v, cmpTo (partOf d.xs i j) (partOf e.xs i j) (j - i) = v := ⟨_, rfl⟩
      rw [ev] at hck
      simp only [e1, e2, ev] at hc
      rw [e1] at c1
      rw [e2] at c2
      have HC : Hid (∀ m, Calls Tryd.prog 29 #[.string S1, .string S2] (wr.drewN m) fun e w' => e = .returned (.int .i64 v) ∧ w' = wr.drewN m) := fun m => (hc _).mono fun _ _ hh => ⟨hh.1, hh.2.symm⟩
      have HCK := Lib.hid hck
      have t0 : (0 : Int) ≤ (t : Int) := Int.natCast_nonneg _
      have t1 : (t : Int) + 1 < (n : Int) := by omega
      have t2 : (t : Int) < (n : Int) := by omega
      have t3 : (0 : Int) ≤ (t : Int) + 1 := by omega
      clear hrow hd he g1 g2 g3 g4 o1 o2 l1 l2 z1 z2 h20 hc hck e1 e2 ev HR HV HK
      by_cases hv0 : v < 0
      · obtain rfl := step_yes HS.out hlt (by rw [HCK.out]; exact hv0)
        go_wp2
        go_quiet ((go_at_call 29; exact Calls.quiet_of_same (HC.out _)))
        go_wp2
        go_ret
        exact ⟨by simp, below_drewN HB.out _⟩
      · have HS1 := Lib.hid (step_no HS.out hlt (by rw [HCK.out]; exact hv0))
        go_wp2
        go_quiet ((go_at_call 29; exact Calls.quiet_of_same (HC.out _)))
        go_wp2
        go_roundw
        case rel => exact ⟨t + 1, Or.inl (by omega), by go_num, below_drewN HB.out _, HS1⟩
        case measure => simp [intOf]; omega
    · obtain rfl := step_end HS.out hlt
      have t1 : ¬ (t : Int) + 1 < (n : Int) := by omega
      go_wp2
      go_ret
      exact ⟨rfl, HB.out⟩

/-- what FirstStep answers -/
def stepA (H : List (List Int)) (a b : Int) : Int := if keysC H a b = 0 then stepV H a.toNat b.toNat else 0
def sortedA (H : List (List Int)) (a b : Int) : Bool := if keysC H a b = 0 then decide (stepV H a.toNat b.toNat < 0) else false
theorem keysC_zero {H : List (List Int)} {a b : Int} (h : keysC H a b = 0) : ∃ i j : Nat, a = i ∧ b = j ∧ i < j ∧ j ≤ widthH H ∧ deckB H = true ∧ keysB H i j = true := by
  rcases keysC_cases H a b with ⟨e, _⟩ | ⟨e, _⟩ | ⟨i, j, ha, hb, hij, hj, hv, hf, e⟩
  · rw [e] at h; exact absurd h (by decide)
  · rw [e] at h; exact absurd h (by decide)
  · refine ⟨i, j, ha, hb, hij, hj, hv, ?_⟩
    rw [e] at h
    cases hk : keysB H i j
    · rw [hk] at h; exact absurd h (by decide)
    · rfl

section
variable (A : Option Addr) (c : Nat) (D : List CardV) (B : Nat) (a b : Int) (w : World) (h : Deck w B A D) (hB : B ≤ w.heap.size) (hn : D.length ≤ 1048576) (hl : ∀ d ∈ D, d.xs.length ≤ 1048576)
include h hB hn hl

end
end Go.Proofs.YtamookdlbmbncabDoor
