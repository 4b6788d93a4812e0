/- Which passes sort always: those of which the ones that don't come again are the full plan. What the places of characters must fulfil is a premise. No function of the program is spoken of. -/
import Derived.Test.YtfffdlmpiglojaaRows
import Derived.Test.YtfffdlmpiglojaaPlanMath
namespace Go.Proofs.Ytfffdlmpiglojaa

variable (pl : Nat → Int → Int)
/-- what a pass says about the order of the characters of ranks i and k in column c, if anything -/
def saysP (c : Int) (i k : Nat) (p : Int × Int) : Option Bool :=
  if p.1 < c then none else if c < p.1 then some false else if pl i p.2 = pl k p.2 then none else some (decide (pl i p.2 < pl k p.2))
theorem says_lt {c : Int} {i k : Nat} {p : Int × Int} (h : p.1 < c) : saysP pl c i k p = none := if_pos h
theorem says_gt {c : Int} {i k : Nat} {p : Int × Int} (h : c < p.1) : saysP pl c i k p = some false := by
  rw [saysP, if_neg (by omega), if_pos h]
theorem says_eq {c : Int} {i k : Nat} {p : Int × Int} (h : p.1 = c) (e : pl i p.2 = pl k p.2) : saysP pl c i k p = none := by
  rw [saysP, if_neg (by omega), if_neg (by omega), if_pos e]
theorem says_ne {c : Int} {i k : Nat} {p : Int × Int} (h : p.1 = c) (e : pl i p.2 ≠ pl k p.2) : saysP pl c i k p = some (decide (pl i p.2 < pl k p.2)) := by
  rw [saysP, if_neg (by omega), if_neg (by omega), if_neg e]
/-- what the last pass that says anything says -/
def scanP (c : Int) (i k : Nat) : List (Int × Int) → Option Bool
  | [] => none
  | p :: P => match scanP c i k P with | some r => some r | none => saysP pl c i k p
/-- the passes that don't come again -/
def lastL : List (Int × Int) → List (Int × Int)
  | [] => []
  | p :: P => if p ∈ P then lastL P else p :: lastL P
theorem lastL_mem (p : Int × Int) : ∀ P, p ∈ lastL P ↔ p ∈ P
  | [] => Iff.rfl
  | q :: P => by
    rw [lastL]
    have ih := lastL_mem p P
    by_cases h : q ∈ P
    · rw [if_pos h, ih, List.mem_cons]
      exact ⟨Or.inr, fun h' => h'.elim (fun e => e ▸ h) id⟩
    · rw [if_neg h, List.mem_cons, List.mem_cons, ih]
theorem lastL_nodup : ∀ P, (lastL P).Nodup
  | [] => List.nodup_nil
  | q :: P => by
    rw [lastL]
    by_cases h : q ∈ P
    · rw [if_pos h]; exact lastL_nodup P
    · rw [if_neg h, List.nodup_cons, lastL_mem]
      exact ⟨h, lastL_nodup P⟩
theorem scan_none {c : Int} {i k : Nat} : ∀ {P : List (Int × Int)}, scanP pl c i k P = none → ∀ p ∈ P, saysP pl c i k p = none
  | [], _, p, hp => by cases hp
  | q :: P, h, p, hp => by
    rw [scanP] at h
    cases hs : scanP pl c i k P with
    | some r => rw [hs] at h; cases h
    | none =>
      rw [hs] at h
      rcases List.mem_cons.1 hp with rfl | hp
      · exact h
      · exact scan_none hs p hp
theorem scan_last (c : Int) (i k : Nat) : ∀ P, scanP pl c i k (lastL P) = scanP pl c i k P
  | [] => rfl
  | q :: P => by
    have ih := scan_last c i k P
    rw [lastL]
    by_cases h : q ∈ P
    · rw [if_pos h, ih, scanP]
      cases hs : scanP pl c i k P with
      | some r => rfl
      | none => exact (scan_none pl hs q h).symm
    · rw [if_neg h, scanP, scanP, ih]
theorem scan_append (c : Int) (i k : Nat) (Y : List (Int × Int)) : ∀ X, scanP pl c i k (X ++ Y) = match scanP pl c i k Y with | some r => some r | none => scanP pl c i k X
  | [] => by
    rw [List.nil_append]
    cases scanP pl c i k Y <;> rfl
  | q :: X => by
    rw [List.cons_append, scanP, scanP, scan_append c i k Y X]
    cases scanP pl c i k Y <;> rfl

theorem planTo_mem {b : Int} {p : Int × Int} : ∀ {n : Nat}, p ∈ planTo b n → b - n ≤ p.1 ∧ p.1 ≤ b - 1 ∧ (p.2 = 1 ∨ p.2 = 2)
  | 0, h => by cases h
  | n + 1, h => by
    rw [planTo_succ, List.mem_append] at h
    rcases h with h | h
    · have := planTo_mem h
      omega
    · simp only [List.mem_cons, List.not_mem_nil, or_false] at h
      rcases h with rfl | rfl <;> simp <;> omega

section
variable (F1 : ∀ i k, i < k → k < 40 → pl i 2 < pl k 2 ∨ (pl i 2 = pl k 2 ∧ pl i 1 < pl k 1))
include F1
theorem scan_plan (b c : Int) (i k : Nat) (hi : i < k) (hk : k < 40) (hc : c ≤ b - 1) : ∀ n : Nat, b - n ≤ c → scanP pl c i k (planTo b n) = some true
  | 0, h => by omega
  | n + 1, h => by
    have f := F1 i k hi hk
    rw [planTo_succ, scan_append]
    by_cases e : b - 1 - n = c
    · have hs : scanP pl c i k [(b - 1 - n, 1), (b - 1 - n, 2)] = some true := by
        rcases f with f | ⟨f, g⟩
        · simp only [scanP]
          rw [says_ne pl (p := (b - 1 - n, 2)) e (by simp only; omega)]
          simp only [decide_eq_true f]
        · simp only [scanP]
          rw [says_eq pl (p := (b - 1 - n, 2)) e f, says_ne pl (p := (b - 1 - n, 1)) e (by simp only; omega)]
          simp only [decide_eq_true g]
      rw [hs]
    · have hs : scanP pl c i k [(b - 1 - n, 1), (b - 1 - n, 2)] = none := by
        simp only [scanP]
        rw [says_lt pl (by simp only; omega), says_lt pl (by simp only; omega)]
      rw [hs]
      exact scan_plan b c i k hi hk hc n (by omega)
end

section
variable (i2 k2 i3 k3 : Nat) (h2 : i2 < k2) (h2' : k2 < 40) (h3 : i3 < k3) (h3' : k3 < 40) (F2 : pl i2 2 = pl k2 2) (F3 : pl k3 1 < pl i3 1)
include h2 h2' h3 h3' F2 F3
theorem plan_of (b : Int) : ∀ (n : Nat) (L : List (Int × Int)), L.Nodup → (∀ p ∈ L, b - n ≤ p.1 ∧ p.1 ≤ b - 1 ∧ (p.2 = 1 ∨ p.2 = 2)) →
    (∀ c, b - n ≤ c → c ≤ b - 1 → ∀ i k, i < k → k < 40 → scanP pl c i k L = some true) → L = planTo b n
  | 0, L, _, hm, _ => by
    cases L with
    | nil => rfl
    | cons p L => exfalso; have := hm p (by simp); omega
  | n + 1, L, hn, hm, hs => by
    have ha : b - (n + 1 : Nat) ≤ b - 1 := by omega
    have s3 := hs (b - (n + 1 : Nat)) (Int.le_refl _) ha i3 k3 h3 h3'
    have s2 := hs (b - (n + 1 : Nat)) (Int.le_refl _) ha i2 k2 h2 h2'
    obtain ⟨a, ea⟩ : ∃ a, b - (n + 1 : Nat) = a := ⟨_, rfl⟩
    rw [ea] at s3 s2
    rcases List.eq_nil_or_concat L with rfl | ⟨X, q, rfl⟩
    · cases s3
    · rw [List.concat_eq_append] at hn hm hs s2 s3 ⊢
      obtain ⟨q1, q2, q3⟩ := hm q (by simp)
      rw [scan_append] at s2 s3
      simp only [scanP] at s2 s3
      have hq1 : q.1 = a := by
        by_cases e : a < q.1
        · rw [says_gt pl e] at s3; cases s3
        · omega
      have hq2 : q.2 = 2 := by
        rcases q3 with q3 | q3
        · rw [says_ne pl hq1 (by rw [q3]; omega), q3] at s3
          simp only [Option.some.injEq, decide_eq_true_eq] at s3
          omega
        · exact q3
      rw [says_eq pl hq1 (by rw [hq2]; exact F2)] at s2
      simp only at s2
      rcases List.eq_nil_or_concat X with rfl | ⟨Y, r, rfl⟩
      · cases s2
      · rw [List.concat_eq_append] at hn hm hs s2 ⊢
        obtain ⟨r1, r2, r3⟩ := hm r (by simp)
        rw [scan_append] at s2
        simp only [scanP] at s2
        have hr1 : r.1 = a := by
          by_cases e : a < r.1
          · rw [says_gt pl e] at s2; cases s2
          · omega
        have hnd := hn
        rw [List.nodup_append] at hnd
        obtain ⟨hn1, _, hn2⟩ := hnd
        have hr2 : r.2 = 1 := by
          rcases r3 with r3 | r3
          · exact r3
          · exact absurd (Prod.ext (hr1.trans hq1.symm) (r3.trans hq2.symm)) (hn2 r (by simp) q (by simp))
        rw [List.nodup_append] at hn1
        obtain ⟨hnY, _, hnr⟩ := hn1
        have er : r = (a, 1) := Prod.ext hr1 hr2
        have eq' : q = (a, 2) := Prod.ext hq1 hq2
        have hY : ∀ p ∈ Y, b - n ≤ p.1 ∧ p.1 ≤ b - 1 ∧ (p.2 = 1 ∨ p.2 = 2) := fun p hp => by
          obtain ⟨p1, p2, p3⟩ := hm p (by simp [hp])
          refine ⟨?_, p2, p3⟩
          have : p.1 ≠ a := fun e => by
            rcases p3 with p3 | p3
            · exact hnr p hp r (by simp) (Prod.ext (e.trans hr1.symm) (p3.trans hr2.symm))
            · exact hn2 p (by simp [hp]) q (by simp) (Prod.ext (e.trans hq1.symm) (p3.trans hq2.symm))
          omega
        have hsY : ∀ c, b - n ≤ c → c ≤ b - 1 → ∀ i k, i < k → k < 40 → scanP pl c i k Y = some true := fun c c1 c2 i k hik hk => by
          have h := hs c (by omega) c2 i k hik hk
          rw [scan_append, scan_append] at h
          simp only [scanP] at h
          rw [says_lt pl (by omega), says_lt pl (by omega)] at h
          exact h
        have ih := plan_of b n Y hnY hY hsY
        rw [ih, planTo_succ, er, eq', show b - 1 - (n : Int) = a by omega, List.append_assoc]
        rfl
end

/-- whether the passes that don't come again are the full plan of the columns from a to b -/
def alwaysV (P : List (Int × Int)) (a b : Int) : Bool := decide (lastL P = planTo b (b - a).toNat)
theorem always_col {P : List (Int × Int)} {a b : Int} {p : Int × Int} (hab : a < b) (hp : p ∈ P) (h : ¬ (a ≤ p.1 ∧ p.1 ≤ b - 1)) : alwaysV P a b = false := by
  rw [alwaysV, decide_eq_false_iff_not]
  intro e
  have hm := (lastL_mem p P).2 hp
  rw [e] at hm
  have := planTo_mem hm
  omega
theorem always_pair (F1 : ∀ i k, i < k → k < 40 → pl i 2 < pl k 2 ∨ (pl i 2 = pl k 2 ∧ pl i 1 < pl k 1)) {P : List (Int × Int)} {a b c : Int} {i k : Nat} (h1 : a ≤ c) (h2 : c ≤ b - 1) (hi : i < k) (hk : k < 40) (h : scanP pl c i k P ≠ some true) : alwaysV P a b = false := by
  rw [alwaysV, decide_eq_false_iff_not]
  intro e
  apply h
  rw [← scan_last, e]
  exact scan_plan pl F1 b c i k hi hk h2 _ (by omega)
theorem always_all (i2 k2 i3 k3 : Nat) (h2 : i2 < k2) (h2' : k2 < 40) (h3 : i3 < k3) (h3' : k3 < 40) (F2 : pl i2 2 = pl k2 2) (F3 : pl k3 1 < pl i3 1)
    {P : List (Int × Int)} {a b : Int} (hab : a < b) (hc : ∀ p ∈ P, a ≤ p.1 ∧ p.1 ≤ b - 1) (hm : ∀ p ∈ P, p.2 = 1 ∨ p.2 = 2) (hs : ∀ c, a ≤ c → c ≤ b - 1 → ∀ i k, i < k → k < 40 → scanP pl c i k P = some true) : alwaysV P a b = true := by
  rw [alwaysV, decide_eq_true_eq]
  refine plan_of pl i2 k2 i3 k3 h2 h2' h3 h3' F2 F3 b _ _ (lastL_nodup P) (fun p hp => ?_) (fun c c1 c2 i k hik hk => ?_)
  · have hp' := (lastL_mem p P).1 hp
    have := hc p hp'
    exact ⟨by omega, this.2, hm p hp'⟩
  · rw [scan_last]
    exact hs c (by omega) c2 i k hik hk
end Go.Proofs.Ytfffdlmpiglojaa
