/- The order of a deck by a field: how two places compare, and the one list of places that is sorted and stable. -/
import Derived.Test.YtamookdlbmbncaaSymMath
import Derived.Test.YtamookdlbmbncaaCmpMath
import Derived.Test.YtamookdlbmbncaaSortStep
namespace Go.Proofs.Ytamookdlbmbncaa
open Go.ChangeShapes Go.WideShapes Go.ChangeAt Go.RowKit

/-- how two places compare -/
def cfK (H : List (List Int)) (i j : Nat) (x y : Int) : Int := cmpK H i j x.toNat y.toNat
def okK (n : Nat) (x : Int) : Prop := 0 ≤ x ∧ x < n
theorem ord_K (H : List (List Int)) (i j n : Nat) : Ord (cfK H i j) (okK n) where
  neg _ _ _ _ := cmpTo_neg _ _ _
  lt x y z _ _ _ h1 h2 h3 := (cmpTo_down (partOf (H[x.toNat]?.getD []) i j) (partOf (H[y.toNat]?.getD []) i j) (partOf (H[z.toNat]?.getD []) i j) (j - i)).2 ⟨h1, h2, h3⟩
  eq x y z _ _ _ h1 h2 := (cmpTo_down (partOf (H[x.toNat]?.getD []) i j) (partOf (H[y.toNat]?.getD []) i j) (partOf (H[z.toNat]?.getD []) i j) (j - i)).1 ⟨h1, h2⟩

/-- the places of n cards -/
def identL (n : Nat) : List Int := (List.range n).map fun (k : Nat) => (k : Int)
theorem identL_length (n : Nat) : (identL n).length = n := by simp [identL]
theorem identL_succ (n : Nat) : identL (n + 1) = identL n ++ [(n : Int)] := by simp [identL, List.range_succ]
theorem identL_mem {n : Nat} {x : Int} : x ∈ identL n ↔ okK n x := by
  unfold identL okK
  rw [List.mem_map]
  constructor
  · rintro ⟨k, hk, rfl⟩
    have := List.mem_range.1 hk
    omega
  · intro h
    exact ⟨x.toNat, List.mem_range.2 (by omega), by omega⟩
theorem identL_rise : ∀ n, (identL n).Pairwise (· < ·)
  | 0 => List.Pairwise.nil
  | n + 1 => by
    rw [identL_succ, List.pairwise_append]
    refine ⟨identL_rise n, List.pairwise_singleton _ _, fun x hx y hy => ?_⟩
    obtain rfl : y = n := by simpa using hy
    exact (identL_mem.1 hx).2
/-- the sorted places -/
noncomputable def orderV (H : List (List Int)) (i j : Nat) : List Int := by
  classical
  exact if h : ∃ M : List Int, M.Perm (identL H.length) ∧ Srt (cfK H i j) M then Classical.choose h else []
theorem orderV_eq {H : List (List Int)} {i j : Nat} {M : List Int} (p : M.Perm (identL H.length)) (s : Srt (cfK H i j) M) : orderV H i j = M := by
  classical
  have h : ∃ M : List Int, M.Perm (identL H.length) ∧ Srt (cfK H i j) M := ⟨M, p, s⟩
  have e : orderV H i j = Classical.choose h := by
    unfold orderV
    rw [dif_pos h]
  obtain ⟨p', s'⟩ := Classical.choose_spec h
  rw [e]
  exact srt_unique (ord_K H i j H.length) (fun x hx => identL_mem.1 (p'.subset hx)) s' s (p'.trans p.symm)
theorem orderV_spec {H : List (List Int)} {i j : Nat} {M : List Int} (p : M.Perm (identL H.length)) (s : Srt (cfK H i j) M) : (orderV H i j).Perm (identL H.length) ∧ Srt (cfK H i j) (orderV H i j) := by
  rw [orderV_eq p s]
  exact ⟨p, s⟩
/-- what OrderBy answers -/
noncomputable def orderA (H : List (List Int)) (a b : Int) : List Int := if keysC H a b = 0 then orderV H a.toNat b.toNat else []
theorem orderA_length (H : List (List Int)) (a b : Int) : (orderA H a b).length ≤ 40 := by
  unfold orderA
  by_cases h : keysC H a b = 0
  · rw [if_pos h]
    obtain ⟨i, j, rfl, rfl, _, _, hv, _⟩ := keysC_zero h
    unfold orderV
    split
    · rename_i hh
      obtain ⟨p, _⟩ := Classical.choose_spec hh
      rw [p.length_eq, identL_length]
      exact deck_len hv
    · simp
  · rw [if_neg h]; simp
end Go.Proofs.Ytamookdlbmbncaa
