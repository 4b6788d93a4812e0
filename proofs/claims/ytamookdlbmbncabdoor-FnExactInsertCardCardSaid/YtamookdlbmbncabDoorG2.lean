/- Sorting that keeps the order of equal ones, as lists: what stands before what, that two sorted lists of the same numbers are the same, what an insertion and a merge leave. No function of the program is spoken of. -/
import Derived.Test.YtamookdlbmbncabDoorRows
import Derived.Test.YtamookdlbmbncabDoorCompare
import Derived.Test.YtamookdlbmbncabDoorSortStep
namespace Go.Proofs.YtamookdlbmbncabDoor

/-- what an order on numbers must fulfil: a comparison that turns round, and goes on -/
structure Ord (cf : Int → Int → Int) (ok : Int → Prop) : Prop where
  neg : ∀ x y, ok x → ok y → cf x y = - cf y x
  lt : ∀ x y z, ok x → ok y → ok z → cf x y ≤ 0 → cf y z ≤ 0 → (cf x y < 0 ∨ cf y z < 0) → cf x z < 0
  eq : ∀ x y z, ok x → ok y → ok z → cf x y = 0 → cf y z = 0 → cf x z = 0
/-- x stands before y -/
def Bef (cf : Int → Int → Int) (x y : Int) : Prop := cf x y < 0 ∨ (cf x y = 0 ∧ x < y)
variable {cf : Int → Int → Int} {ok : Int → Prop}
theorem Ord.refl (h : Ord cf ok) {x : Int} (hx : ok x) : cf x x = 0 := by
  have := h.neg x x hx hx
  omega
theorem Bef.trans (h : Ord cf ok) {x y z : Int} (hx : ok x) (hy : ok y) (hz : ok z) (h1 : Bef cf x y) (h2 : Bef cf y z) : Bef cf x z := by
  rcases h1 with h1 | ⟨h1, l1⟩
  · left
    refine h.lt x y z hx hy hz (by omega) ?_ (Or.inl h1)
    rcases h2 with h2 | ⟨h2, _⟩ <;> omega
  · rcases h2 with h2 | ⟨h2, l2⟩
    · left
      exact h.lt x y z hx hy hz (by omega) (by omega) (Or.inr h2)
    · right
      exact ⟨h.eq x y z hx hy hz h1 h2, by omega⟩
theorem Bef.asymm (h : Ord cf ok) {x y : Int} (hx : ok x) (hy : ok y) (h1 : Bef cf x y) (h2 : Bef cf y x) : False := by
  have := h.neg x y hx hy
  rcases h1 with h1 | ⟨h1, l1⟩ <;> rcases h2 with h2 | ⟨h2, l2⟩ <;> omega
theorem bef_total (h : Ord cf ok) {x y : Int} (hx : ok x) (hy : ok y) (hne : x ≠ y) (h1 : ¬ Bef cf x y) : Bef cf y x := by
  have := h.neg x y hx hy
  unfold Bef at *
  omega
/-- the later one is compared with the earlier one -/
theorem bef_iff {x y : Int} (hlt : y < x) : (cf x y < 0) ↔ Bef cf x y := by
  unfold Bef
  omega
theorem bef_iff' (h : Ord cf ok) {x y : Int} (hx : ok x) (hy : ok y) (hlt : y < x) : ¬ (cf x y < 0) ↔ Bef cf y x := by
  have := h.neg x y hx hy
  unfold Bef
  omega

def Srt (cf : Int → Int → Int) (L : List Int) : Prop := L.Pairwise (Bef cf)
/-- two sorted lists of the same numbers are the same -/
theorem srt_unique (h : Ord cf ok) : ∀ {L M : List Int}, (∀ x ∈ L, ok x) → Srt cf L → Srt cf M → L.Perm M → L = M
  | [], M, _, _, _, p => by
    have := p.length_eq
    cases M with
    | nil => rfl
    | cons y M => simp at this
  | x :: L, [], _, _, _, p => by
    have := p.length_eq
    simp at this
  | x :: L, y :: M, hok, hL, hM, p => by
    have hokM : ∀ z ∈ y :: M, ok z := fun z hz => hok z (p.symm.subset hz)
    rw [Srt, List.pairwise_cons] at hL hM
    have e : x = y := by
      have hx := p.subset (List.mem_cons_self : x ∈ x :: L)
      have hy := p.symm.subset (List.mem_cons_self : y ∈ y :: M)
      rcases List.mem_cons.1 hx with e | hx
      · exact e
      · rcases List.mem_cons.1 hy with e | hy
        · exact e.symm
        · exact (Bef.asymm h (hok x (by simp)) (hokM y (by simp)) (hL.1 y hy) (hM.1 x hx)).elim
    subst e
    rw [srt_unique h (fun z hz => hok z (by simp [hz])) hL.2 hM.2 (p.cons_inv)]

/-- exchanging two places -/
theorem swap_at (A B C : List Int) (x y : Int) : ((A ++ x :: (B ++ y :: C)).set A.length y).set (A.length + 1 + B.length) x = A ++ y :: (B ++ x :: C) := by
  rw [List.set_append_right _ _ (Nat.le_refl _), Nat.sub_self, List.set_cons_zero, List.set_append_right _ _ (by omega), show A.length + 1 + B.length - A.length = B.length + 1 by omega, List.set_cons_succ, List.set_append_right _ _ (Nat.le_refl _), Nat.sub_self, List.set_cons_zero]
theorem get_mid (A C : List Int) (x : Int) : (A ++ x :: C)[A.length]? = some x := by simp
theorem get_mid2 (A B C : List Int) (x y : Int) : (A ++ x :: (B ++ y :: C))[A.length + 1 + B.length]? = some y := by
  rw [List.getElem?_append_right (by omega), show A.length + 1 + B.length - A.length = B.length + 1 by omega, List.getElem?_cons_succ]
  simp

/-- one round of the insertion: the element stands behind all that are before it -/
theorem ins_done (h : Ord cf ok) {S1 S2 : List Int} {e : Int} (h1 : ∀ x ∈ S1, ok x) (he : ok e) (hs : Srt cf (S1 ++ S2)) (hl : ∀ s, S1.getLast? = some s → Bef cf s e) (hr : ∀ s ∈ S2, Bef cf e s) : Srt cf (S1 ++ e :: S2) := by
  rw [Srt, List.pairwise_append] at hs
  obtain ⟨p1, p2, p3⟩ := hs
  rw [Srt, List.pairwise_append, List.pairwise_cons]
  refine ⟨p1, ⟨hr, p2⟩, fun x hx y hy => ?_⟩
  rcases List.mem_cons.1 hy with rfl | hy
  · rcases List.eq_nil_or_concat S1 with rfl | ⟨T, s, rfl⟩
    · cases hx
    · rw [List.concat_eq_append] at *
      have hse := hl s (by simp)
      rcases List.mem_append.1 hx with hx | hx
      · rw [List.pairwise_append] at p1
        exact Bef.trans h (h1 x (by simp [hx])) (h1 s (by simp)) he (p1.2.2 x hx s (by simp)) hse
      · obtain rfl : x = s := by simpa using hx
        exact hse
  · exact p3 x hx y hy

/-- the two halves behind a turn -/
theorem merge_done (h : Ord cf ok) {U1 U2 V1 V2 M1 M2 : List Int} (hU : Srt cf (U1 ++ U2)) (hV : Srt cf (V1 ++ V2)) (ho : ∀ x ∈ U1 ++ U2 ++ (V1 ++ V2), ok x)
    (hUV : ∀ u v, U1.getLast? = some u → V2.head? = some v → Bef cf u v) (hVU : ∀ v u, V1.getLast? = some v → U2.head? = some u → Bef cf v u)
    (s1 : Srt cf M1) (s2 : Srt cf M2) (p1 : M1.Perm (U1 ++ V1)) (p2 : M2.Perm (U2 ++ V2)) : Srt cf (M1 ++ M2) ∧ (M1 ++ M2).Perm (U1 ++ U2 ++ (V1 ++ V2)) := by
  have key : ∀ {A B C D : List Int}, Srt cf (A ++ B) → Srt cf (C ++ D) → (∀ x ∈ A, ok x) → (∀ x ∈ D, ok x) → (∀ a d, A.getLast? = some a → D.head? = some d → Bef cf a d) → ∀ x ∈ A, ∀ y ∈ D, Bef cf x y := fun {A B C D} hA hD oA oD hl x hx y hy => by
    rw [Srt, List.pairwise_append] at hA hD
    rcases List.eq_nil_or_concat A with rfl | ⟨T, a, rfl⟩
    · cases hx
    · rw [List.concat_eq_append] at *
      cases D with
      | nil => cases hy
      | cons d D =>
        have had := hl a d (by simp) (by simp)
        have hxa : x = a ∨ Bef cf x a := by
          rcases List.mem_append.1 hx with hx | hx
          · right
            have := hA.1
            rw [List.pairwise_append] at this
            exact this.2.2 x hx a (by simp)
          · left; simpa using hx
        have hdy : y = d ∨ Bef cf d y := by
          rcases List.mem_cons.1 hy with rfl | hy
          · left; rfl
          · right
            have := hD.2.1
            rw [List.pairwise_cons] at this
            exact this.1 y hy
        have ha := oA a (by simp)
        have hd := oD d (by simp)
        have hxo := oA x hx
        have hyo := oD y hy
        rcases hxa with rfl | hxa
        · rcases hdy with rfl | hdy
          · exact had
          · exact Bef.trans h hxo hd hyo had hdy
        · have hxd := Bef.trans h hxo ha hd hxa had
          rcases hdy with rfl | hdy
          · exact hxd
          · exact Bef.trans h hxo hd hyo hxd hdy
  refine ⟨?_, ?_⟩
  · rw [Srt, List.pairwise_append]
    refine ⟨s1, s2, fun x hx y hy => ?_⟩
    have hx' := List.mem_append.1 (p1.subset hx)
    have hy' := List.mem_append.1 (p2.subset hy)
    rcases hx' with hx' | hx' <;> rcases hy' with hy' | hy'
    · rw [Srt, List.pairwise_append] at hU
      exact hU.2.2 x hx' y hy'
    · exact key hU hV (fun z hz => ho z (by simp [hz])) (fun z hz => ho z (by simp [hz])) hUV x hx' y hy'
    · exact key hV hU (fun z hz => ho z (by simp [hz])) (fun z hz => ho z (by simp [hz])) hVU x hx' y hy'
    · rw [Srt, List.pairwise_append] at hV
      exact hV.2.2 x hx' y hy'
  · refine (p1.append p2).trans ?_
    rw [List.append_assoc, List.append_assoc]
    refine List.Perm.append_left U1 ?_
    rw [← List.append_assoc, ← List.append_assoc]
    exact List.Perm.append_right V2 List.perm_append_comm
end Go.Proofs.YtamookdlbmbncabDoor

/- The order of columns is one: a comparison turned round has the other sign, and two steps down are a step down. -/
namespace Go.Proofs.YtamookdlbmbncabDoor
open Go.ChangeShapes Go.WideShapes Go.ChangeAt Go.RowKit

theorem cmpTo_neg (xs ys : List Int) : ∀ k, cmpTo xs ys k = - cmpTo ys xs k
  | 0 => rfl
  | k + 1 => by
    have ih := cmpTo_neg xs ys k
    rw [cmpTo_step, cmpTo_step]
    generalize cmpTo xs ys k = p at *
    generalize cmpTo ys xs k = q at *
    generalize rkI (xs[k]?.getD 0) = a
    generalize rkI (ys[k]?.getD 0) = b
    unfold cmpI
    split <;> split <;> (repeat' split) <;> omega
def Down (x z u : Int) : Prop := (x = 0 ∧ z = 0 → u = 0) ∧ (x ≤ 0 ∧ z ≤ 0 ∧ (x < 0 ∨ z < 0) → u < 0)
theorem cmpI_down (a b c : Int) : Down (cmpI a b) (cmpI b c) (cmpI a c) := by
  unfold Down cmpI
  refine ⟨?_, ?_⟩ <;> (repeat' split) <;> omega
theorem down_step {x z u a b c : Int} (h : Down x z u) (g : Down a b c) : Down (if x ≠ 0 then x else a) (if z ≠ 0 then z else b) (if u ≠ 0 then u else c) := by
  obtain ⟨h1, h2⟩ := h
  obtain ⟨g1, g2⟩ := g
  by_cases hx : x = 0 <;> by_cases hz : z = 0 <;> by_cases hu : u = 0 <;> simp only [hx, hz, hu, ne_eq, not_true, not_false_eq_true, if_true, if_false] <;> refine ⟨?_, ?_⟩ <;> omega
theorem cmpTo_down (xs ys zs : List Int) : ∀ k, Down (cmpTo xs ys k) (cmpTo ys zs k) (cmpTo xs zs k)
  | 0 => ⟨fun _ => rfl, fun h => by simp [cmpTo] at h⟩
  | k + 1 => by
    rw [cmpTo_step, cmpTo_step, cmpTo_step]
    exact down_step (cmpTo_down xs ys zs k) (cmpI_down _ _ _)
theorem down_or {x z u : Int} (h : Down x z u) : (decide (0 < x) || decide (0 < z) || decide (u ≤ 0)) = true := by
  obtain ⟨h1, h2⟩ := h
  simp only [Bool.or_eq_true, decide_eq_true_eq]
  omega
theorem textOk_part {xs : List Int} (h : textOk xs = true) (i j : Nat) : textOk (partOf xs i j) = true := by
  rw [textOk, List.all_eq_true] at *
  intro x hx
  exact h x (List.mem_of_mem_drop (List.mem_of_mem_take hx))
end Go.Proofs.YtamookdlbmbncabDoor

/- The order of a deck by a field: how two places compare, and the one list of places that is sorted and stable. -/
namespace Go.Proofs.YtamookdlbmbncabDoor
open Go.ChangeShapes Go.WideShapes Go.ChangeAt Go.RowKit

/-- how two places compare -/
def cfK (H : List (List Int)) (i j : Nat) (x y : Int) : Int := cmpK H i j x.toNat y.toNat
def okK (n : Nat) (x : Int) : Prop := 0 ≤ x ∧ x < n
theorem ord_K (H : List (List Int)) (i j n : Nat) : Ord (cfK H i j) (okK n) where
  neg _ _ _ _ := cmpTo_neg _ _ _
  lt x y z _ _ _ h1 h2 h3 := (cmpTo_down (partOf (H[x.toNat]?.getD []) i j) (partOf (H[y.toNat]?.getD []) i j) (partOf (H[z.toNat]?.getD []) i j) (j - i)).2 ⟨h1, h2, h3⟩
  eq x y z _ _ _ h1 h2 := (cmpTo_down (partOf (H[x.toNat]?.getD []) i j) (partOf (H[y.toNat]?.getD []) i j) (partOf (H[z.toNat]?.getD []) i j) (j - i)).1 ⟨h1, h2⟩

/-- the places of n cards -/
def identL (n : Nat) : List Int := (List.range n).map fun (k : Nat) => (k : Int)
theorem identL_length (n : Nat) : (identL n).length = n := by simp [identL]
theorem identL_succ (n : Nat) : identL (n + 1) = identL n ++ [(n : Int)] := by simp [identL, List.range_succ]
theorem identL_mem {n : Nat} {x : Int} : x ∈ identL n ↔ okK n x := by
  unfold identL okK
  rw [List.mem_map]
  constructor
  · rintro ⟨k, hk, rfl⟩
    have := List.mem_range.1 hk
    omega
  · intro h
    exact ⟨x.toNat, List.mem_range.2 (by omega), by omega⟩
theorem identL_rise : ∀ n, (identL n).Pairwise (· < ·)
  | 0 => List.Pairwise.nil
  | n + 1 => by
    rw [identL_succ, List.pairwise_append]
    refine ⟨identL_rise n, List.pairwise_singleton _ _, fun x hx y hy => ?_⟩
    obtain rfl : y = n := by simpa using hy
    exact (identL_mem.1 hx).2
/-- the sorted places -/
noncomputable def orderV (H : List (List Int)) (i j : Nat) : List Int := by
  classical
  exact if h : ∃ M : List Int, M.Perm (identL H.length) ∧ Srt (cfK H i j) M then Classical.choose h else []
theorem orderV_eq {H : List (List Int)} {i j : Nat} {M : List Int} (p : M.Perm (identL H.length)) (s : Srt (cfK H i j) M) : orderV H i j = M := by
  classical
  have h : ∃ M : List Int, M.Perm (identL H.length) ∧ Srt (cfK H i j) M := ⟨M, p, s⟩
  have e : orderV H i j = Classical.choose h := by
    unfold orderV
    rw [dif_pos h]
  obtain ⟨p', s'⟩ := Classical.choose_spec h
  rw [e]
  exact srt_unique (ord_K H i j H.length) (fun x hx => identL_mem.1 (p'.subset hx)) s' s (p'.trans p.symm)
theorem orderV_spec {H : List (List Int)} {i j : Nat} {M : List Int} (p : M.Perm (identL H.length)) (s : Srt (cfK H i j) M) : (orderV H i j).Perm (identL H.length) ∧ Srt (cfK H i j) (orderV H i j) := by
  rw [orderV_eq p s]
  exact ⟨p, s⟩
/-- what OrderBy answers -/
noncomputable def orderA (H : List (List Int)) (a b : Int) : List Int := if keysC H a b = 0 then orderV H a.toNat b.toNat else []
theorem orderA_length (H : List (List Int)) (a b : Int) : (orderA H a b).length ≤ 40 := by
  unfold orderA
  by_cases h : keysC H a b = 0
  · rw [if_pos h]
    obtain ⟨i, j, rfl, rfl, _, _, hv, _⟩ := keysC_zero h
    unfold orderV
    split
    · rename_i hh
      obtain ⟨p, _⟩ := Classical.choose_spec hh
      rw [p.length_eq, identL_length]
      exact deck_len hv
    · simp
  · rw [if_neg h]; simp
end Go.Proofs.YtamookdlbmbncabDoor
