/- Sorting that keeps the order of equal ones, as lists: what stands before what, that two sorted lists of the same numbers are the same, what an insertion and a merge leave. No function of the program is spoken of. -/
import Derived.Test.YtamookdlbmbncaaRows
namespace Go.Proofs.Ytamookdlbmbncaa

/-- what an order on numbers must fulfil: a comparison that turns round, and goes on -/
structure Ord (cf : Int → Int → Int) (ok : Int → Prop) : Prop where
  neg : ∀ x y, ok x → ok y → cf x y = - cf y x
  lt : ∀ x y z, ok x → ok y → ok z → cf x y ≤ 0 → cf y z ≤ 0 → (cf x y < 0 ∨ cf y z < 0) → cf x z < 0
  eq : ∀ x y z, ok x → ok y → ok z → cf x y = 0 → cf y z = 0 → cf x z = 0
/-- x stands before y -/
def Bef (cf : Int → Int → Int) (x y : Int) : Prop := cf x y < 0 ∨ (cf x y = 0 ∧ x < y)
variable {cf : Int → Int → Int} {ok : Int → Prop}
theorem Ord.refl (h : Ord cf ok) {x : Int} (hx : ok x) : cf x x = 0 := by
  have := h.neg x x hx hx
  omega
theorem Bef.trans (h : Ord cf ok) {x y z : Int} (hx : ok x) (hy : ok y) (hz : ok z) (h1 : Bef cf x y) (h2 : Bef cf y z) : Bef cf x z := by
  rcases h1 with h1 | ⟨h1, l1⟩
  · left
    refine h.lt x y z hx hy hz (by omega) ?_ (Or.inl h1)
    rcases h2 with h2 | ⟨h2, _⟩ <;> omega
  · rcases h2 with h2 | ⟨h2, l2⟩
    · left
      exact h.lt x y z hx hy hz (by omega) (by omega) (Or.inr h2)
    · right
      exact ⟨h.eq x y z hx hy hz h1 h2, by omega⟩
theorem Bef.asymm (h : Ord cf ok) {x y : Int} (hx : ok x) (hy : ok y) (h1 : Bef cf x y) (h2 : Bef cf y x) : False := by
  have := h.neg x y hx hy
  rcases h1 with h1 | ⟨h1, l1⟩ <;> rcases h2 with h2 | ⟨h2, l2⟩ <;> omega
theorem bef_total (h : Ord cf ok) {x y : Int} (hx : ok x) (hy : ok y) (hne : x ≠ y) (h1 : ¬ Bef cf x y) : Bef cf y x := by
  have := h.neg x y hx hy
  unfold Bef at *
  omega
/-- the later one is compared with the earlier one -/
theorem bef_iff {x y : Int} (hlt : y < x) : (cf x y < 0) ↔ Bef cf x y := by
  unfold Bef
  omega
theorem bef_iff' (h : Ord cf ok) {x y : Int} (hx : ok x) (hy : ok y) (hlt : y < x) : ¬ (cf x y < 0) ↔ Bef cf y x := by
  have := h.neg x y hx hy
  unfold Bef
  omega

def Srt (cf : Int → Int → Int) (L : List Int) : Prop := L.Pairwise (Bef cf)
/-- two sorted lists of the same numbers are the same -/
theorem srt_unique (h : Ord cf ok) : ∀ {L M : List Int}, (∀ x ∈ L, ok x) → Srt cf L → Srt cf M → L.Perm M → L = M
  | [], M, _, _, _, p => by
    have := p.length_eq
    cases M with
    | nil => rfl
    | cons y M => simp at this
  | x :: L, [], _, _, _, p => by
    have := p.length_eq
    simp at this
  | x :: L, y :: M, hok, hL, hM, p => by
    have hokM : ∀ z ∈ y :: M, ok z := fun z hz => hok z (p.symm.subset hz)
    rw [Srt, List.pairwise_cons] at hL hM
    have e : x = y := by
      have hx := p.subset (List.mem_cons_self : x ∈ x :: L)
      have hy := p.symm.subset (List.mem_cons_self : y ∈ y :: M)
      rcases List.mem_cons.1 hx with e | hx
      · exact e
      · rcases List.mem_cons.1 hy with e | hy
        · exact e.symm
        · exact (Bef.asymm h (hok x (by simp)) (hokM y (by simp)) (hL.1 y hy) (hM.1 x hx)).elim
    subst e
    rw [srt_unique h (fun z hz => hok z (by simp [hz])) hL.2 hM.2 (p.cons_inv)]

/-- exchanging two places -/
theorem swap_at (A B C : List Int) (x y : Int) : ((A ++ x :: (B ++ y :: C)).set A.length y).set (A.length + 1 + B.length) x = A ++ y :: (B ++ x :: C) := by
  rw [List.set_append_right _ _ (Nat.le_refl _), Nat.sub_self, List.set_cons_zero, List.set_append_right _ _ (by omega), show A.length + 1 + B.length - A.length = B.length + 1 by omega, List.set_cons_succ, List.set_append_right _ _ (Nat.le_refl _), Nat.sub_self, List.set_cons_zero]
theorem get_mid (A C : List Int) (x : Int) : (A ++ x :: C)[A.length]? = some x := by simp
theorem get_mid2 (A B C : List Int) (x y : Int) : (A ++ x :: (B ++ y :: C))[A.length + 1 + B.length]? = some y := by
  rw [List.getElem?_append_right (by omega), show A.length + 1 + B.length - A.length = B.length + 1 by omega, List.getElem?_cons_succ]
  simp

/-- one round of the insertion: the element stands behind all that are before it -/
theorem ins_done (h : Ord cf ok) {S1 S2 : List Int} {e : Int} (h1 : ∀ x ∈ S1, ok x) (he : ok e) (hs : Srt cf (S1 ++ S2)) (hl : ∀ s, S1.getLast? = some s → Bef cf s e) (hr : ∀ s ∈ S2, Bef cf e s) : Srt cf (S1 ++ e :: S2) := by
  rw [Srt, List.pairwise_append] at hs
  obtain ⟨p1, p2, p3⟩ := hs
  rw [Srt, List.pairwise_append, List.pairwise_cons]
  refine ⟨p1, ⟨hr, p2⟩, fun x hx y hy => ?_⟩
  rcases List.mem_cons.1 hy with rfl | hy
  · rcases List.eq_nil_or_concat S1 with rfl | ⟨T, s, rfl⟩
    · cases hx
    · rw [List.concat_eq_append] at *
      have hse := hl s (by simp)
      rcases List.mem_append.1 hx with hx | hx
      · rw [List.pairwise_append] at p1
        exact Bef.trans h (h1 x (by simp [hx])) (h1 s (by simp)) he (p1.2.2 x hx s (by simp)) hse
      · obtain rfl : x = s := by simpa using hx
        exact hse
  · exact p3 x hx y hy

/-- the two halves behind a turn -/
theorem merge_done (h : Ord cf ok) {U1 U2 V1 V2 M1 M2 : List Int} (hU : Srt cf (U1 ++ U2)) (hV : Srt cf (V1 ++ V2)) (ho : ∀ x ∈ U1 ++ U2 ++ (V1 ++ V2), ok x)
    (hUV : ∀ u v, U1.getLast? = some u → V2.head? = some v → Bef cf u v) (hVU : ∀ v u, V1.getLast? = some v → U2.head? = some u → Bef cf v u)
    (s1 : Srt cf M1) (s2 : Srt cf M2) (p1 : M1.Perm (U1 ++ V1)) (p2 : M2.Perm (U2 ++ V2)) : Srt cf (M1 ++ M2) ∧ (M1 ++ M2).Perm (U1 ++ U2 ++ (V1 ++ V2)) := by
  have key : ∀ {A B C D : List Int}, Srt cf (A ++ B) → Srt cf (C ++ D) → (∀ x ∈ A, ok x) → (∀ x ∈ D, ok x) → (∀ a d, A.getLast? = some a → D.head? = some d → Bef cf a d) → ∀ x ∈ A, ∀ y ∈ D, Bef cf x y := fun {A B C D} hA hD oA oD hl x hx y hy => by
    rw [Srt, List.pairwise_append] at hA hD
    rcases List.eq_nil_or_concat A with rfl | ⟨T, a, rfl⟩
    · cases hx
    · rw [List.concat_eq_append] at *
      cases D with
      | nil => cases hy
      | cons d D =>
        have had := hl a d (by simp) (by simp)
        have hxa : x = a ∨ Bef cf x a := by
          rcases List.mem_append.1 hx with hx | hx
          · right
            have := hA.1
            rw [List.pairwise_append] at this
            exact this.2.2 x hx a (by simp)
          · left; simpa using hx
        have hdy : y = d ∨ Bef cf d y := by
          rcases List.mem_cons.1 hy with rfl | hy
          · left; rfl
          · right
            have := hD.2.1
            rw [List.pairwise_cons] at this
            exact this.1 y hy
        have ha := oA a (by simp)
        have hd := oD d (by simp)
        have hxo := oA x hx
        have hyo := oD y hy
        rcases hxa with rfl | hxa
        · rcases hdy with rfl | hdy
          · exact had
          · exact Bef.trans h hxo hd hyo had hdy
        · have hxd := Bef.trans h hxo ha hd hxa had
          rcases hdy with rfl | hdy
          · exact hxd
          · exact Bef.trans h hxo hd hyo hxd hdy
  refine ⟨?_, ?_⟩
  · rw [Srt, List.pairwise_append]
    refine ⟨s1, s2, fun x hx y hy => ?_⟩
    have hx' := List.mem_append.1 (p1.subset hx)
    have hy' := List.mem_append.1 (p2.subset hy)
    rcases hx' with hx' | hx' <;> rcases hy' with hy' | hy'
    · rw [Srt, List.pairwise_append] at hU
      exact hU.2.2 x hx' y hy'
    · exact key hU hV (fun z hz => ho z (by simp [hz])) (fun z hz => ho z (by simp [hz])) hUV x hx' y hy'
    · exact key hV hU (fun z hz => ho z (by simp [hz])) (fun z hz => ho z (by simp [hz])) hVU x hx' y hy'
    · rw [Srt, List.pairwise_append] at hV
      exact hV.2.2 x hx' y hy'
  · refine (p1.append p2).trans ?_
    rw [List.append_assoc, List.append_assoc]
    refine List.Perm.append_left U1 ?_
    rw [← List.append_assoc, ← List.append_assoc]
    exact List.Perm.append_right V2 List.perm_append_comm
end Go.Proofs.Ytamookdlbmbncaa
