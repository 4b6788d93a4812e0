/- The places for which something holds. No function of the program is spoken of. -/
import Derived.Test.YtamookdlbmbncabDoorRows
import Derived.Test.YtamookdlbmbncabDoorG2
import Derived.Test.YtamookdlbmbncabDoorLegal
import Derived.Test.YtamookdlbmbncabDoorDeckMem
namespace Go.Proofs.YtamookdlbmbncabDoor

/-- the places below n for which q holds -/
def wherePl (q : Nat → Bool) : Nat → List Int
  | 0 => []
  | n + 1 => if q n = true then wherePl q n ++ [(n : Int)] else wherePl q n
theorem wherePl_yes {q : Nat → Bool} {n : Nat} (h : q n = true) : wherePl q (n + 1) = wherePl q n ++ [(n : Int)] := if_pos h
theorem wherePl_no {q : Nat → Bool} {n : Nat} (h : q n = false) : wherePl q (n + 1) = wherePl q n := if_neg (by simp [h])
theorem wherePl_len (q : Nat → Bool) : ∀ n, (wherePl q n).length ≤ n
  | 0 => Nat.le_refl _
  | n + 1 => by
    have := wherePl_len q n
    unfold wherePl
    split
    · simp; omega
    · omega
theorem wherePl_mem {q : Nat → Bool} : ∀ {n : Nat} {x : Int}, x ∈ wherePl q n → ∃ k : Nat, x = k ∧ k < n ∧ q k = true
  | 0, _, h => by cases h
  | n + 1, x, h => by
    unfold wherePl at h
    split at h
    · rename_i hq
      rcases List.mem_append.1 h with h | h
      · obtain ⟨k, a, b, c⟩ := wherePl_mem h
        exact ⟨k, a, by omega, c⟩
      · exact ⟨n, by simpa using h, by omega, hq⟩
    · obtain ⟨k, a, b, c⟩ := wherePl_mem h
      exact ⟨k, a, by omega, c⟩
end Go.Proofs.YtamookdlbmbncabDoor

/- What a collator answers, as plain functions: the places and the cards for which something holds, the codes, and when two fields are equal. -/
namespace Go.Proofs.YtamookdlbmbncabDoor
open Go.ChangeShapes Go.WideShapes Go.ChangeAt Go.RowKit

theorem rkI_one {a b : Int} (ha : charOk a = true) (hb : charOk b = true) (h : rkI a = rkI b) : a = b := by
  unfold charOk at ha hb
  unfold rkI at h
  cases ea : rankM a with
  | none => rw [ea] at ha; cases ha
  | some j =>
    cases eb : rankM b with
    | none => rw [eb] at hb; cases hb
    | some k =>
      rw [ea, eb] at h
      have e : j = k := by
        have h' : (j : Int) = k := h
        omega
      subst e
      exact (rankM_some ea).2.1.symm.trans (rankM_some eb).2.1
theorem cmpI_zero (a b : Int) : cmpI a b = 0 ↔ a = b := by
  unfold cmpI
  (repeat' split) <;> omega
theorem cmpTo_all (xs ys : List Int) : ∀ k, cmpTo xs ys k = 0 ↔ ∀ m, m < k → rkI (xs[m]?.getD 0) = rkI (ys[m]?.getD 0)
  | 0 => by simp [cmpTo]
  | k + 1 => by
    have ih := cmpTo_all xs ys k
    rw [cmpTo_step]
    by_cases h : cmpTo xs ys k = 0
    · rw [if_neg (by simpa using h), cmpI_zero]
      constructor
      · intro e m hm
        by_cases hk : m = k
        · subst hk
          exact e
        · exact ih.1 h m (by omega)
      · intro e
        exact e k (by omega)
    · rw [if_pos h]
      constructor
      · intro e
        exact absurd e h
      · intro e
        exact absurd (ih.2 fun m hm => e m (by omega)) h
theorem cmpTo_zero {xs ys : List Int} {n : Nat} (hx : xs.length = n) (hy : ys.length = n) (ox : textOk xs = true) (oy : textOk ys = true) : cmpTo xs ys n = 0 ↔ xs = ys := by
  rw [cmpTo_all]
  constructor
  · intro h
    apply List.ext_getElem (by omega)
    intro m h1 h2
    have := h m (by omega)
    rw [List.getElem?_eq_getElem h1, List.getElem?_eq_getElem h2] at this
    exact rkI_one (List.all_eq_true.1 ox _ (List.getElem_mem h1)) (List.all_eq_true.1 oy _ (List.getElem_mem h2)) this
  · rintro rfl m _
    rfl
theorem textS_one {xs ys : List Int} (ox : textOk xs = true) (oy : textOk ys = true) : textS xs = textS ys ↔ xs = ys :=
  ⟨fun h => by rw [← textCodes_textS xs ox, h, textCodes_textS ys oy], fun h => by rw [h]⟩
theorem byte_back : ∀ n : Fin 256, ¬ codeS (n.val : Int) < 0 → charOk (codeS (n.val : Int)) = true ∧ byteV (codeS (n.val : Int)) = UInt8.ofNat n.val := by decide +kernel
theorem text_back {s : ByteArray} (h : legalT s = true) : textOk (textCodes s) = true ∧ textS (textCodes s) = s := by
  have hb : ∀ b : UInt8, b ∈ s.data.toList → charOk (codeS (b.toNat : Int)) = true ∧ byteV (codeS (b.toNat : Int)) = b := fun b hb => by
    have h1 : 0 ≤ codeS (b.toNat : Int) := by
      rw [legalT, List.all_eq_true] at h
      exact of_decide_eq_true (h _ (List.mem_map_of_mem hb))
    have hlt : b.toNat < 256 := b.toNat_lt
    obtain ⟨h2, h3⟩ := byte_back ⟨b.toNat, hlt⟩ (by show ¬ codeS (b.toNat : Int) < 0; omega)
    refine ⟨h2, h3.trans ?_⟩
    simp
  constructor
  · rw [textOk, List.all_eq_true]
    intro x hx
    obtain ⟨b, hm, rfl⟩ := List.mem_map.1 hx
    exact (hb b hm).1
  · have e : textL (textCodes s) = s.data.toList := by
      rw [textL, textCodes, List.map_map]
      conv => rhs; rw [← List.map_id s.data.toList]
      apply List.map_congr_left
      intro b hm
      exact (hb b hm).2
    rw [textS, e]

/-- the cards ahead of place n for which q holds -/
def cardsPl (q : Nat → Bool) (H : List (List Int)) : Nat → List (List Int)
  | 0 => []
  | n + 1 => if q n = true then cardsPl q H n ++ [H[n]?.getD []] else cardsPl q H n
theorem cardsPl_yes {q : Nat → Bool} {H : List (List Int)} {n : Nat} {xs : List Int} (h : q n = true) (hn : H[n]? = some xs) : cardsPl q H (n + 1) = cardsPl q H n ++ [xs] := by
  rw [cardsPl, if_pos h, hn]
  rfl
theorem cardsPl_no {q : Nat → Bool} {H : List (List Int)} {n : Nat} (h : q n = false) : cardsPl q H (n + 1) = cardsPl q H n := if_neg (by simp [h])
theorem cardsPl_len (q : Nat → Bool) (H : List (List Int)) : ∀ n, (cardsPl q H n).length ≤ n
  | 0 => Nat.le_refl _
  | n + 1 => by
    have := cardsPl_len q H n
    unfold cardsPl
    split
    · simp; omega
    · omega
theorem cardsPl_where (q : Nat → Bool) (H : List (List Int)) : ∀ n, cardsPl q H n = (wherePl q n).map fun x => H[x.toNat]?.getD []
  | 0 => rfl
  | n + 1 => by
    have := cardsPl_where q H n
    unfold cardsPl wherePl
    split <;> simp [this]
theorem cardsPl_congr {p q : Nat → Bool} {H : List (List Int)} : ∀ {n : Nat}, (∀ k, k < n → p k = q k) → cardsPl p H n = cardsPl q H n
  | 0, _ => rfl
  | n + 1, h => by
    have := cardsPl_congr (H := H) (n := n) fun k hk => h k (by omega)
    unfold cardsPl
    rw [h n (by omega), this]
theorem cardsPl_mem {q : Nat → Bool} {H : List (List Int)} {n : Nat} {x : List Int} (h : x ∈ cardsPl q H n) : ∃ k, k < n ∧ q k = true ∧ x = H[k]?.getD [] := by
  rw [cardsPl_where] at h
  obtain ⟨y, hy, rfl⟩ := List.mem_map.1 h
  obtain ⟨k, rfl, h1, h2⟩ := wherePl_mem hy
  exact ⟨k, h1, h2, by simp⟩
theorem cardsPl_total {q : Nat → Bool} {H : List (List Int)} (hv : deckB H = true) {n : Nat} (hn : n ≤ 40) : totH (cardsPl q H n) ≤ 800 := by
  have : totH (cardsPl q H n) ≤ ((cardsPl q H n).map List.length).length * 20 := by
    unfold totH
    have sum_le : ∀ {L : List Nat}, (∀ x ∈ L, x ≤ 20) → L.sum ≤ L.length * 20 := by
      intro L h
      induction L with
      | nil => simp
      | cons x L ih =>
        have h1 := h x (by simp)
        have h2 := ih fun y hy => h y (by simp [hy])
        simp only [List.sum_cons, List.length_cons, Nat.succ_mul]
        omega
    refine sum_le fun x hx => ?_
    obtain ⟨y, hy, rfl⟩ := List.mem_map.1 hx
    obtain ⟨k, _, _, rfl⟩ := cardsPl_mem hy
    cases hq : H[k]? with
    | none => simp
    | some z =>
      obtain ⟨y1, _⟩ := deck_width hv hq
      exact (okB_parts y1).2
  rw [List.length_map] at this
  have h2 := cardsPl_len q H n
  omega

/-- a card that is less than the one before it -/
def seqQ (H : List (List Int)) (i j k : Nat) : Bool := decide (0 < k) && decide (cmpK H i j k (k - 1) < 0)
/-- a card with which a group begins -/
def grpQ (H : List (List Int)) (i j k : Nat) : Bool := decide (k = 0) || !decide (cmpK H i j k (k - 1) = 0)
def seqA (H : List (List Int)) (a b : Int) : List Int := if keysC H a b = 0 then wherePl (seqQ H a.toNat b.toNat) H.length else []
def grpA (H : List (List Int)) (a b : Int) : List Int := if keysC H a b = 0 then wherePl (grpQ H a.toNat b.toNat) H.length else []
def firstA (H : List (List Int)) (a b : Int) : List (List Int) := if keysC H a b = 0 then cardsPl (grpQ H a.toNat b.toNat) H H.length else []

/-- the code of a text for l columns -/
def textC (s : ByteArray) (l : Int) : Int := if (s.size : Int) ≠ l then 2 else if legalT s = false then 7 else 0
/-- the error that is told -/
def firstC (L : List Int) : Int := if 1 ∈ L then 1 else if 2 ∈ L then 2 else if 7 ∈ L then 7 else if 8 ∈ L then 8 else 0
/-- a card that is not less than one text and not greater than another one -/
def betQ (H : List (List Int)) (i j : Nat) (x y : List Int) (k : Nat) : Bool := decide (0 ≤ cmpTo (partOf (H[k]?.getD []) i j) x (j - i)) && decide (cmpTo (partOf (H[k]?.getD []) i j) y (j - i) ≤ 0)
def askC (H : List (List Int)) (a b : Int) (T : List ByteArray) : Int := firstC (keysC H a b :: T.map fun s => textC s (IntKind.i64.wrap (b - a)))
def betA (H : List (List Int)) (a b : Int) (s t : ByteArray) : List (List Int) := if askC H a b [s, t] = 0 then cardsPl (betQ H a.toNat b.toNat (textCodes s) (textCodes t)) H H.length else []
def eqA (H : List (List Int)) (a b : Int) (s : ByteArray) : List (List Int) := if askC H a b [s] = 0 then cardsPl (betQ H a.toNat b.toNat (textCodes s) (textCodes s)) H H.length else []
theorem keysC_vals (H : List (List Int)) (a b : Int) : keysC H a b = 1 ∨ keysC H a b = 2 ∨ keysC H a b = 8 ∨ keysC H a b = 0 := by
  unfold keysC
  (repeat' split) <;> simp
theorem textC_vals (s : ByteArray) (l : Int) : textC s l = 2 ∨ textC s l = 7 ∨ textC s l = 0 := by
  unfold textC
  (repeat' split) <;> simp
theorem key_len {H : List (List Int)} {a b : Int} (h : keysC H a b = 0) : H.length ≤ 40 ∧ deckB H = true := by
  obtain ⟨i, j, _, _, _, _, hv, _⟩ := keysC_zero h
  exact ⟨deck_len hv, hv⟩
theorem seqA_length (H : List (List Int)) (a b : Int) : (seqA H a b).length ≤ 1048576 := by
  unfold seqA
  by_cases h : keysC H a b = 0
  · rw [if_pos h]
    have := wherePl_len (seqQ H a.toNat b.toNat) H.length
    have := (key_len h).1
    omega
  · rw [if_neg h]; simp
theorem grpA_length (H : List (List Int)) (a b : Int) : (grpA H a b).length ≤ 1048576 := by
  unfold grpA
  by_cases h : keysC H a b = 0
  · rw [if_pos h]
    have := wherePl_len (grpQ H a.toNat b.toNat) H.length
    have := (key_len h).1
    omega
  · rw [if_neg h]; simp
theorem firstA_length (H : List (List Int)) (a b : Int) : (firstA H a b).length ≤ 1048576 := by
  unfold firstA
  by_cases h : keysC H a b = 0
  · rw [if_pos h]
    have := cardsPl_len (grpQ H a.toNat b.toNat) H H.length
    have := (key_len h).1
    omega
  · rw [if_neg h]; simp
theorem firstA_total (H : List (List Int)) (a b : Int) : totH (firstA H a b) ≤ 1048576 := by
  unfold firstA
  by_cases h : keysC H a b = 0
  · rw [if_pos h]
    have := cardsPl_total (q := grpQ H a.toNat b.toNat) (key_len h).2 (key_len h).1
    omega
  · rw [if_neg h]; simp [totH]
theorem ask_key {H : List (List Int)} {a b : Int} {T : List ByteArray} (h : askC H a b T = 0) : keysC H a b = 0 := by
  unfold askC firstC at h
  rcases keysC_vals H a b with e | e | e | e
  · rw [e, if_pos (by simp)] at h; exact absurd h (by decide)
  · rw [e] at h
    split at h
    · exact absurd h (by decide)
    · rw [if_pos (by simp)] at h; exact absurd h (by decide)
  · rw [e] at h
    repeat' split at h
    all_goals first | exact absurd h (by decide) | skip
    rename_i h8
    exact absurd (by simp) h8
  · exact e
theorem betA_length (H : List (List Int)) (a b : Int) (s t : ByteArray) : (betA H a b s t).length ≤ 1048576 := by
  unfold betA
  by_cases h : askC H a b [s, t] = 0
  · rw [if_pos h]
    have := cardsPl_len (betQ H a.toNat b.toNat (textCodes s) (textCodes t)) H H.length
    have := (key_len (ask_key h)).1
    omega
  · rw [if_neg h]; simp
theorem betA_total (H : List (List Int)) (a b : Int) (s t : ByteArray) : totH (betA H a b s t) ≤ 1048576 := by
  unfold betA
  by_cases h : askC H a b [s, t] = 0
  · rw [if_pos h]
    have := cardsPl_total (q := betQ H a.toNat b.toNat (textCodes s) (textCodes t)) (key_len (ask_key h)).2 (key_len (ask_key h)).1
    omega
  · rw [if_neg h]; simp [totH]
theorem eqA_length (H : List (List Int)) (a b : Int) (s : ByteArray) : (eqA H a b s).length ≤ 1048576 := by
  unfold eqA
  by_cases h : askC H a b [s] = 0
  · rw [if_pos h]
    have := cardsPl_len (betQ H a.toNat b.toNat (textCodes s) (textCodes s)) H H.length
    have := (key_len (ask_key h)).1
    omega
  · rw [if_neg h]; simp
theorem eqA_total (H : List (List Int)) (a b : Int) (s : ByteArray) : totH (eqA H a b s) ≤ 1048576 := by
  unfold eqA
  by_cases h : askC H a b [s] = 0
  · rw [if_pos h]
    have := cardsPl_total (q := betQ H a.toNat b.toNat (textCodes s) (textCodes s)) (key_len (ask_key h)).2 (key_len (ask_key h)).1
    omega
  · rw [if_neg h]; simp [totH]
end Go.Proofs.YtamookdlbmbncabDoor

/- Merging two sorted decks, as plain functions: the merged deck, and the code. No function of the program is spoken of. -/
namespace Go.Proofs.YtamookdlbmbncabDoor
open Go.ChangeShapes Go.WideShapes Go.ChangeAt Go.RowKit

/-- the merged deck: the first one's cards ahead of equal ones of the second -/
def mg (i j : Nat) : List (List Int) → List (List Int) → List (List Int)
  | [], B => B
  | a :: A, [] => a :: A
  | a :: A, b :: B => if cmpTo (partOf a i j) (partOf b i j) (j - i) ≤ 0 then a :: mg i j A (b :: B) else b :: mg i j (a :: A) B
termination_by A B => A.length + B.length
theorem mg_left (i j : Nat) (B : List (List Int)) : mg i j [] B = B := by
  unfold mg
  rfl
theorem mg_right (i j : Nat) (A : List (List Int)) : mg i j A [] = A := by
  cases A with
  | nil => exact mg_left i j []
  | cons a A => unfold mg; rfl
theorem mg_le {i j : Nat} {a b : List Int} {A B : List (List Int)} (h : cmpTo (partOf a i j) (partOf b i j) (j - i) ≤ 0) : mg i j (a :: A) (b :: B) = a :: mg i j A (b :: B) := by
  rw [mg, if_pos h]
theorem mg_gt {i j : Nat} {a b : List Int} {A B : List (List Int)} (h : ¬ cmpTo (partOf a i j) (partOf b i j) (j - i) ≤ 0) : mg i j (a :: A) (b :: B) = b :: mg i j (a :: A) B := by
  rw [mg, if_neg h]
theorem mg_perm (i j : Nat) : ∀ (m : Nat) (A B : List (List Int)), A.length + B.length = m → (mg i j A B).Perm (A ++ B)
  | _, [], B, _ => by rw [mg_left]; exact List.Perm.refl _
  | _, a :: A, [], _ => by rw [mg_right, List.append_nil]
  | 0, a :: A, b :: B, h => by simp at h
  | m + 1, a :: A, b :: B, h => by
    simp only [List.length_cons] at h
    by_cases hc : cmpTo (partOf a i j) (partOf b i j) (j - i) ≤ 0
    · rw [mg_le hc]
      exact List.Perm.cons a (mg_perm i j m A (b :: B) (by simp only [List.length_cons]; omega))
    · rw [mg_gt hc]
      exact (List.Perm.cons b (mg_perm i j m (a :: A) B (by simp only [List.length_cons]; omega))).trans (List.perm_middle.symm)
theorem mg_length (i j : Nat) (A B : List (List Int)) : (mg i j A B).length = A.length + B.length := by
  rw [(mg_perm i j _ A B rfl).length_eq, List.length_append]

/-- the code of two decks and a field -/
def twoC (H G : List (List Int)) (a b : Int) : Int := firstC [keysC H a b, keysC G a b]
/-- whether both have cards, with different numbers of columns -/
def clashB (H G : List (List Int)) : Bool := decide (0 < H.length) && decide (0 < G.length) && !decide (widthH H = widthH G)
def mergeC (H G : List (List Int)) (a b : Int) : Int :=
  if twoC H G a b ≠ 0 then twoC H G a b else if clashB H G = true then 9 else if 0 ≤ stepV H a.toNat b.toNat ∨ 0 ≤ stepV G a.toNat b.toNat then 6 else if 40 < H.length + G.length then 5 else 0
def mergeA (H G : List (List Int)) (a b : Int) : List (List Int) := if mergeC H G a b = 0 then mg a.toNat b.toNat H G else []
theorem two_zero {H G : List (List Int)} {a b : Int} (h : twoC H G a b = 0) : keysC H a b = 0 ∧ keysC G a b = 0 := by
  unfold twoC firstC at h
  rcases keysC_vals H a b with e | e | e | e <;> rcases keysC_vals G a b with f | f | f | f <;> rw [e, f] at h <;> first | exact ⟨e, f⟩ | (exfalso; revert h; decide)
theorem two_vals (H G : List (List Int)) (a b : Int) : twoC H G a b = if keysC H a b = 1 ∨ keysC G a b = 1 then 1 else if keysC H a b = 2 ∨ keysC G a b = 2 then 2 else if keysC H a b = 8 ∨ keysC G a b = 8 then 8 else 0 := by
  unfold twoC firstC
  rcases keysC_vals H a b with e | e | e | e <;> rcases keysC_vals G a b with f | f | f | f <;> rw [e, f] <;> decide
theorem merge_two {H G : List (List Int)} {a b : Int} (h : mergeC H G a b = 0) : twoC H G a b = 0 := by
  unfold mergeC at h
  by_cases h1 : twoC H G a b ≠ 0
  · rw [if_pos h1] at h; exact absurd h h1
  · omega
theorem mergeA_length (H G : List (List Int)) (a b : Int) : (mergeA H G a b).length ≤ 1048576 := by
  unfold mergeA
  by_cases h : mergeC H G a b = 0
  · rw [if_pos h, mg_length]
    obtain ⟨h1, h2⟩ := two_zero (merge_two h)
    have := (key_len h1).1
    have := (key_len h2).1
    omega
  · rw [if_neg h]; simp
theorem deck_total {H : List (List Int)} (h : deckB H = true) : totH H ≤ 800 := by
  have hl := deck_len h
  have key : ∀ (L : List (List Int)), (∀ x ∈ L, x.length ≤ 20) → totH L ≤ L.length * 20 := by
    intro L hL
    unfold totH
    induction L with
    | nil => simp
    | cons x L ih =>
      have h1 := hL x (by simp)
      have h2 := ih fun y hy => hL y (by simp [hy])
      simp only [List.map_cons, List.sum_cons, List.length_cons, Nat.succ_mul]
      omega
  have := key H fun x hx => by
    obtain ⟨k, hk, rfl⟩ := List.getElem_of_mem hx
    obtain ⟨y1, _⟩ := deck_width h (List.getElem?_eq_getElem hk)
    exact (okB_parts y1).2
  omega
theorem mergeA_total (H G : List (List Int)) (a b : Int) : totH (mergeA H G a b) ≤ 1048576 := by
  unfold mergeA
  by_cases h : mergeC H G a b = 0
  · rw [if_pos h]
    obtain ⟨h1, h2⟩ := two_zero (merge_two h)
    have e : totH (mg a.toNat b.toNat H G) = totH H + totH G := by
      unfold totH
      rw [((mg_perm a.toNat b.toNat _ H G rfl).map List.length).sum_nat, List.map_append, List.sum_append]
    have := deck_total (key_len h1).2
    have := deck_total (key_len h2).2
    omega
  · rw [if_neg h]; simp [totH]
end Go.Proofs.YtamookdlbmbncabDoor
