/- impl.SplitWords gives the words of a text, in memory of their own, for every text of at most 1048576 bytes: a contract; the library's pieces are the parts between blanks that are not empty. -/
import Derived.Test.YtfjokjdfekkbiacSplit
import Derived.Test.YtfjokjdfekkbiacShelf
import Derived.Lib.FieldsP
import Derived.Laws.RangeAny
namespace Go.Proofs.Ytfjokjdfekkbiac
open Go.ChangeShapes Go.WideShapes Go.ChangeAt Go.RowKit

theorem decode_cont (s : ByteArray) (i k : Nat) (h1 : 0 < k) (hk : k < (Utf8.decode s i).2) : i + k < s.size ∧ (s.get! (i + k)).toNat / 64 = 2 := by
  unfold Utf8.decode at hk
  dsimp only at hk
  split at hk
  · simp at hk; omega
  · split at hk
    · rename_i h
      simp only [Bool.and_eq_true, decide_eq_true_eq, beq_iff_eq] at h
      split at hk <;> simp at hk
      · obtain rfl : k = 1 := by omega
        exact h.2
      · omega
    · split at hk
      · rename_i h
        simp only [Bool.and_eq_true, decide_eq_true_eq, beq_iff_eq] at h
        split at hk <;> simp at hk
        · have : k = 1 ∨ k = 2 := by omega
          rcases this with rfl | rfl
          · exact h.1.2
          · exact h.2
        · omega
      · split at hk
        · rename_i h
          simp only [Bool.and_eq_true, decide_eq_true_eq, beq_iff_eq] at h
          split at hk <;> simp at hk
          · have : k = 1 ∨ k = 2 ∨ k = 3 := by omega
            rcases this with rfl | rfl | rfl
            · exact h.1.1.2
            · exact h.1.2
            · exact h.2
          · omega
        · simp at hk; omega

def blankR (r : Nat) : Bool := r == 32
theorem isBlank_any (r : Nat) (w : World) : Calls Try.prog 17 #[.int .i32 r] w fun e w' => e = .returned (.bool (blankR r)) ∧ w = w' := by
  by_cases h : r = 32
  · subst h
    go_enter Try.func17, Try.ntmps17
    go_wp2
    go_ret
    exact ⟨rfl, rfl⟩
  · have e : blankR r = false := by simp [blankR, h]
    have hq : ((r : Int) == 32) = false := beq_eq_false_iff_ne.2 (by omega)
    rw [e]
    clear e h
    go_enter Try.func17, Try.ntmps17
    go_wp2
    go_ret
    exact ⟨rfl, rfl⟩

theorem implSplitWords_fields (s : ByteArray) (hs : s.size ≤ 1048576) (w : World) :
    Calls Try.prog 8 #[.string s] w (GivesTexts (Lib.goFieldsP blankR s) w) := by
  have HC := Lib.hid (Try.strings_FieldsFunc_runes 17 #[] (fun args w => by kernel_rfl) blankR s w (by omega) (fun W x _ _ => (isBlank_any x W).mono fun _ _ h => ⟨h.1, 0, h.2.symm⟩))
  clear hs
  go_enter Try.func8, Try.ntmps8
  go_wp2_with fail
  refine HC.out.mono ?_
  rintro e w1 ⟨g, rfl, hg, hown, hb⟩
  have HO := Lib.hid hown
  have HB := Lib.hid hb
  clear hown hb HC
  go_wp2
  go_ret
  exact ⟨g, _, rfl, hg, HB.out, HO.out⟩

/-! the pieces -/
def goodP (x : Nat × Nat) : Bool := decide (x.1 < x.2)
def accOf (s : ByteArray) (k : Nat) : List (Nat × Nat) := (splitSt s 32 k).1.filter goodP
def stOf (s : ByteArray) (k : Nat) : Option Nat := if (splitSt s 32 k).2 < k then some (splitSt s 32 k).2 else none
theorem splitSt_keep (s : ByteArray) (k : Nat) : ∀ j, (∀ i, i < j → (s.get! (k + i)).toNat ≠ 32) → splitSt s 32 (k + j) = splitSt s 32 k
  | 0, _ => rfl
  | j + 1, h => by
    rw [← Nat.add_assoc, splitSt, if_neg (h j (by omega)), splitSt_keep s k j (fun i hi => h i (by omega))]
theorem spans_split (s : ByteArray) : ∀ (f pos : Nat), s.size ≤ pos + f → pos ≤ s.size → Lib.spansFromP blankR s f pos (stOf s pos) (accOf s pos) = (accOf s s.size, stOf s s.size)
  | 0, pos, h1, h2 => by
    obtain rfl : pos = s.size := by omega
    rfl
  | f + 1, pos, h1, h2 => by
    by_cases hlt : pos < s.size
    · have hge := get_at s pos hlt
      have hle := (splitSt_le s 32 pos).1
      unfold Lib.spansFromP
      rw [if_pos hlt]
      by_cases ha : (s[pos]'hlt).toNat < 128
      · have hd := decode_ascii s pos hlt ha
        by_cases h32 : (s[pos]'hlt).toNat = 32
        · have hp : blankR (Utf8.decode s pos).1 = true := by rw [hd]; simp [blankR, h32]
          have hs1 : splitSt s 32 (pos + 1) = ((splitSt s 32 pos).1 ++ [((splitSt s 32 pos).2, pos)], pos + 1) := by rw [splitSt, if_pos (by rw [hge]; exact h32)]
          have hst : stOf s (pos + 1) = none := by rw [stOf, hs1, if_neg (by simp)]
          rw [if_pos hp, hd]
          have ih := spans_split s f (pos + 1) (by omega) (by omega)
          rw [hst] at ih
          by_cases hf : (splitSt s 32 pos).2 < pos
          · have h1 : stOf s pos = some (splitSt s 32 pos).2 := by rw [stOf, if_pos hf]
            have h2 : accOf s (pos + 1) = accOf s pos ++ [((splitSt s 32 pos).2, pos)] := by
              simp [accOf, hs1, List.filter_append, goodP, hf]
            rw [h1]
            rw [h2] at ih
            exact ih
          · have h1 : stOf s pos = none := by rw [stOf, if_neg hf]
            have h2 : accOf s (pos + 1) = accOf s pos := by
              simp [accOf, hs1, List.filter_append, goodP, hf]
            rw [h1]
            rw [h2] at ih
            exact ih
        · have hp : ¬ blankR (Utf8.decode s pos).1 = true := by rw [hd]; simp [blankR, h32]
          have hk := splitSt_keep s pos 1 (fun i hi => by
            have hi0 : i = 0 := by omega
            subst hi0
            rw [Nat.add_zero, hge]
            exact h32)
          rw [if_neg hp, hd]
          have ih := spans_split s f (pos + 1) (by omega) (by omega)
          have h3 : stOf s (pos + 1) = some (splitSt s 32 pos).2 := by rw [stOf, hk, if_pos (by omega)]
          have h4 : accOf s (pos + 1) = accOf s pos := by rw [accOf, hk]; rfl
          rw [h3, h4] at ih
          by_cases hf : (splitSt s 32 pos).2 < pos
          · have h1 : stOf s pos = some (splitSt s 32 pos).2 := by rw [stOf, if_pos hf]
            rw [h1]
            exact ih
          · have h1 : stOf s pos = none := by rw [stOf, if_neg hf]
            have h5 : (splitSt s 32 pos).2 = pos := by omega
            rw [h1]
            rw [h5] at ih
            exact ih
      · have hd := decode_high s pos hlt (by omega)
        have hp : ¬ blankR (Utf8.decode s pos).1 = true := by simp [blankR]; omega
        obtain ⟨wd, hwd⟩ : ∃ wd, (Utf8.decode s pos).2 = wd := ⟨_, rfl⟩
        have hw1 : 1 ≤ wd := by rw [← hwd]; exact hd.2
        have hcont : ∀ i, i < wd → pos + i < s.size ∧ (s.get! (pos + i)).toNat ≠ 32 := fun i hi => by
          rcases Nat.eq_zero_or_pos i with rfl | hpos
          · refine ⟨hlt, ?_⟩
            rw [Nat.add_zero, hge]
            omega
          · obtain ⟨c1, c2⟩ := decode_cont s pos i hpos (by rw [hwd]; exact hi)
            exact ⟨c1, by omega⟩
        have hk := splitSt_keep s pos wd (fun i hi => (hcont i hi).2)
        have hin := (hcont (wd - 1) (by omega)).1
        rw [if_neg hp, hwd]
        have ih := spans_split s f (pos + wd) (by omega) (by omega)
        have h3 : stOf s (pos + wd) = some (splitSt s 32 pos).2 := by rw [stOf, hk, if_pos (by omega)]
        have h4 : accOf s (pos + wd) = accOf s pos := by rw [accOf, hk]; rfl
        rw [h3, h4] at ih
        by_cases hf : (splitSt s 32 pos).2 < pos
        · have h1 : stOf s pos = some (splitSt s 32 pos).2 := by rw [stOf, if_pos hf]
          rw [h1]
          exact ih
        · have h1 : stOf s pos = none := by rw [stOf, if_neg hf]
          have h5 : (splitSt s 32 pos).2 = pos := by omega
          rw [h1]
          rw [h5] at ih
          exact ih
    · obtain rfl : pos = s.size := by omega
      rw [Lib.spansFromP_end _ _ _ _ _ _ hlt]

theorem splitSt_in (s : ByteArray) : ∀ k, ∀ x ∈ (splitSt s 32 k).1, x.2 ≤ k
  | 0 => by simp [splitSt]
  | k + 1 => by
    intro x hx
    rw [splitSt] at hx
    split at hx
    · simp at hx
      rcases hx with hx | rfl
      · have := splitSt_in s k x hx
        omega
      · simp
    · have := splitSt_in s k x hx
      omega
theorem extract_pos (s : ByteArray) (a b : Nat) (h : b ≤ s.size) : decide (0 < (s.extract a b).size) = decide (a < b) := by
  rw [ByteArray.size_extract]
  congr 1
  simp only [eq_iff_iff]
  omega
theorem filter_strs (s : ByteArray) : ∀ l : List (Nat × Nat), (∀ x ∈ l, x.2 ≤ s.size) → (strsOf s l).filter (fun x => decide (0 < x.size)) = strsOf s (l.filter goodP)
  | [], _ => rfl
  | x :: r, h => by
    have ih := filter_strs s r (fun y hy => h y (by simp [hy]))
    have e := extract_pos s x.1 x.2 (h x (by simp))
    show List.filter _ (s.extract x.1 x.2 :: strsOf s r) = _
    by_cases hx : x.1 < x.2
    · have g1 : goodP x = true := by simp [goodP, hx]
      have g2 : decide (0 < (s.extract x.1 x.2).size) = true := by rw [e]; simpa using hx
      rw [List.filter_cons_of_pos (p := fun x : ByteArray => decide (0 < x.size)) g2, ih, List.filter_cons_of_pos g1]
      rfl
    · have g1 : ¬ goodP x = true := by simp [goodP, hx]
      have g2 : ¬ decide (0 < (s.extract x.1 x.2).size) = true := by rw [e]; simpa using hx
      rw [List.filter_cons_of_neg (p := fun x : ByteArray => decide (0 < x.size)) g2, ih, List.filter_cons_of_neg g1]
theorem words_fields (s : ByteArray) : Lib.goFieldsP blankR s = wordsL s := by
  have h0 := spans_split s s.size 0 (by omega) (by omega)
  have e1 : stOf s 0 = none := rfl
  have e2 : accOf s 0 = [] := rfl
  rw [e1, e2] at h0
  have hin := filter_strs s (splitSt s 32 s.size).1 (splitSt_in s s.size)
  rw [Lib.goFieldsP, Lib.spansOfP, h0, wordsL, splitL, List.filter_append, hin]
  have ee := extract_pos s (splitSt s 32 s.size).2 s.size (Nat.le_refl _)
  by_cases hf : (splitSt s 32 s.size).2 < s.size
  · have h1 : stOf s s.size = some (splitSt s 32 s.size).2 := by rw [stOf, if_pos hf]
    have g2 : decide (0 < (s.extract (splitSt s 32 s.size).2 s.size).size) = true := by rw [ee]; simpa using hf
    rw [h1, List.filter_cons_of_pos (p := fun x : ByteArray => decide (0 < x.size)) g2, List.filter_nil]
    simp only [Lib.closeSpans, strsOf, List.map_append, List.map_cons, List.map_nil]
    rfl
  · have h1 : stOf s s.size = none := by rw [stOf, if_neg hf]
    have g2 : ¬ decide (0 < (s.extract (splitSt s 32 s.size).2 s.size).size) = true := by rw [ee]; simpa using hf
    rw [h1, List.filter_cons_of_neg (p := fun x : ByteArray => decide (0 < x.size)) g2, List.filter_nil, List.append_nil]
    rfl

theorem implSplitWords_any (s : ByteArray) (hs : s.size ≤ 1048576) (w : World) :
    Calls Try.prog 8 #[.string s] w (GivesTexts (wordsL s) w) := by
  rw [← words_fields]
  exact implSplitWords_fields s hs w
end Go.Proofs.Ytfjokjdfekkbiac
