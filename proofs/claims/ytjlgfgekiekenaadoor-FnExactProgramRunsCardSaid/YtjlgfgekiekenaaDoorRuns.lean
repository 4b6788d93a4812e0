/- The runs of equal letters of a text, as plain functions, and impl.runScanner's scan: a contract. -/
import Derived.Test.YtjlgfgekiekenaaDoorKeyMath
import Derived.Test.YtjlgfgekiekenaaDoorKeyCount
import Derived.Lib.TrimByte
import Derived.Lib.Strings
import Derived.Lib.Join
namespace Go.Proofs.YtjlgfgekiekenaaDoor
open Go.ChangeShapes Go.WideShapes Go.ChangeAt Go.RowKit

def runTo (s : ByteArray) (c : UInt8) : Nat → Nat → Nat
  | 0, _ => 0
  | f + 1, p => if s.get! p = c then runTo s c f (p + 1) + 1 else 0
def runLen (s : ByteArray) (i : Nat) : Nat := runTo s (s.get! i) (s.size - i) i
theorem runTo_is (s : ByteArray) (c : UInt8) : ∀ (f p n : Nat), n ≤ f → (∀ j, j < n → s.get! (p + j) = c) → (n = f ∨ s.get! (p + n) ≠ c) → runTo s c f p = n
  | 0, p, n, h1, _, _ => by
    obtain rfl : n = 0 := by omega
    rfl
  | f + 1, p, 0, _, _, h3 => by
    rcases h3 with h3 | h3
    · omega
    · rw [runTo, if_neg (by simpa using h3)]
  | f + 1, p, n + 1, h1, h2, h3 => by
    have h0 : s.get! p = c := h2 0 (by omega)
    rw [runTo, if_pos h0, runTo_is s c f (p + 1) n (by omega) (fun j hj => by have := h2 (j + 1) (by omega); rwa [show p + (j + 1) = p + 1 + j by omega] at this) (by
      rcases h3 with h3 | h3
      · exact Or.inl (by omega)
      · exact Or.inr (by rwa [show p + (n + 1) = p + 1 + n by omega] at h3))]
theorem runTo_le (s : ByteArray) (c : UInt8) : ∀ (f p : Nat), runTo s c f p ≤ f
  | 0, _ => Nat.le_refl _
  | f + 1, p => by
    rw [runTo]
    split
    · have := runTo_le s c f (p + 1); omega
    · omega
theorem runTo_all (s : ByteArray) (c : UInt8) : ∀ (f p j : Nat), j < runTo s c f p → s.get! (p + j) = c
  | 0, p, j, h => by simp [runTo] at h
  | f + 1, p, j, h => by
    rw [runTo] at h
    split at h
    · rename_i h0
      cases j with
      | zero => simpa using h0
      | succ j =>
        have := runTo_all s c f (p + 1) j (by omega)
        rwa [show p + (j + 1) = p + 1 + j by omega]
    · omega
theorem runTo_end (s : ByteArray) (c : UInt8) : ∀ (f p : Nat), runTo s c f p < f → s.get! (p + runTo s c f p) ≠ c
  | 0, p, h => by omega
  | f + 1, p, h => by
    rw [runTo] at h ⊢
    split
    · rename_i h0
      rw [if_pos h0] at h
      have := runTo_end s c f (p + 1) (by omega)
      rwa [show p + (runTo s c f (p + 1) + 1) = p + 1 + runTo s c f (p + 1) by omega]
    · rename_i h0
      simpa using h0
theorem runLen_pos (s : ByteArray) (i : Nat) (h : i < s.size) : 1 ≤ runLen s i := by
  unfold runLen
  obtain ⟨f, hf⟩ : ∃ f, s.size - i = f + 1 := ⟨s.size - i - 1, by omega⟩
  rw [hf, runTo, if_pos rfl]
  omega
theorem runLen_le (s : ByteArray) (i : Nat) (h : i < s.size) : i + runLen s i ≤ s.size := by
  have := runTo_le s (s.get! i) (s.size - i) i
  unfold runLen
  omega

/-- a run as a word -/
def wordR (s : ByteArray) (i n : Nat) : ByteArray := s.extract i (i + 1) ++ ⟨(Lib.itoa (n : Int)).toArray⟩
def chop (s : ByteArray) : Nat → Nat → List ByteArray
  | 0, _ => []
  | f + 1, i => if i < s.size then wordR s i (runLen s i) :: chop s f (i + runLen s i) else []
theorem chop_fuel (s : ByteArray) : ∀ (f g i : Nat), s.size - i ≤ f → s.size - i ≤ g → chop s f i = chop s g i
  | 0, 0, i, _, _ => rfl
  | 0, g + 1, i, h, _ => by rw [chop, chop, if_neg (by omega)]
  | f + 1, 0, i, _, h => by rw [chop, chop, if_neg (by omega)]
  | f + 1, g + 1, i, h1, h2 => by
    rw [chop, chop]
    by_cases hi : i < s.size
    · have := runLen_pos s i hi
      rw [if_pos hi, if_pos hi, chop_fuel s f g (i + runLen s i) (by omega) (by omega)]
    · rw [if_neg hi, if_neg hi]
def chops (s : ByteArray) (i : Nat) : List ByteArray := chop s (s.size - i) i
theorem chops_step (s : ByteArray) (i : Nat) (h : i < s.size) : chops s i = wordR s i (runLen s i) :: chops s (i + runLen s i) := by
  have := runLen_pos s i h
  unfold chops
  obtain ⟨f, hf⟩ : ∃ f, s.size - i = f + 1 := ⟨s.size - i - 1, by omega⟩
  rw [hf, chop, if_pos h, chop_fuel s f (s.size - (i + runLen s i)) (i + runLen s i) (by omega) (by omega)]
theorem chops_end (s : ByteArray) : chops s s.size = [] := by
  unfold chops
  rw [Nat.sub_self]
  rfl

def joinB (ws : List ByteArray) : ByteArray := ⟨(Lib.join (ws.map (·.data.toList)) (ByteArray.mk #[32]).data.toList).toArray⟩
theorem joinB_nil : joinB [] = ⟨#[]⟩ := rfl
theorem join_snoc (sep w : List UInt8) : ∀ (xs : List (List UInt8)), xs ≠ [] → Lib.join (xs ++ [w]) sep = Lib.join xs sep ++ sep ++ w
  | [], h => absurd rfl h
  | [x], _ => by simp [Lib.join, List.intercalate]
  | x :: y :: r, _ => by
    have ih := join_snoc sep w (y :: r) (by simp)
    rw [List.cons_append, Lib.join_cons]
    rw [Lib.join_cons x (y :: r)]
    have e1 : ∀ t : List (List UInt8), t ≠ [] → Lib.joinTail sep t = sep ++ Lib.join t sep := by
      intro t ht
      cases t with
      | nil => exact absurd rfl ht
      | cons a b => rw [Lib.join_cons]; simp [Lib.joinTail]
    rw [e1 _ (by simp), e1 _ (by simp), ih]
    simp [List.append_assoc]
theorem joinB_snoc (ws : List ByteArray) (w : ByteArray) (h : ws ≠ []) : joinB (ws ++ [w]) = joinB ws ++ ⟨#[32]⟩ ++ w := by
  apply ByteArray.ext
  apply Array.toList_inj.1
  unfold joinB
  rw [List.map_append]
  have := join_snoc (ByteArray.mk #[32]).data.toList w.data.toList (ws.map (·.data.toList)) (by simpa using h)
  simpa using this
theorem joinB_one (w : ByteArray) : joinB [w] = w := by
  apply ByteArray.ext
  apply Array.toList_inj.1
  unfold joinB
  simp [Lib.join_one]

/-! the scanner's texts -/
theorem sufB_list (s : ByteArray) (i : Nat) : (sufB s i).data.toList = s.data.toList.drop i := by
  simp [sufB, List.take_of_length_le]
theorem sufB_first (s : ByteArray) (i : Nat) (h : i < s.size) : (sufB s i).extract 0 1 = ⟨#[s.get! i]⟩ := by
  apply ByteArray.ext
  apply Array.toList_inj.1
  have e : s.get! i = s.data.toList[i]'(by simpa using h) := by rw [byte_of s i h]; rfl
  have h1 : ((sufB s i).extract 0 1).data.toList = (s.data.toList.drop i).take 1 := by simp [sufB]; omega
  rw [h1, e, List.drop_eq_getElem_cons (by simpa using h)]
  rfl
theorem list_get (s : ByteArray) (k : Nat) (b : UInt8) (h : s.data.toList[k]? = some b) : k < s.size ∧ s.get! k = b := by
  obtain ⟨hk, hb⟩ := List.getElem?_eq_some_iff.1 h
  have hk' : k < s.size := by simpa using hk
  exact ⟨hk', by rw [byte_of s k hk', ← hb]; rfl⟩
theorem trim_run (s : ByteArray) (i : Nat) (h : i < s.size) : (⟨(Lib.trimLeftB (sufB s i).data.toList (s.get! i)).toArray⟩ : ByteArray) = sufB s (i + runLen s i) := by
  have hle := runLen_le s i h
  have hsz : s.data.toList.length = s.size := by simp
  have hlen : runLen s i ≤ (sufB s i).data.toList.length := by
    rw [sufB_list, List.length_drop, hsz]
    omega
  have hd := Lib.trimLeftB_drop (sufB s i).data.toList (s.get! i) (runLen s i) hlen (fun j b hj hb => by
    rw [sufB_list, List.getElem?_drop] at hb
    rw [← (list_get s _ b hb).2]
    exact runTo_all s (s.get! i) (s.size - i) i j hj) (fun b hb => by
    rw [sufB_list, List.getElem?_drop] at hb
    obtain ⟨h1, h2⟩ := list_get s _ b hb
    rw [← h2]
    exact runTo_end s (s.get! i) (s.size - i) i (by unfold runLen at h1; omega))
  rw [hd, sufB_list, List.drop_drop]
  apply ByteArray.ext
  apply Array.toList_inj.1
  rw [sufB_list]
theorem cut_run (s : ByteArray) (i n : Nat) (h : i + n ≤ s.size) : (⟨(Lib.trimSuffix (sufB s i).data.toList (sufB s (i + n)).data.toList).toArray⟩ : ByteArray) = s.extract i (i + n) := by
  have h1 : (sufB s i).size = s.size - i := sufB_size s i
  have h2 : (sufB s (i + n)).size = s.size - (i + n) := sufB_size s (i + n)
  have e : (sufB s i).extract ((sufB s i).size - (sufB s (i + n)).size) (sufB s i).size = sufB s (i + n) := by
    apply ByteArray.ext
    have e3 : s.size - i - (s.size - (i + n)) = n := by omega
    have e4 : min (i + (s.size - i)) s.size = s.size := by omega
    simp [sufB, ByteArray.extract_extract, e3, e4]
  rw [Lib.trimSuffix_hit _ _ (by omega) (by rw [e]; exact beq_self_eq_true _), h1, h2]
  apply ByteArray.ext
  have e3 : s.size - i - (s.size - (i + n)) = n := by omega
  have e4 : min (i + n) s.size = i + n := by omega
  simp [sufB, ByteArray.extract_extract, e3, e4]
end Go.Proofs.YtjlgfgekiekenaaDoor
