/- spec.l01Split and spec.SplitWords give the parts of a text, in memory of their own, for every text of at most 1048576 bytes: contracts. -/
import Derived.Test.YtjfogadcedgndaaMem
import Derived.Test.YtjfogadcedgndaaMarkTexts
import Derived.Laws.AppendOwn
import Derived.WalkSpells
import Derived.Lib.ItoaMem
import Derived.Outline
namespace Go.Proofs.Ytjfogadcedgndaa
open Go.ChangeShapes Go.WideShapes Go.ChangeAt Go.RowKit

theorem get_at (s : ByteArray) (k : Nat) (h : k < s.size) : s.get! k = s[k]'h := by
  show s.data[k]! = s.data[k]
  exact getElem!_pos s.data k h

/-- what k bytes leave: the parts that are ended, and where the next one begins -/
def splitSt (s : ByteArray) (c : Nat) : Nat → List (Nat × Nat) × Nat
  | 0 => ([], 0)
  | k + 1 => if (s.get! k).toNat = c then ((splitSt s c k).1 ++ [((splitSt s c k).2, k)], k + 1) else splitSt s c k
theorem splitSt_le (s : ByteArray) (c : Nat) : ∀ k, (splitSt s c k).2 ≤ k ∧ (splitSt s c k).1.length ≤ k
  | 0 => by simp [splitSt]
  | k + 1 => by
    have ih := splitSt_le s c k
    rw [splitSt]
    split
    · simp
      omega
    · omega
def strsOf (s : ByteArray) (l : List (Nat × Nat)) : List ByteArray := l.map fun x => s.extract x.1 x.2
/-- the parts of a text between bytes -/
def splitL (s : ByteArray) (c : Nat) : List ByteArray := strsOf s (splitSt s c s.size).1 ++ [s.extract (splitSt s c s.size).2 s.size]
def txts (l : List ByteArray) : List Value := l.map Value.string
theorem txts_length (l : List ByteArray) : (txts l).length = l.length := by simp [txts]

/-- A list of texts of new memory. -/
def GivesTexts (ss : List ByteArray) (w : World) (e : Ending) (w' : World) : Prop :=
  ∃ g cap, e = .returned (.slice (some ⟨g, 0, none⟩) ss.length cap) ∧ w.heap.size ≤ g ∧ Below w.heap.size w w' ∧ w'.ownsRow w.heap.size 9 1 (.slice (some ⟨g, 0, none⟩) ss.length cap) ss.length (txts ss)

theorem info_str : (Try.prog.info? 9).map (fun i => (i.zero, i.size, i.bytes)) = some (some (.string ⟨#[]⟩), 1, 16) := by kernel_rfl

/-- What an append of one text leaves. -/
theorem own_text {w w' : World} {base : Nat} {v v' : Value} {ss : List ByteArray} {x : ByteArray} {W : World} {B : Nat}
    (hown : w'.ownsRow base 9 1 v' (ss.length + 1) (txts ss ++ [.string x])) (hgrow : (w.alloc (.cells #[.string x] 9)).grownBy w' v.ownBlock)
    (hold : w.ownsRow base 9 1 v ss.length (txts ss)) (hb : Below B W w) (hB : B ≤ base) (hs : B ≤ w.heap.size) :
    w'.ownsRow base 9 1 v' (ss ++ [x]).length (txts (ss ++ [x])) ∧ Below B W w' := by
  refine ⟨by simpa [txts] using hown, ?_⟩
  exact (hb.alloc hs _).grown hgrow (by simp; omega) (fun k hk => Nat.le_trans hB (hold.lt k hk).1)
theorem own_shape {w : World} {base : Nat} {v : Value} {ss : List ByteArray} (h : w.ownsRow base 9 1 v ss.length (txts ss)) (h0 : 0 < ss.length) :
    ∃ g cap, v = .slice (some ⟨g, 0, none⟩) ss.length cap ∧ base ≤ g := by
  rcases h.2 with ⟨_, hz⟩ | ⟨g, cap, cur, rfl, hb, hg, hr⟩
  · omega
  · exact ⟨g, cap, rfl, hb⟩

/-- the words of a text -/
def wordsL (s : ByteArray) : List ByteArray := (splitL s 32).filter fun x => decide (0 < x.size)
theorem splitL_length (s : ByteArray) (c : Nat) : (splitL s c).length ≤ s.size + 1 := by
  have := (splitSt_le s c s.size).2
  simp [splitL, strsOf]
  omega
theorem own_lower {w : World} {b b' e size n : Nat} {v : Value} {xs : List Value} (h : w.ownsRow b e size v n xs) (hb : b' ≤ b) : w.ownsRow b' e size v n xs := by
  refine ⟨h.1, ?_⟩
  rcases h.2 with h0 | ⟨g, cap, cur, hv, hg, rest⟩
  · exact Or.inl h0
  · exact Or.inr ⟨g, cap, cur, hv, by omega, rest⟩
theorem empty_str {x : ByteArray} (h : x.size = 0) : x = ByteArray.empty := by
  apply ByteArray.ext
  apply Array.eq_empty_of_size_eq_zero
  exact h
theorem full_str {x : ByteArray} (h0 : 0 < x.size) : x.toList.isEmpty = false := by
  rw [ByteArray.toList_eq]
  cases e : x.data.toList with
  | nil =>
    have : x.data.toList.length = 0 := by rw [e]; rfl
    rw [Array.length_toList] at this
    have h : x.data.size = x.size := rfl
    omega
  | cons c r => rfl

end Go.Proofs.Ytjfogadcedgndaa