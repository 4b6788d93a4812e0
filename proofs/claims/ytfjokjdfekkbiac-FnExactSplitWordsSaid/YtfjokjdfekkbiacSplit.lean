/- spec.l01Split and spec.SplitWords give the parts of a text, in memory of their own, for every text of at most 1048576 bytes: contracts. -/
import Derived.Test.YtfjokjdfekkbiacMem
import Derived.Test.YtfjokjdfekkbiacMarkTexts
import Derived.Laws.AppendOwn
import Derived.WalkSpells
import Derived.Lib.ItoaMem
import Derived.Outline
namespace Go.Proofs.Ytfjokjdfekkbiac
open Go.ChangeShapes Go.WideShapes Go.ChangeAt Go.RowKit

theorem get_at (s : ByteArray) (k : Nat) (h : k < s.size) : s.get! k = s[k]'h := by
  show s.data[k]! = s.data[k]
  exact getElem!_pos s.data k h

/-- what k bytes leave: the parts that are ended, and where the next one begins -/
def splitSt (s : ByteArray) (c : Nat) : Nat → List (Nat × Nat) × Nat
  | 0 => ([], 0)
  | k + 1 => if (s.get! k).toNat = c then ((splitSt s c k).1 ++ [((splitSt s c k).2, k)], k + 1) else splitSt s c k
theorem splitSt_le (s : ByteArray) (c : Nat) : ∀ k, (splitSt s c k).2 ≤ k ∧ (splitSt s c k).1.length ≤ k
  | 0 => by simp [splitSt]
  | k + 1 => by
    have ih := splitSt_le s c k
    rw [splitSt]
    split
    · simp
      omega
    · omega
def strsOf (s : ByteArray) (l : List (Nat × Nat)) : List ByteArray := l.map fun x => s.extract x.1 x.2
/-- the parts of a text between bytes -/
def splitL (s : ByteArray) (c : Nat) : List ByteArray := strsOf s (splitSt s c s.size).1 ++ [s.extract (splitSt s c s.size).2 s.size]
def txts (l : List ByteArray) : List Value := l.map Value.string
theorem txts_length (l : List ByteArray) : (txts l).length = l.length := by simp [txts]

/-- A list of texts of new memory. -/
def GivesTexts (ss : List ByteArray) (w : World) (e : Ending) (w' : World) : Prop :=
  ∃ g cap, e = .returned (.slice (some ⟨g, 0, none⟩) ss.length cap) ∧ w.heap.size ≤ g ∧ Below w.heap.size w w' ∧ w'.ownsRow w.heap.size 9 1 (.slice (some ⟨g, 0, none⟩) ss.length cap) ss.length (txts ss)

theorem info_str : (Try.prog.info? 9).map (fun i => (i.zero, i.size, i.bytes)) = some (some (.string ⟨#[]⟩), 1, 16) := by kernel_rfl

/-- What an append of one text leaves. -/
theorem own_text {w w' : World} {base : Nat} {v v' : Value} {ss : List ByteArray} {x : ByteArray} {W : World} {B : Nat}
    (hown : w'.ownsRow base 9 1 v' (ss.length + 1) (txts ss ++ [.string x])) (hgrow : (w.alloc (.cells #[.string x] 9)).grownBy w' v.ownBlock)
    (hold : w.ownsRow base 9 1 v ss.length (txts ss)) (hb : Below B W w) (hB : B ≤ base) (hs : B ≤ w.heap.size) :
    w'.ownsRow base 9 1 v' (ss ++ [x]).length (txts (ss ++ [x])) ∧ Below B W w' := by
  refine ⟨by simpa [txts] using hown, ?_⟩
  exact (hb.alloc hs _).grown hgrow (by simp; omega) (fun k hk => Nat.le_trans hB (hold.lt k hk).1)
theorem own_shape {w : World} {base : Nat} {v : Value} {ss : List ByteArray} (h : w.ownsRow base 9 1 v ss.length (txts ss)) (h0 : 0 < ss.length) :
    ∃ g cap, v = .slice (some ⟨g, 0, none⟩) ss.length cap ∧ base ≤ g := by
  rcases h.2 with ⟨_, hz⟩ | ⟨g, cap, cur, rfl, hb, hg, hr⟩
  · omega
  · exact ⟨g, cap, rfl, hb⟩

set_option maxRecDepth 100000 in
set_option maxHeartbeats 2000000 in
theorem l01Split_any (s : ByteArray) (c : Nat) (hs : s.size ≤ 1048576) (w : World) :
    Calls Try.prog 15 #[.string s, .int .u8 c] w (GivesTexts (splitL s c) w) := by
  obtain ⟨i0, hi0, hz0, hz1, hz2⟩ := info_parts info_str
  go_enter Try.func15, Try.ntmps15
  go_wp2
  go_loopw [5, 6, 7] (fun v f i wr => ∃ k : Nat, ∃ fr : Nat, ∃ l : List ByteArray, ∃ vv : Value, k ≤ s.size ∧ fr ≤ k ∧ l.length ≤ k ∧ i = .int .i64 k ∧ f = .int .i64 fr ∧ vv = v ∧ Hid (strsOf s (splitSt s c k).1 = l) ∧ Hid ((splitSt s c k).2 = fr) ∧ Hid (wr.ownsRow w.heap.size 9 1 v l.length (txts l)) ∧ Hid (Below w.heap.size w wr)) (fun _ _ i _ => s.size - (intOf i).toNat)
  case atStart =>
    refine ⟨0, 0, [], _, Nat.zero_le _, Nat.le_refl _, Nat.zero_le _, rfl, rfl, rfl, rfl, rfl, ?_, below_box w _⟩
    exact ⟨rfl, Or.inr ⟨w.heap.size, 0, #[], rfl, Nat.le_refl _, heap_alloc_new w _, Nat.le_refl _, Nat.zero_le _, rfl, rfl⟩⟩
  case round =>
    obtain ⟨k, fr, l, vv, hk, hfr, hll, rfl, rfl, rfl, HL, HF, HW, HB⟩ := hrel
    have hwr : w.heap.size ≤ wr.heap.size := HB.out.size
    by_cases hlt : k < s.size
    · have hge := get_at s k hlt
      have hlt' : (k : Int) < (s.size : Int) := by omega
      obtain ⟨b, hb⟩ : ∃ b : Nat, (s[k]'hlt).toNat = b := ⟨_, rfl⟩
      have hbi : ((s[k]'hlt).toNat : Int) = b := by rw [hb]
      have HGE : Hid ((s.get! k).toNat = b) := by show _ = b; rw [hge]; exact hb
      clear hge hb
      by_cases hbc : b = c
      · have HL1 : Hid (strsOf s (splitSt s c (k + 1)).1 = l ++ [s.extract fr k]) := by
          show _ = _
          rw [splitSt, if_pos (HGE.out.trans hbc), HF.out]
          simp only [strsOf, List.map_append, List.map_cons, List.map_nil]
          rw [← HL.out]
          rfl
        have HF1 : Hid ((splitSt s c (k + 1)).2 = k + 1) := by
          show _ = _
          rw [splitSt, if_pos (HGE.out.trans hbc)]
        subst hbc
        have hq : ((b : Int) == (b : Int)) = true := by simp
        have hf0 : (0 : Int) ≤ (fr : Int) := Int.natCast_nonneg _
        have hfk : (fr : Int) ≤ (k : Int) := by omega
        clear HL HF HGE
        go_wp2_with (at_builtin; refine wpList_append_own _ rfl _ _ 23 rfl w.heap.size 9 i0 (.string ⟨#[]⟩) 1 16 Try.underlying23 hi0 hz0 hz1 hz2 rfl (by decide) _ _ _ rfl (HW.out.alloc _) ⟨wr.heap.size, 0, none⟩ 1 1 [.string (s.extract fr k)] rfl rfl ?c1 ?c2 ?c3 ?c4 ?c5 ?_; rotate_left 5; intro v' w1 hown hgrow _; obtain ⟨ho, hbb⟩ := own_text hown hgrow HW.out HB.out (Nat.le_refl _) hwr; have HW1 := Lib.hid ho; have HB1 := Lib.hid hbb; clear hown hgrow ho hbb)
        case c1 =>
          intro j u hj
          match j, hj with
          | 0, hj => simp at hj; subst hj; simp [Addr.add]
        case c2 => intro u hu; simp at hu; subst hu; rfl
        case c3 => unfold maxLen; omega
        case c4 => omega
        case c5 => first | omega | (simp; omega)
        go_roundw
        case rel => exact ⟨k + 1, k + 1, _, _, by omega, by omega, by simp; omega, by go_num, by go_num, rfl, HL1, HF1, HW1, HB1⟩
        case measure => simp [intOf]; omega
      · have HL1 : Hid (strsOf s (splitSt s c (k + 1)).1 = l) := by
          show _ = _
          rw [splitSt, if_neg (fun e => hbc (HGE.out.symm.trans e))]
          exact HL.out
        have HF1 : Hid ((splitSt s c (k + 1)).2 = fr) := by
          show _ = _
          rw [splitSt, if_neg (fun e => hbc (HGE.out.symm.trans e))]
          exact HF.out
        have hq : ((b : Int) == (c : Int)) = false := beq_eq_false_iff_ne.2 (by omega)
        clear hbc HL HF HGE
        go_wp2
        go_roundw
        case rel => exact ⟨k + 1, fr, l, _, by omega, by omega, by omega, by go_num, rfl, rfl, HL1, HF1, HW, HB⟩
        case measure => simp [intOf]; omega
    · obtain rfl : k = s.size := by omega
      have hk1 : ¬ (s.size : Int) < (s.size : Int) := by omega
      have HL1 : Hid (splitL s c = l ++ [s.extract fr s.size]) := by
        show _ = _
        rw [splitL, HL.out, HF.out]
      have hf0 : (0 : Int) ≤ (fr : Int) := Int.natCast_nonneg _
      have hfk : (fr : Int) ≤ (s.size : Int) := by omega
      clear HL HF
      go_wp2_with (at_builtin; refine wpList_append_own _ rfl _ _ 23 rfl w.heap.size 9 i0 (.string ⟨#[]⟩) 1 16 Try.underlying23 hi0 hz0 hz1 hz2 rfl (by decide) _ _ _ rfl (HW.out.alloc _) ⟨wr.heap.size, 0, none⟩ 1 1 [.string (s.extract fr s.size)] rfl rfl ?d1 ?d2 ?d3 ?d4 ?d5 ?_; rotate_left 5; intro v' w1 hown hgrow _; obtain ⟨ho, hbb⟩ := own_text hown hgrow HW.out HB.out (Nat.le_refl _) hwr; have HW1 := Lib.hid ho; have HB1 := Lib.hid hbb; clear hown hgrow ho hbb)
      case d2 => rfl
      case d3 => unfold maxLen; omega
      case d4 => omega
      case d5 => first | omega | (simp; omega)
      go_ret
      obtain ⟨g, cap, hv, hg⟩ := own_shape HW1.out (by simp)
      have hw := HW1.out
      rw [← HL1.out] at hv hw
      exact ⟨g, cap, by rw [← hv]; rfl, hg, HB1.out, by rw [← hv]; exact hw⟩

/-- the words of a text -/
def wordsL (s : ByteArray) : List ByteArray := (splitL s 32).filter fun x => decide (0 < x.size)
theorem splitL_length (s : ByteArray) (c : Nat) : (splitL s c).length ≤ s.size + 1 := by
  have := (splitSt_le s c s.size).2
  simp [splitL, strsOf]
  omega
theorem own_lower {w : World} {b b' e size n : Nat} {v : Value} {xs : List Value} (h : w.ownsRow b e size v n xs) (hb : b' ≤ b) : w.ownsRow b' e size v n xs := by
  refine ⟨h.1, ?_⟩
  rcases h.2 with h0 | ⟨g, cap, cur, hv, hg, rest⟩
  · exact Or.inl h0
  · exact Or.inr ⟨g, cap, cur, hv, by omega, rest⟩
theorem empty_str {x : ByteArray} (h : x.size = 0) : x = ByteArray.empty := by
  apply ByteArray.ext
  apply Array.eq_empty_of_size_eq_zero
  exact h
theorem full_str {x : ByteArray} (h0 : 0 < x.size) : x.toList.isEmpty = false := by
  rw [ByteArray.toList_eq]
  cases e : x.data.toList with
  | nil =>
    have : x.data.toList.length = 0 := by rw [e]; rfl
    rw [Array.length_toList] at this
    have h : x.data.size = x.size := rfl
    omega
  | cons c r => rfl

set_option maxRecDepth 100000 in
set_option maxHeartbeats 2000000 in
theorem specSplitWords_any (s : ByteArray) (hs : s.size ≤ 1048576) (w : World) :
    Calls Try.prog 7 #[.string s] w (GivesTexts (wordsL s) w) := by
  obtain ⟨i0, hi0, hz0, hz1, hz2⟩ := info_parts info_str
  have HC := Lib.hid (l01Split_any s 32 hs w)
  have hlen := splitL_length s 32
  obtain ⟨ls, hls⟩ : ∃ ls, splitL s 32 = ls := ⟨_, rfl⟩
  have hwd : wordsL s = ls.filter fun x => decide (0 < x.size) := by rw [wordsL, hls]
  rw [hls] at HC hlen
  rw [hwd]
  obtain ⟨n, hn⟩ : ∃ n, ls.length = n := ⟨_, rfl⟩
  rw [hn] at hlen
  have HN := Lib.hid hn
  clear hwd hls hn
  go_enter Try.func7, Try.ntmps7
  go_wp2_with fail
  refine HC.out.mono ?_
  rintro e w1 ⟨g, cap, rfl, hg, hb, hown⟩
  rw [HN.out]
  have B1 := Lib.hid hb
  have HO := Lib.hid hown
  have s1 := hb.size
  clear hb hown HC
  go_wp2
  go_loopw [4, 5] (fun v i wr => ∃ k : Nat, ∃ l : List ByteArray, ∃ vv : Value, k ≤ n ∧ l.length ≤ k ∧ i = .int .i64 k ∧ vv = v ∧ Hid ((ls.take k).filter (fun x => decide (0 < x.size)) = l) ∧ Hid (∃ g cap, v = .slice (some ⟨g, 0, none⟩) l.length cap ∧ w1.heap.size ≤ g) ∧ Hid (wr.ownsRow w1.heap.size 9 1 v l.length (txts l)) ∧ Hid (Below w1.heap.size w1 wr)) (fun _ i _ => n - (intOf i).toNat)
  case atStart =>
    refine ⟨0, [], _, Nat.zero_le _, Nat.zero_le _, rfl, rfl, rfl, ⟨w1.heap.size, 0, rfl, Nat.le_refl _⟩, ?_, below_box w1 _⟩
    exact ⟨rfl, Or.inr ⟨w1.heap.size, 0, #[], rfl, Nat.le_refl _, heap_alloc_new w1 _, Nat.le_refl _, Nat.zero_le _, rfl, rfl⟩⟩
  case round =>
    obtain ⟨k, l, vv, hk, hll, rfl, rfl, HL, HV, HW, HB⟩ := hrel
    have hwr : w1.heap.size ≤ wr.heap.size := HB.out.size
    by_cases hlt : k < n
    · have hx : k < ls.length := by rw [HN.out]; exact hlt
      obtain ⟨x, hxx⟩ : ∃ x, ls[k]'hx = x := ⟨_, rfl⟩
      have hc1 : w1.cell? ⟨g, k, none⟩ = some (.string x) := by
        have := HO.out.cells (g := g) rfl k (.string x) (by simp [txts, List.getElem?_eq_getElem hx, hxx])
        rw [Lib.add_plain, Nat.zero_add] at this
        exact this
      have c1 := cell_kept hc1 HB.out
      have hk0 : (0 : Int) ≤ (k : Int) := Int.natCast_nonneg _
      have hk1 : (k : Int) < (n : Int) := by omega
      have HX := Lib.hid hxx
      clear hc1 hxx
      by_cases hz : 0 < x.size
      · have HL1 : Hid ((ls.take (k + 1)).filter (fun x => decide (0 < x.size)) = l ++ [x]) := by
          show _ = _
          rw [List.take_succ_eq_append_getElem hx, List.filter_append, HL.out, HX.out]
          simp [hz]
        have hne := full_str hz
        have hne2 : (!x.toList.isEmpty) = true := by rw [hne]; rfl
        clear HL hz
        go_wp2_with (at_builtin; refine wpList_append_own _ rfl _ _ 23 rfl w1.heap.size 9 i0 (.string ⟨#[]⟩) 1 16 Try.underlying23 hi0 hz0 hz1 hz2 rfl (by decide) _ _ _ rfl (HW.out.alloc _) ⟨wr.heap.size, 0, none⟩ 1 1 [.string x] rfl rfl ?c1 ?c2 ?c3 ?c4 ?c5 ?_; rotate_left 5; intro v' w2 hown hgrow _; obtain ⟨ho, hbb⟩ := own_text hown hgrow HW.out HB.out (Nat.le_refl _) hwr; have HW1 := Lib.hid ho; have HB1 := Lib.hid hbb; clear hown hgrow ho hbb)
        case c1 =>
          intro j u hj
          match j, hj with
          | 0, hj => simp at hj; subst hj; simp [Addr.add]
        case c2 => intro u hu; simp at hu; subst hu; rfl
        case c3 => unfold maxLen; omega
        case c4 => omega
        case c5 => first | omega | (simp; omega)
        go_roundw
        case rel => exact ⟨k + 1, _, _, by omega, by simp; omega, by go_num, rfl, HL1, own_shape HW1.out (by simp), HW1, HB1⟩
        case measure => simp [intOf]; omega
      · obtain rfl : x = ByteArray.empty := empty_str (by omega)
        have HL1 : Hid ((ls.take (k + 1)).filter (fun x => decide (0 < x.size)) = l) := by
          show _ = _
          rw [List.take_succ_eq_append_getElem hx, List.filter_append, HL.out, HX.out]
          simp
        clear HL hz
        go_wp2
        go_roundw
        case rel => exact ⟨k + 1, l, _, by omega, by omega, by go_num, rfl, HL1, HV, HW, HB⟩
        case measure => simp [intOf]; omega
    · have hkn : k = n := by omega
      have hk1 : ¬ (k : Int) < (n : Int) := by omega
      have HL1 : Hid (ls.filter (fun x => decide (0 < x.size)) = l) := by
        have := HL.out
        rwa [List.take_of_length_le (by rw [HN.out]; omega)] at this
      clear hkn HL
      go_wp2
      go_ret
      obtain ⟨g', cap', hv, hg'⟩ := HV.out
      have hw := HW.out
      have hl := HL1.out
      subst hv
      rw [hl]
      exact ⟨g', cap', rfl, by omega, below_step B1.out HB.out, own_lower hw s1⟩
end Go.Proofs.Ytfjokjdfekkbiac
