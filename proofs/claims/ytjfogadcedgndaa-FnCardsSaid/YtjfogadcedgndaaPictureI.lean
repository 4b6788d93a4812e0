/- impl.CardPicture describes a card in twelve lines, in memory of its own; and what the laws' helpers on lists of texts do, in the form that a law's walk takes: contracts. -/
import Derived.Test.YtjfogadcedgndaaPicture
import Derived.Test.YtjfogadcedgndaaMarkTexts
import Derived.Deep.OwnRows
namespace Go.Proofs.Ytjfogadcedgndaa
open Go.ChangeShapes Go.WideShapes Go.ChangeAt Go.RowKit

/-- A list of texts in new memory (at least one), and a code. -/
def GivesSomeT (ss : List ByteArray) (k : Int) (w : World) (e : Ending) (w' : World) : Prop :=
  ∃ g cap ex, e = .returned (.tuple #[.slice (some ⟨g, 0, none⟩) ss.length cap, .int .i64 k]) ∧ w.heap.size ≤ g ∧ Below w.heap.size w w' ∧ TRow w' g ss ex
/-- A list without a text, and a code. -/
def GivesNoneT (k : Int) (w : World) (e : Ending) (w' : World) : Prop :=
  ∃ A cap, e = .returned (.tuple #[.slice A 0 cap, .int .i64 k]) ∧ Below w.heap.size w w'
theorem none_texts {a : Int} {w w' : World} {e : Ending} (h : GivesNoTexts a w e w') : GivesNoneT a w e w' := ⟨none, 0, h.1, h.2⟩
theorem some_texts {ss : List ByteArray} {w w' : World} {e : Ending} (h : GivesTexts0 ss w e w') : GivesSomeT ss 0 w e w' := by
  obtain ⟨g, cap, he, hg, hb, hr⟩ := h
  rcases hr.2 with ⟨hv, _⟩ | ⟨g', cap', cur, hv, _, hh, _, _, _, ht⟩
  · cases hv
  · obtain ⟨rfl, rfl⟩ : g = g' ∧ cap = cap' := by injection hv with h1 h2 h3; injection h1 with h1; injection h1 with h1; exact ⟨h1, h3⟩
    refine ⟨g, cap, cur.toList.drop ss.length, he, hg, hb, ?_⟩
    unfold TRow
    rw [hh]
    congr 2
    apply Array.ext'
    have ht' : cur.toList.take ss.length = ss.map Value.string := by rw [← Nat.mul_one ss.length]; exact ht
    rw [← ht']
    simp
theorem TRow.onlyR {w w' : World} {g j : Nat} {ss : List ByteArray} {ex : List Value} (h : w.grownBy w' (some g)) (hr : TRow w j ss ex) (hne : j ≠ g) : TRow w' j ss ex := hr.only h hne

/-- what the lines hold after k rounds -/
def picPart (xs : List Int) (k : Nat) : List ByteArray := picTo xs k ++ List.replicate (12 - k) ⟨#[]⟩
theorem picPart_length (xs : List Int) (k : Nat) (h : k ≤ 12) : (picPart xs k).length = 12 := by simp [picPart, picTo_length]; omega
theorem picPart_set (xs : List Int) (k : Nat) (h : k < 12) : (picPart xs k).set k (lineS xs k) = picPart xs (k + 1) := by
  have hl := picTo_length xs k
  obtain ⟨r, hr⟩ : ∃ r, 12 - k = r + 1 := ⟨11 - k, by omega⟩
  have hr2 : 12 - (k + 1) = r := by omega
  rw [picPart, picPart, hr, hr2, List.set_append_right _ _ (by omega), hl, Nat.sub_self, List.replicate_succ, List.set_cons_zero, picTo_step]
  simp
theorem picPart_all (xs : List Int) : picPart xs 12 = picTo xs 12 := by simp [picPart]
theorem made_texts (n : Nat) : madeCells #[Value.string ⟨#[]⟩] n = ((List.replicate n (⟨#[]⟩ : ByteArray)).map Value.string ++ []).toArray := by
  apply Array.ext
  · simp [size_madeCells]
  · intro i h1 h2
    simp [madeCells, Nat.mod_one]

set_option maxHeartbeats 1000000 in
theorem implPic_good (A : Option Addr) (c : Nat) (xs : List Int) (B : Nat) (w : World) (h : Ints w B A xs) (hB : B ≤ w.heap.size) (hn : xs.length ≤ 1048576) (hv : okB xs = true) :
    Calls Try.prog 17 #[.agg #[.slice A xs.length c]] w (GivesSomeT (picTo xs 12) 0 w) := by
  have hok := implValidCard_any A c xs B (w.alloc (.cells #[.slice A xs.length c] 26)) (h.alloc hB _) (by simp; omega) hn
  rw [hv] at hok
  have hmk : ∀ W : World, (Instr.makeSlice 39 (.int .i64 12) (.int .i64 12)).run Try.prog W = .ok (.slice (some ⟨W.heap.size, 0, none⟩) 12 12) (W.alloc (.cells (madeCells #[Value.string ⟨#[]⟩] 12) 9)) := fun W => run_make_row' (P := Try.prog) 39 9 (.string ⟨#[]⟩) 16 Try.underlying39 info_str rfl .i64 .i64 12 (by omega) (by omega) W
  have HL := Lib.hid (fun (b : Nat) (hb : b < 12) (U : World) (hU : Ints U B A xs) (hBU : B ≤ U.heap.size) => line_any A c xs B b U hU hBU hn hb)
  obtain ⟨n, hN⟩ : ∃ n, xs.length = n := ⟨_, rfl⟩
  rw [hN] at hok HL hn ⊢
  have HO := Lib.hid hok
  have H0 := Lib.hid h
  clear hok hv h hN
  go_enter Try.func17, Try.ntmps17
  go_wp2_with fail
  refine HO.out.mono ?_
  rintro e w1 ⟨rfl, hb⟩
  have B1 := Lib.hid (below_step (below_box w _) hb)
  have c1 := Lib.hid (cell_kept (p := ⟨w.heap.size, 0, none⟩) (v := .slice A n c) (by simp) hb)
  have hs1 := B1.out.size
  clear hb HO
  go_wp2
  clear hmk
  go_loopw [12] (fun i wr => ∃ k : Nat, k ≤ 12 ∧ i = .int .i64 k ∧ Hid (TRow wr w1.heap.size (picPart xs k) []) ∧ Hid (Below w1.heap.size w1 wr)) (fun i _ => 12 - (intOf i).toNat)
  case atStart =>
    refine ⟨0, Nat.zero_le _, rfl, ?_, below_box w1 _⟩
    show TRow _ _ _ _
    unfold TRow
    have e : picPart xs 0 = List.replicate 12 ⟨#[]⟩ := rfl
    rw [e, made_texts]
    exact heap_alloc_new w1 _
  case round =>
    obtain ⟨k, hk, rfl, HR, HB⟩ := hrel
    have c2 := cell_kept c1.out HB.out
    by_cases hlt : k < 12
    · have hk12 : (k : Int) < 12 := by omega
      have hk0 : (0 : Int) ≤ (k : Int) := Int.natCast_nonneg _
      have hLL := HL.out k hlt wr (H0.out.below ((B1.out.trans (HB.out.mono hs1)).mono hB)) (Nat.le_trans hB (Nat.le_trans hs1 HB.out.size))
      have HLL := Lib.hid hLL
      have hlen := Lib.hid (picPart_length xs k (by omega))
      have hset := Lib.hid (picPart_set xs k hlt)
      obtain ⟨s, hs⟩ : ∃ s, lineS xs k = s := ⟨_, rfl⟩
      rw [hs] at HLL hset
      clear hLL hs
      go_wp2_with fail
      refine HLL.out.mono ?_
      rintro e w2 ⟨rfl, hb⟩
      have HR2 := Lib.hid (HR.out.later hb)
      have HB2 := Lib.hid (below_step HB.out hb)
      obtain ⟨z, hz⟩ : ∃ z, (picPart xs k)[k]? = some z := ⟨_, List.getElem?_eq_getElem (by rw [hlen.out]; exact hlt)⟩
      have cz := HR2.out.cell hz
      have fz := HR2.out.frozen k
      have HR3 : Hid (TRow (w2.setCell ⟨w1.heap.size, k, none⟩ (.string s)) w1.heap.size (picPart xs (k + 1)) []) := by
        have := HR2.out.set (i := k) (by rw [hlen.out]; exact hlt) s
        rw [hset.out] at this
        exact this
      have HB3 : Hid (Below w1.heap.size w1 (w2.setCell ⟨w1.heap.size, k, none⟩ (.string s))) := HB2.out.setCell (Nat.le_refl _) _
      clear hb hz c2
      go_wp2
      go_roundw
      case rel => exact ⟨k + 1, by omega, by go_num, HR3, HB3⟩
      case measure => simp [intOf]; omega
    · obtain rfl : k = 12 := by omega
      have hr := HR.out
      rw [picPart_all] at hr
      have HR3 := Lib.hid hr
      clear hr HR c2
      go_wp2
      go_ret2
      exact ⟨w1.heap.size, 12, [], by rw [picTo_length]; rfl, hs1, B1.out.trans (HB.out.mono hs1), HR3.out⟩

end Go.Proofs.Ytjfogadcedgndaa