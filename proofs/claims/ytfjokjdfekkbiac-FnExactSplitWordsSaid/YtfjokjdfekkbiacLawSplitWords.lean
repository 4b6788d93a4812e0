/- For every text, the law FnExactSplitWords returns true: impl.SplitWords answers as spec.SplitWords, in memory of its own. Conditions: none. -/
import Derived.Test.YtfjokjdfekkbiacWords
import Derived.Test.YtfjokjdfekkbiacPost
namespace Go.Proofs.Ytfjokjdfekkbiac.fnExactSplitWords
open Go.ChangeShapes Go.WideShapes Go.ChangeAt Go.RowKit
open Go.ChangeMaps (open_string)

theorem below_drewOf (w : World) (n : Nat) : Below w.heap.size w (w.drewN n) := below_drewN (Below.refl _ _) n

theorem gives_row {ss : List ByteArray} {w w' : World} {e : Ending} (h : GivesTexts ss w e w') :
    ∃ g cap ex, e = .returned (.slice (some ⟨g, 0, none⟩) ss.length cap) ∧ w.heap.size ≤ g ∧ Below w.heap.size w w' ∧ TRow w' g ss ex := by
  obtain ⟨g, cap, he, hg, hb, hr⟩ := h
  rcases hr.2 with ⟨hv, _⟩ | ⟨g', cap', cur, hv, _, hh, _, _, _, ht⟩
  · cases hv
  · obtain ⟨rfl, rfl⟩ : g = g' ∧ cap = cap' := by injection hv with h1 h2 h3; injection h1 with h1; injection h1 with h1; exact ⟨h1, h3⟩
    refine ⟨g, cap, cur.toList.drop ss.length, he, hg, hb, ?_⟩
    unfold TRow
    rw [hh]
    congr 2
    apply Array.ext'
    have ht' : cur.toList.take ss.length = ss.map Value.string := by rw [← Nat.mul_one ss.length]; exact ht
    rw [← ht']
    simp

theorem eqTexts_any (A A' : Option Addr) (c c' : Nat) (xs : List ByteArray) (B B' : Nat) (w : World) (h : Texts w B A xs) (h' : Texts w B' A' xs) (hn : xs.length ≤ 1048576) :
    Calls Try.prog 9 #[.slice A xs.length c, .slice A' xs.length c'] w fun e w' => e = .returned (.bool true) ∧ Below w.heap.size w w' := by
  refine (eqStrings_any A A' c c' xs xs B B' w h h' hn).mono ?_
  rintro e w' ⟨rfl, n, rfl⟩
  exact ⟨by simp, below_drewOf w n⟩
theorem markTexts_any (g c : Nat) (ss : List ByteArray) (ex : List Value) (w : World) (h : TRow w g ss ex) (hn : ss.length ≤ 1048576) :
    Calls Try.prog 10 #[.slice (some ⟨g, 0, none⟩) ss.length c, .int .i64 1] w fun e w' => e = .returned (.int .i64 (1 + ss.length)) ∧ w.grownBy w' (some g) ∧ TRow w' g (mtexts 1 ss.length) ex :=
  markStrings_any g c ss ex 1 w h (Nat.le_refl _) (by omega) hn
theorem heldTexts_any (A : Option Addr) (c n B : Nat) (w : World) (h : Texts w B A (mtexts 1 n)) (hB : B ≤ w.heap.size) (hn : n ≤ 1048576) :
    Calls Try.prog 11 #[.slice A n c, .int .i64 1] w fun e w' => e = .returned (.int .i64 (1 + n)) ∧ Below w.heap.size w w' :=
  heldStrings_any A c n B 1 w h hB (Nat.le_refl _) (by omega) hn

theorem good_count (s : ByteArray) : ∀ k, (accOf s k).length + (if (splitSt s 32 k).2 < k then 1 else 0) ≤ k
  | 0 => by simp [accOf, splitSt]
  | k + 1 => by
    have ih := good_count s k
    have hle := splitSt_le s 32 k
    unfold accOf at ih ⊢
    rw [splitSt]
    split
    · simp only [List.filter_append, List.length_append, if_neg (Nat.lt_irrefl _)]
      by_cases hlt : (splitSt s 32 k).2 < k
      · rw [if_pos hlt] at ih
        rw [List.filter_cons_of_pos (p := goodP) (by simp [goodP, hlt])]
        simp
        omega
      · rw [List.filter_cons_of_neg (p := goodP) (by simp [goodP, hlt])]
        simp
        omega
    · rw [if_pos (by omega)]
      split at ih <;> omega

theorem words_count (s : ByteArray) : (wordsL s).length ≤ s.size := by
  have h := good_count s s.size
  have h1 : ∀ x ∈ (splitSt s 32 s.size).1, x.2 ≤ s.size := splitSt_in s s.size
  unfold wordsL splitL
  rw [List.filter_append, filter_strs s _ h1, List.length_append]
  have e : (strsOf s ((splitSt s 32 s.size).1.filter goodP)).length = (accOf s s.size).length := by simp [strsOf, accOf]
  rw [e]
  have ee := extract_pos s (splitSt s 32 s.size).2 s.size (Nat.le_refl _)
  by_cases hlt : (splitSt s 32 s.size).2 < s.size
  · rw [if_pos hlt] at h
    have := List.length_filter_le (fun x : ByteArray => decide (0 < x.size)) [s.extract (splitSt s 32 s.size).2 s.size]
    simp only [List.length_cons, List.length_nil] at this
    omega
  · rw [List.filter_cons_of_neg (p := fun x : ByteArray => decide (0 < x.size)) (by rw [ee]; simpa using hlt), List.filter_nil, List.length_nil]
    omega

theorem walk_long (s : ByteArray) (hs : s.size ≤ maxLen) (hn : 1048576 < s.size) (w : World) :
    Calls Try.prog 4 #[.string s] w fun e w' => e = .returned (.bool true) ∧ Below w.heap.size w w' := by
  unfold maxLen at hs
  go_enter Try.func4, Try.ntmps4
  go_wp2
  go_ret
  exact ⟨rfl, Below.refl _ _⟩

theorem walk_short (s : ByteArray) (hs : s.size ≤ 1048576) (ss : List ByteArray) (hn : ss.length ≤ 1048576)
    (h1 : ∀ W, Calls Try.prog 7 #[.string s] W (GivesTexts ss W))
    (h2 : ∀ W, Calls Try.prog 8 #[.string s] W (GivesTexts ss W)) (w : World) :
    Calls Try.prog 4 #[.string s] w fun e w' => e = .returned (.bool true) ∧ Below w.heap.size w w' := by
  have H1 := Lib.hid h1
  have H2 := Lib.hid h2
  clear h1 h2
  go_enter Try.func4, Try.ntmps4
  go_wp2_with fail
  refine (H1.out _).mono ?_
  intro e w1 hG
  obtain ⟨g1, c1, x1, rfl, hg1, hb, hr⟩ := gives_row hG
  have G1 := Lib.hid hg1
  have B1 := Lib.hid hb
  have R1 := Lib.hid hr
  clear hG hg1 hb hr
  go_wp2_with fail
  refine (H2.out _).mono ?_
  intro e w2 hG
  obtain ⟨g2, c2, x2, rfl, hg2, hb, hr⟩ := gives_row hG
  have N12 : Hid (g1 < g2) := Nat.lt_of_lt_of_le R1.out.lt hg2
  have G2 : Hid (w.heap.size ≤ g2) := Nat.le_trans B1.out.size hg2
  have B2 := Lib.hid (below_step B1.out hb)
  have R1b := Lib.hid (R1.out.later hb)
  have R2 := Lib.hid hr
  clear hG hg2 hb hr B1 R1
  go_wp2_with fail
  refine (eqTexts_any (some ⟨g2, 0, none⟩) (some ⟨g1, 0, none⟩) c2 c1 ss (g2 + 1) (g1 + 1) _ R2.out.texts R1b.out.texts hn).mono ?_
  rintro e w3 ⟨rfl, hb⟩
  have B3 := Lib.hid (below_step B2.out hb)
  have R1c := Lib.hid (R1b.out.later hb)
  have R2c := Lib.hid (R2.out.later hb)
  clear hb B2 R1b R2
  go_wp2_with fail
  refine (markTexts_any g2 c2 ss x2 _ R2c.out hn).mono ?_
  rintro e w4 ⟨rfl, hg, hr⟩
  have B4 := Lib.hid (below_only B3.out hg G2.out)
  have R1d := Lib.hid (TRow.only R1c.out hg (Nat.ne_of_lt N12.out))
  have R2d := Lib.hid hr
  clear hg hr B3 R1c R2c
  go_wp2_with fail
  refine (heldTexts_any (some ⟨g2, 0, none⟩) c2 ss.length (g2 + 1) _ R2d.out.texts R2d.out.lt hn).mono ?_
  rintro e w5 ⟨rfl, hb⟩
  have B5 := Lib.hid (below_step B4.out hb)
  have R1e := Lib.hid (R1d.out.later hb)
  have R2e := Lib.hid (R2d.out.later hb)
  clear hb B4 R1d R2d
  go_wp2_with fail
  refine (H2.out _).mono ?_
  intro e w6 hG
  obtain ⟨g3, c3, x3, rfl, hg3, hb, hr⟩ := gives_row hG
  have B6 := Lib.hid (below_step B5.out hb)
  have R1f := Lib.hid (R1e.out.later hb)
  have R2f := Lib.hid (R2e.out.later hb)
  have R3 := Lib.hid hr
  clear hG hg3 hb hr B5 R1e R2e
  go_wp2_with fail
  refine (eqTexts_any (some ⟨g3, 0, none⟩) (some ⟨g1, 0, none⟩) c3 c1 ss (g3 + 1) (g1 + 1) _ R3.out.texts R1f.out.texts hn).mono ?_
  rintro e w7 ⟨rfl, hb⟩
  have B7 := Lib.hid (below_step B6.out hb)
  have R2g := Lib.hid (R2f.out.later hb)
  clear hb B6 R1f R2f R3
  go_wp2_with fail
  refine (heldTexts_any (some ⟨g2, 0, none⟩) c2 ss.length (g2 + 1) _ R2g.out.texts R2g.out.lt hn).mono ?_
  rintro e w8 ⟨rfl, hb⟩
  have B8 := Lib.hid (below_step B7.out hb)
  clear hb B7 R2g
  go_wp2
  go_ret
  exact ⟨rfl, B8.out⟩

theorem walk (s : ByteArray) (hs : s.size ≤ maxLen) (w : World) :
    Calls Try.prog 4 #[.string s] w fun e w' => e = .returned (.bool true) ∧ Below w.heap.size w w' := by
  by_cases hn : s.size ≤ 1048576
  · exact walk_short s hn (wordsL s) (Nat.le_trans (words_count s) hn) (fun W => specSplitWords_any s hn W) (fun W => implSplitWords_any s hn W) w
  · exact walk_long s hs (by omega) w

set_option maxRecDepth 100000 in
theorem lifted (os : Os) (started : os.Started) (H : Type) (enc : TypeId × Value → H) :
    ReturnsInHanded {} Try.checked os 4 .any (Rows.fnExactSplitWordsSpec.pre6 enc Try.prog Try.f4 Rows.fnExactSplitWordsRow.domain false) (Rows.fnExactSplitWordsSpec.post enc Try.prog Try.f4 false true false false) := by
  refine returnsInHanded_of_change (C := Try.checked) own started (by kernel_rfl) Try.func4
    (ChangeSpec.witness6 (enc := enc) (C := Try.checked) false ⟨#[], #[.string ByteArray.empty], []⟩ 8 (by kernel_rfl) (by kernel_rfl) (by kernel_rfl) (by kernel_rfl)) ?_
  intro W base args ds gs before hval0 hW _ _
  have hval : ∀ (j : Nat) t v, Try.f4.params[j]? = some t → args[j]? = some v → Value.okWide Try.prog W .any base t v := hval0
  have hW' := hW
  obtain ⟨p, q, hA0, hV, rfl, _, _⟩ := hW
  have hA : DataW.TrodAll enc Try.prog W 0 (fun _ => true) true Try.f4.params.toList args.toList ds p := hA0
  rw [Try.params4] at hA hval
  obtain ⟨v0, vs0, d0, ds0, p0, q0, hargs, rfl, rfl, h0, r0⟩ := trodAll_cons hA
  obtain ⟨rfl, rfl, rfl⟩ := trodAll_nil r0
  obtain rfl : args = #[v0] := by cases args; simp_all
  obtain ⟨rfl, rfl⟩ := trodVars_none hV
  obtain ⟨s0, rfl, rfl, rfl, hs0⟩ := open_string Try.underlying9 (hval 0 9 v0 rfl rfl) h0
  refine (walk s0 hs0 W).mono fun e W' ⟨he, hb⟩ => ?_
  subst he
  refine ⟨_, rfl, law_post hW' rfl rfl ?_ rfl rfl rfl hb⟩
  intro t ht
  rw [Try.params4] at ht
  obtain rfl : t = 9 := by simpa using ht
  exact ⟨by kernel_rfl, of_decide_eq_true (by kernel_rfl)⟩

theorem over : Rows.fnExactSplitWordsRow.holds Try.pinned (OpenSpec.ofChange Rows.fnExactSplitWordsSpec) :=
  OpenClaim.holds_of_wide 4 Try.f4 rfl rfl rfl rfl rfl rfl rfl ⟨rfl, rfl, rfl, rfl, rfl⟩ rfl rfl rfl rfl rfl (by kernel_rfl) Try.func4 (by kernel_rfl)
    (of_decide_eq_true (by kernel_rfl)) (by unfold Func.isWrapper; first | (rw [if_pos (by decide +kernel)]; kernel_rfl) | (rw [if_neg (by decide +kernel)]; exact ⟨rfl, rfl⟩))
    (fun os started H enc _ => lifted os started H enc)

theorem proved : Rows.FnExactSplitWordsSaid :=
  over
end Go.Proofs.Ytfjokjdfekkbiac.fnExactSplitWords
