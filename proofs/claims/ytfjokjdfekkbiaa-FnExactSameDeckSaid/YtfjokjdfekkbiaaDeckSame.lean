/- spec.SameDeck and impl.SameDeck (slices.EqualFunc with impl.SameCard) answer whether two lists of cards have the same holes, for every two lists of at most 1048576 cards of at most 1048576 columns: contracts. -/
import Derived.Test.YtfjokjdfekkbiaaDecks
import Derived.Test.YtfjokjdfekkbiaaSame
import Derived.Deep.QuietTactic
import Derived.BigQuiet
namespace Go.Proofs.Ytfjokjdfekkbiaa
open Go.ChangeShapes Go.WideShapes Go.ChangeAt Go.RowKit

theorem specSameDeck_any (A A' : Option Addr) (c c' : Nat) (D E : List CardV) (B B' : Nat) (w : World) (h : Deck w B A D) (h' : Deck w B' A' E) (hB : B ≤ w.heap.size) (hB' : B' ≤ w.heap.size) (hn : D.length ≤ 1048576) (_ : E.length ≤ 140737488355328)
    (hl : ∀ d ∈ D, d.xs.length ≤ 1048576) (hl' : ∀ d ∈ E, d.xs.length ≤ 1048576) :
    Calls Try.prog 27 #[.slice A D.length c, .slice A' E.length c'] w fun e w' => e = .returned (.bool (decide (holes D = holes E))) ∧ Below w.heap.size w w' := by
  by_cases hll : D.length = E.length
  · obtain ⟨n, hN⟩ : ∃ n, D.length = n := ⟨_, rfl⟩
    obtain ⟨r, hr⟩ : ∃ r, decide (holes D = holes E) = r := ⟨_, rfl⟩
    rw [hr]
    rw [hN] at hn ⊢
    rw [← hll, hN]
    have H := Lib.hid h
    have H' := Lib.hid h'
    have HN := Lib.hid hN
    have HE := Lib.hid (hll.symm.trans hN)
    have HR := Lib.hid hr
    have HL := Lib.hid hl
    have HL' := Lib.hid hl'
    clear h h' hN hll hr hl hl'
    go_enter Try.func27, Try.ntmps27
    go_wp2
    go_loopw [5] (fun i wr => ∃ k : Nat, k ≤ n ∧ i = .int .i64 k ∧ Hid (Below w.heap.size w wr) ∧ Hid ((holes D).take k = (holes E).take k)) (fun i _ => n - (intOf i).toNat)
    case atStart => exact ⟨0, Nat.zero_le _, rfl, Below.refl _ _, by show _ = _; simp⟩
    case round =>
      obtain ⟨k, hk, rfl, HB, HK⟩ := hrel
      by_cases hlt : k < n
      · obtain ⟨d, hd⟩ : ∃ d, D[k]? = some d := ⟨D[k]'(by rw [HN.out]; exact hlt), List.getElem?_eq_getElem _⟩
        obtain ⟨e, he⟩ : ∃ e, E[k]? = some e := ⟨E[k]'(by rw [HE.out]; exact hlt), List.getElem?_eq_getElem _⟩
        obtain ⟨b, off, rfl, hb, hcell⟩ := (H.out.below (HB.out.mono hB)) (by rw [HN.out]; omega)
        obtain ⟨b', off', rfl, hb', hcell'⟩ := (H'.out.below (HB.out.mono hB')) (by rw [HE.out]; omega)
        obtain ⟨hc, hi⟩ := hcell k d hd
        obtain ⟨hc', hi'⟩ := hcell' k e he
        have hm := HL.out d (List.mem_of_getElem? hd)
        have hm' := HL'.out e (List.mem_of_getElem? he)
        have HC := Lib.hid (fun m => l00Same_any d.at_ e.at_ d.cap e.cap d.xs e.xs B B' (wr.drewN m) (hi.drewN m) (hi'.drewN m) hm (by omega))
        have hdx : (holes D)[k]? = some d.xs := by simp [holes, hd]
        have hex : (holes E)[k]? = some e.xs := by simp [holes, he]
        have HX := Lib.hid hdx
        have HY := Lib.hid hex
        have hk0 : (0 : Int) ≤ (k : Int) := Int.natCast_nonneg _
        have hk1 : (k : Int) < (n : Int) := by omega
        unfold CardV.value at hc hc'
        obtain ⟨q, hq⟩ : ∃ q, decide (d.xs = e.xs) = q := ⟨_, rfl⟩
        have HQ := Lib.hid hq
        rw [hq] at HC
        clear hcell hcell' hd he hi hi' hm hm' hdx hex hq H H'
        cases q
        · obtain rfl : r = false := by
            rw [← HR.out]
            simp only [decide_eq_false_iff_not]
            intro ee
            have := HX.out
            rw [ee, HY.out] at this
            injection this with this
            have hq := HQ.out
            rw [this] at hq
            simp at hq
          go_wp2
          go_quiet ((go_at_call 56; exact Calls.quiet_of (HC.out _)))
          go_wp2
          go_ret
          exact ⟨rfl, below_drewN HB.out _⟩
        · have HK1 : Hid ((holes D).take (k + 1) = (holes E).take (k + 1)) := takeL_more _ _ k d.xs e.xs HX.out HY.out HK.out (by simpa using HQ.out)
          go_wp2
          go_quiet ((go_at_call 56; exact Calls.quiet_of (HC.out _)))
          go_wp2
          go_roundw
          case rel => exact ⟨k + 1, by omega, by go_num, below_drewN HB.out _, HK1⟩
          case measure => simp [intOf]; omega
      · have hkn : k = n := by omega
        obtain rfl : r = true := by
          rw [← HR.out]
          have := HK.out
          rw [List.take_of_length_le (by simp [holes]; rw [HN.out]; omega), List.take_of_length_le (by simp [holes]; rw [HE.out]; omega)] at this
          simpa using this
        have hk1 : ¬ (k : Int) < (n : Int) := by omega
        clear hkn H H'
        go_wp2
        go_ret
        exact ⟨rfl, HB.out⟩
  · have e : decide (holes D = holes E) = false := by
      simp only [decide_eq_false_iff_not]
      intro ee
      apply hll
      have := congrArg List.length ee
      simpa [holes] using this
    rw [e]
    have hne : ((D.length : Int) != (E.length : Int)) = true := by rw [bne_iff_ne]; omega
    clear e h h' hl hl'
    go_enter Try.func27, Try.ntmps27
    go_wp2
    go_ret
    exact ⟨rfl, Below.refl _ _⟩

theorem equalFunc_any (A A' : Option Addr) (c c' : Nat) (D E : List CardV) (B B' : Nat) (w : World) (h : Deck w B A D) (h' : Deck w B' A' E) (hB : B ≤ w.heap.size) (hB' : B' ≤ w.heap.size) (hn : D.length ≤ 1048576) (_ : E.length ≤ 140737488355328)
    (hl : ∀ d ∈ D, d.xs.length ≤ 1048576) (hl' : ∀ d ∈ E, d.xs.length ≤ 1048576) :
    Calls Try.prog 59 #[.slice A D.length c, .slice A' E.length c', .func (.func 21) #[] #[]] w fun e w' => e = .returned (.bool (decide (holes D = holes E))) ∧ Below w.heap.size w w' := by
  by_cases hll : D.length = E.length
  · obtain ⟨n, hN⟩ : ∃ n, D.length = n := ⟨_, rfl⟩
    obtain ⟨r, hr⟩ : ∃ r, decide (holes D = holes E) = r := ⟨_, rfl⟩
    rw [hr]
    rw [hN] at hn ⊢
    rw [← hll, hN]
    have H := Lib.hid h
    have H' := Lib.hid h'
    have HN := Lib.hid hN
    have HE := Lib.hid (hll.symm.trans hN)
    have HR := Lib.hid hr
    have HL := Lib.hid hl
    have HL' := Lib.hid hl'
    clear h h' hN hll hr hl hl'
    go_enter Try.func59, Try.ntmps59
    go_wp2
    go_loopw [17] (fun i wr => ∃ k : Nat, k ≤ n ∧ i = .int .i64 k ∧ Hid (Below w.heap.size w wr) ∧ Hid ((holes D).take k = (holes E).take k)) (fun i _ => n - (intOf i).toNat)
    case atStart => exact ⟨0, Nat.zero_le _, rfl, Below.refl _ _, by show _ = _; simp⟩
    case round =>
      obtain ⟨k, hk, rfl, HB, HK⟩ := hrel
      by_cases hlt : k < n
      · obtain ⟨d, hd⟩ : ∃ d, D[k]? = some d := ⟨D[k]'(by rw [HN.out]; exact hlt), List.getElem?_eq_getElem _⟩
        obtain ⟨e, he⟩ : ∃ e, E[k]? = some e := ⟨E[k]'(by rw [HE.out]; exact hlt), List.getElem?_eq_getElem _⟩
        obtain ⟨b, off, rfl, hb, hcell⟩ := (H.out.below (HB.out.mono hB)) (by rw [HN.out]; omega)
        obtain ⟨b', off', rfl, hb', hcell'⟩ := (H'.out.below (HB.out.mono hB')) (by rw [HE.out]; omega)
        obtain ⟨hc, hi⟩ := hcell k d hd
        obtain ⟨hc', hi'⟩ := hcell' k e he
        have hm := HL.out d (List.mem_of_getElem? hd)
        have hm' := HL'.out e (List.mem_of_getElem? he)
        have hB1 : B ≤ wr.heap.size := Nat.le_trans hB HB.out.size
        have hB1' : B' ≤ wr.heap.size := Nat.le_trans hB' HB.out.size
        have HC := Lib.hid (implSameCard_any d.at_ e.at_ d.cap e.cap d.xs e.xs B B' _ ((hi.alloc hB1 (.cells #[.slice d.at_ d.xs.length d.cap] 27)).alloc (by simp; omega) (.cells #[.slice e.at_ e.xs.length e.cap] 27)) ((hi'.alloc hB1' _).alloc (by simp; omega) _) (by simp; omega) (by simp; omega) hm (by omega))
        have hlt' := World.block_lt_of_cell? _ _ hc'
        have hc2' : (wr.alloc (.cells #[.slice d.at_ d.xs.length d.cap] 27)).cell? ⟨b', off' + k, none⟩ = some e.value := by rw [World.cell?_alloc_lt _ _ _ hlt']; exact hc'
        have hdx : (holes D)[k]? = some d.xs := by simp [holes, hd]
        have hex : (holes E)[k]? = some e.xs := by simp [holes, he]
        have HX := Lib.hid hdx
        have HY := Lib.hid hex
        have hk0 : (0 : Int) ≤ (k : Int) := Int.natCast_nonneg _
        have hk1 : (k : Int) < (n : Int) := by omega
        unfold CardV.value at hc hc' hc2'
        obtain ⟨q, hq⟩ : ∃ q, decide (d.xs = e.xs) = q := ⟨_, rfl⟩
        have HQ := Lib.hid hq
        rw [hq] at HC
        clear hcell hcell' hd he hi hi' hm hm' hdx hex hq H H'
        cases q
        · obtain rfl : r = false := by
            rw [← HR.out]
            simp only [decide_eq_false_iff_not]
            intro ee
            have := HX.out
            rw [ee, HY.out] at this
            injection this with this
            have hq := HQ.out
            rw [this] at hq
            simp at hq
          go_wp2_with fail
          refine HC.out.mono ?_
          rintro e2 w2 ⟨rfl, hb2⟩
          have HB2 := Lib.hid (below_step (below_step (below_step HB.out (below_box _ _)) (below_box _ _)) hb2)
          clear hb2
          go_wp2
          go_ret
          exact ⟨rfl, HB2.out⟩
        · have HK1 : Hid ((holes D).take (k + 1) = (holes E).take (k + 1)) := takeL_more _ _ k d.xs e.xs HX.out HY.out HK.out (by simpa using HQ.out)
          go_wp2_with fail
          refine HC.out.mono ?_
          rintro e2 w2 ⟨rfl, hb2⟩
          have HB2 := Lib.hid (below_step (below_step (below_step HB.out (below_box _ _)) (below_box _ _)) hb2)
          clear hb2
          go_wp2
          go_roundw
          case rel => exact ⟨k + 1, by omega, by go_num, HB2.out, HK1⟩
          case measure => simp [intOf]; omega
      · have hkn : k = n := by omega
        obtain rfl : r = true := by
          rw [← HR.out]
          have := HK.out
          rw [List.take_of_length_le (by simp [holes]; rw [HN.out]; omega), List.take_of_length_le (by simp [holes]; rw [HE.out]; omega)] at this
          simpa using this
        have hk1 : ¬ (k : Int) < (n : Int) := by omega
        clear hkn H H'
        go_wp2
        go_ret
        exact ⟨rfl, HB.out⟩
  · have e : decide (holes D = holes E) = false := by
      simp only [decide_eq_false_iff_not]
      intro ee
      apply hll
      have := congrArg List.length ee
      simpa [holes] using this
    rw [e]
    have hne : ((D.length : Int) != (E.length : Int)) = true := by rw [bne_iff_ne]; omega
    clear e h h' hl hl'
    go_enter Try.func59, Try.ntmps59
    go_wp2
    go_ret
    exact ⟨rfl, Below.refl _ _⟩

theorem implSameDeck_any (A A' : Option Addr) (c c' : Nat) (D E : List CardV) (B B' : Nat) (w : World) (h : Deck w B A D) (h' : Deck w B' A' E) (hB : B ≤ w.heap.size) (hB' : B' ≤ w.heap.size) (hn : D.length ≤ 1048576) (hn' : E.length ≤ 140737488355328)
    (hl : ∀ d ∈ D, d.xs.length ≤ 1048576) (hl' : ∀ d ∈ E, d.xs.length ≤ 1048576) :
    Calls Try.prog 28 #[.slice A D.length c, .slice A' E.length c'] w fun e w' => e = .returned (.bool (decide (holes D = holes E))) ∧ Below w.heap.size w w' := by
  have HC := Lib.hid (equalFunc_any A A' c c' D E B B' w h h' hB hB' hn hn' hl hl')
  obtain ⟨n, hN⟩ : ∃ n, D.length = n := ⟨_, rfl⟩
  obtain ⟨m, hM⟩ : ∃ m, E.length = m := ⟨_, rfl⟩
  obtain ⟨r, hr⟩ : ∃ r, decide (holes D = holes E) = r := ⟨_, rfl⟩
  rw [hN, hM, hr] at HC
  rw [hN, hM, hr]
  clear h h' hl hl' hN hM hr hn hn'
  go_enter Try.func28, Try.ntmps28
  go_wp2_with fail
  refine HC.out.mono ?_
  rintro e2 w2 ⟨rfl, hb2⟩
  have HB2 := Lib.hid hb2
  clear hb2
  go_wp2
  go_ret
  exact ⟨rfl, HB2.out⟩
end Go.Proofs.Ytfjokjdfekkbiaa
