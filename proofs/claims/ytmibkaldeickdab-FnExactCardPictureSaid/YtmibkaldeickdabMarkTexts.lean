/- The laws' helpers that write marks into a slice of strings and look for them again do so: contracts of laws.markStringS, heldStringS, for slices of at most 1048576 elements. -/
import Derived.Test.YtmibkaldeickdabMarkText
import Derived.Deep.RegionHeld3
namespace Go.Proofs.Ytmibkaldeickdab
open Go.ChangeShapes Go.WideShapes Go.ChangeAt Go.RowKit

/-- Block g holds ss, then ex. -/
def TRow (w : World) (g : Nat) (ss : List ByteArray) (ex : List Value) : Prop :=
  w.heap[g]? = some (.cells ((ss.map Value.string) ++ ex).toArray 9 (0, 0))

section
variable {w w' : World} {g : Nat} {ss : List ByteArray} {ex : List Value}
theorem TRow.lt (h : TRow w g ss ex) : g < w.heap.size := by
  rcases Nat.lt_or_ge g w.heap.size with hlt | hge
  · exact hlt
  · unfold TRow at h
    rw [Array.getElem?_eq_none hge] at h
    cases h
theorem TRow.cell (h : TRow w g ss ex) {i : Nat} {s : ByteArray} (hi : ss[i]? = some s) : w.cell? ⟨g, i, none⟩ = some (.string s) := by
  obtain ⟨h1, rfl⟩ := List.getElem?_eq_some_iff.1 hi
  rw [cell_of_row w g i _ _ _ h]
  simp [List.getElem?_append_left, h1]
theorem TRow.frozen (h : TRow w g ss ex) (i : Nat) : w.frozen? ⟨g, i, none⟩ = false := by
  unfold TRow at h
  simp [World.frozen?, h]
theorem TRow.texts (h : TRow w g ss ex) : Texts w (g + 1) (some ⟨g, 0, none⟩) ss := fun _ => ⟨g, 0, rfl, by omega, fun i s hi => by rw [Nat.zero_add]; exact h.cell hi⟩
theorem TRow.drew (h : TRow w g ss ex) : TRow w.drew g ss ex := h
theorem TRow.drewN (h : TRow w g ss ex) (n : Nat) : TRow (w.drewN n) g ss ex := h
theorem TRow.later (h : TRow w g ss ex) (hb : Below w.heap.size w w') : TRow w' g ss ex := (hb.block g h.lt).trans h
theorem TRow.set {i : Nat} (h : TRow w g ss ex) (hi : i < ss.length) (s : ByteArray) : TRow (w.setCell ⟨g, i, none⟩ (.string s)) g (ss.set i s) ex := by
  unfold TRow at h ⊢
  simp only [World.setCell, Array.getElem?_modify, if_true, h, Option.map_some]
  congr 2
  apply Array.ext'
  simp [List.set_append_left, hi, List.map_set]
theorem TRow.only {g' : Nat} (hr : TRow w g ss ex) (h : w.grownBy w' (some g')) (hne : g ≠ g') : TRow w' g ss ex :=
  (h.block g hr.lt (fun e => hne (by injection e))).trans hr
theorem only_below (hb : Below w.heap.size w w') : w.grownBy w' (some g) := ⟨hb.os, hb.tape, hb.output, hb.size, fun i hi _ => hb.block i hi⟩
end

/-- the n marks from k on, as texts -/
def mtexts (k n : Nat) : List ByteArray := (List.range n).map fun i => mtext (k + i)
theorem mtexts_length (k n : Nat) : (mtexts k n).length = n := by simp [mtexts]
theorem mtexts_get (k n i : Nat) (h : i < n) : (mtexts k n)[i]? = some (mtext (k + i)) := by simp [mtexts, h]
def tmarked (ss : List ByteArray) (k j : Nat) : List ByteArray := mtexts k j ++ ss.drop j
theorem tmarked_length (ss : List ByteArray) (k j : Nat) (h : j ≤ ss.length) : (tmarked ss k j).length = ss.length := by simp [tmarked, mtexts]; omega
theorem tmarked_all (ss : List ByteArray) (k : Nat) : tmarked ss k ss.length = mtexts k ss.length := by simp [tmarked]
theorem tmarked_set (ss : List ByteArray) (k j : Nat) (h : j < ss.length) : (tmarked ss k j).set j (mtext (k + j)) = tmarked ss k (j + 1) := by
  apply List.ext_getElem?
  intro i
  have h1 : (mtexts k j).length = j := mtexts_length k j
  have h2 : (mtexts k (j + 1)).length = j + 1 := mtexts_length k (j + 1)
  have h3 : j < (tmarked ss k j).length := by rw [tmarked_length ss k j (by omega)]; exact h
  rw [List.getElem?_set]
  unfold tmarked at h3 ⊢
  by_cases hi : j = i
  · subst hi
    rw [if_pos rfl, if_pos h3, List.getElem?_append_left (by omega)]
    simp [mtexts]
  · rw [if_neg hi]
    by_cases hlt : i < j
    · rw [List.getElem?_append_left (by omega), List.getElem?_append_left (by omega)]
      simp [mtexts, hlt, show i < j + 1 by omega]
    · rw [List.getElem?_append_right (by omega), List.getElem?_append_right (by omega), h1, h2, List.getElem?_drop, List.getElem?_drop]
      congr 1
      omega

theorem markStrings_any (g c : Nat) (ss : List ByteArray) (ex : List Value) (k : Nat) (w : World) (h : TRow w g ss ex) (h0 : 1 ≤ k) (h1 : k ≤ 1073741824) (hn : ss.length ≤ 1048576) :
    Calls Try.prog 13 #[.slice (some ⟨g, 0, none⟩) ss.length c, .int .i64 k] w fun e w' => e = .returned (.int .i64 ((k : Int) + ss.length)) ∧ w.grownBy w' (some g) ∧ TRow w' g (mtexts k ss.length) ex := by
  obtain ⟨n, hN⟩ : ∃ n, ss.length = n := ⟨_, rfl⟩
  have H := Lib.hid h
  have HN := Lib.hid hN
  rw [hN] at hn ⊢
  clear h hN
  go_enter Try.func13, Try.ntmps13
  go_wp2
  go_loopw [1, 5] (fun kk i wr => ∃ j q : Nat, j ≤ n ∧ i = .int .i64 j ∧ kk = .int .i64 q ∧ Hid (q = k + j) ∧ Hid (w.grownBy wr (some g)) ∧ Hid (TRow wr g (tmarked ss k j) ex)) (fun _ i _ => n - (intOf i).toNat)
  case atStart => exact ⟨0, k, Nat.zero_le _, rfl, rfl, rfl, World.grownBy.refl w _, by simpa [Hid, tmarked, mtexts] using H.out⟩
  case round =>
    obtain ⟨j, q, hj, rfl, rfl, HQ, HG, HR⟩ := hrel
    have hq1 : 1 ≤ q := by have := HQ.out; omega
    have hq2 : q ≤ 1099511627776 := by have := HQ.out; omega
    by_cases hlt : j < n
    · have hl := tmarked_length ss k j (by rw [HN.out]; exact hj)
      obtain ⟨u, hu⟩ : ∃ u, (tmarked ss k j)[j]? = some u := ⟨(tmarked ss k j)[j]'(by rw [hl, HN.out]; exact hlt), List.getElem?_eq_getElem _⟩
      have HU := Lib.hid (HR.out.cell hu)
      have HL := Lib.hid (hl.trans HN.out)
      have HC := Lib.hid (markText_any q wr hq1 hq2)
      have hk0 : (0 : Int) ≤ (j : Int) := Int.natCast_nonneg _
      have hk1 : (j : Int) < (n : Int) := by omega
      clear hl hu H
      go_wp2_with fail
      refine HC.out.mono ?_
      rintro e w2 ⟨rfl, hb⟩
      have c2 := cell_kept HU.out hb
      have f2 := (HR.out.later hb).frozen j
      have HR2 := Lib.hid (HR.out.later hb)
      have HG2 := Lib.hid (only_step HG.out (only_below hb))
      clear hb HC
      go_wp2
      go_roundw
      case rel =>
        refine ⟨j + 1, q + 1, by omega, by go_num, by go_num, by have := HQ.out; show _ = _; omega, only_step HG2.out (only_set _ _ _ _), ?_⟩
        have := HR2.out.set (i := j) (by rw [HL.out]; exact hlt) (mtext q)
        rw [HQ.out, tmarked_set ss k j (by rw [HN.out]; exact hlt), ← HQ.out] at this
        exact this
      case measure => simp [intOf]; omega
    · have hjn : j = n := by omega
      have hk1 : ¬ (j : Int) < (n : Int) := by omega
      have HQ2 : Hid ((q : Int) = k + n) := by have := HQ.out; show _ = _; omega
      have HR2 : Hid (TRow wr g (mtexts k n) ex) := by
        have := HR.out
        rw [hjn, ← HN.out, tmarked_all, HN.out] at this
        exact this
      clear hjn H
      go_wp2
      go_ret
      have hq := HQ2.out
      refine ⟨?_, HG.out, HR2.out⟩
      rw [← hq]
      rfl

theorem heldStrings_any (A : Option Addr) (c n B k : Nat) (w : World) (h : Texts w B A (mtexts k n)) (hB : B ≤ w.heap.size) (h0 : 1 ≤ k) (h1 : k ≤ 1073741824) (hn : n ≤ 1048576) :
    Calls Try.prog 14 #[.slice A n c, .int .i64 k] w fun e w' => e = .returned (.int .i64 ((k : Int) + n)) ∧ Below w.heap.size w w' := by
  have H := Lib.hid h
  clear h
  go_enter Try.func14, Try.ntmps14
  go_wp2
  go_loopw [1, 5] (fun kk i wr => ∃ j q : Nat, j ≤ n ∧ i = .int .i64 j ∧ kk = .int .i64 q ∧ Hid (q = k + j) ∧ Hid (Below w.heap.size w wr)) (fun _ i _ => n - (intOf i).toNat)
  case atStart => exact ⟨0, k, Nat.zero_le _, rfl, rfl, rfl, Below.refl _ _⟩
  case round =>
    obtain ⟨j, q, hj, rfl, rfl, HQ, HB⟩ := hrel
    have hq1 : 1 ≤ q := by have := HQ.out; omega
    have hq2 : q ≤ 1099511627776 := by have := HQ.out; omega
    by_cases hlt : j < n
    · obtain ⟨b, off, rfl, hb, hcell⟩ := (H.out.below (HB.out.mono hB)) (by rw [mtexts_length]; omega)
      have h2 := hcell j _ (mtexts_get k n j hlt)
      rw [← HQ.out] at h2
      have HC := Lib.hid (markText_any q wr.drew hq1 hq2)
      have hk0 : (0 : Int) ≤ (j : Int) := Int.natCast_nonneg _
      have hk1 : (j : Int) < (n : Int) := by omega
      obtain ⟨s, hs⟩ : ∃ s, mtext q = s := ⟨_, rfl⟩
      rw [hs] at h2 HC
      clear hcell H hs
      go_wp2
      go_region_held3 (fun W => W.cell? ⟨b, off + j, none⟩ = some (.string s))
        (first | exact h2 | exact h3)
        (first
          | (go_at_call 30
             refine HC.out.mono ?_
             rintro e2 w2 ⟨rfl, hb2⟩
             have HB2 := Lib.hid (below_step HB.out.drew hb2)
             have h3 := cell_kept (w := wr.drew) h2 hb2
             clear hb2))
      go_wp2
      go_roundw
      case rel => exact ⟨j + 1, q + 1, by omega, by go_num, by go_num, by have := HQ.out; show _ = _; omega, HB2.out⟩
      case measure => simp [intOf]; omega
    · have HQ2 : Hid ((q : Int) = k + n) := by have := HQ.out; show _ = _; omega
      have hk1 : ¬ (j : Int) < (n : Int) := by omega
      clear H
      go_wp2
      go_ret
      have hq := HQ2.out
      refine ⟨?_, HB.out⟩
      rw [← hq]
      rfl
end Go.Proofs.Ytmibkaldeickdab
