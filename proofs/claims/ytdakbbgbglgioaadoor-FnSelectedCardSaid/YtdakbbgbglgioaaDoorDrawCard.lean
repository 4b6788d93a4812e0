/- spec.l03Card gives the card of a text, for every text of 1 to 64 bytes: contract. -/
import Derived.Test.YtdakbbgbglgioaaDoorStepOwn
import Derived.Test.YtdakbbgbglgioaaDoorDrawText
import Derived.Test.YtdakbbgbglgioaaDoorPunchText
import Derived.Test.YtdakbbgbglgioaaDoorOwnCard
import Derived.Deep.RegionHeld3
import Derived.Deep.RegionLaw
import Derived.StillTailTactics
namespace Go.Proofs.YtdakbbgbglgioaaDoor
open Go.ChangeShapes Go.WideShapes Go.ChangeAt Go.RowKit

/-- the first k numbers of a text's holes, as cells -/
def codeCells (s : ByteArray) (k : Nat) : List Value := ((textCodes s).take k).map (Value.int .i64)
theorem codeCells_step (s : ByteArray) (k : Nat) (h : k < s.size) : codeCells s (k + 1) = codeCells s k ++ [Value.int .i64 (codeS ((s[k]'h).toNat : Int))] := by
  have hl := textCodes_length s
  have hg := textCodes_get s k h
  rw [List.getElem?_eq_getElem (by omega)] at hg
  injection hg with hg
  rw [codeCells, codeCells, List.take_succ_eq_append_getElem (by omega), hg]
  simp

/-- The card of a text, in new memory. -/
def GivesTextCard (s : ByteArray) (w : World) (e : Ending) (w' : World) : Prop :=
  ∃ g cap ex, e = .returned (.agg #[.slice (some ⟨g, 0, none⟩) s.size cap]) ∧ s.size ≤ cap ∧ cap ≤ maxLen ∧ w.heap.size ≤ g ∧ Below w.heap.size w w' ∧ Row w' g (textCodes s) ex

set_option maxHeartbeats 2000000 in
set_option maxRecDepth 100000 in
theorem l03Card_any (s : ByteArray) (h1 : 1 ≤ s.size) (h64 : s.size ≤ 64) (w : World) :
    Calls Tryd.prog 66 #[.string s] w (GivesTextCard s w) := by
  obtain ⟨i0, hi0, hz0, hz1, hz2⟩ := info_parts info_int
  have HC := Lib.hid l03Code_any
  go_enter Tryd.func66, Tryd.ntmps66
  go_wp2
  go_loopw [4] (fun i wr => ∃ k : Nat, ∃ v : Value, k ≤ s.size ∧ i = .int .i64 k ∧ Hid (Below w.heap.size w wr) ∧ w.heap.size + 2 ≤ wr.heap.size ∧ wr.cell? ⟨w.heap.size + 1, 0, none⟩ = some v ∧ wr.frozen? ⟨w.heap.size + 1, 0, none⟩ = false ∧ (∃ u, wr.cell? ⟨w.heap.size, 0, none⟩ = some u) ∧ wr.frozen? ⟨w.heap.size, 0, none⟩ = false ∧ Hid (wr.ownsRow (w.heap.size + 2) 2 1 v k (codeCells s k))) (fun i _ => s.size - (intOf i).toNat)
  case atStart =>
    exact ⟨0, .slice none 0 0, Nat.zero_le _, rfl, (below_box w _).alloc (by simp) _, by simp, by simp [go_sem], by simp [go_sem], ⟨.slice none 0 0, by simp [go_sem]⟩, by simp [go_sem], ⟨rfl, Or.inl ⟨rfl, rfl⟩⟩⟩
  case round =>
    obtain ⟨k, v, hk, rfl, HB, hsz, cv, fv, ⟨u4, c4⟩, f4, HO⟩ := hrel
    by_cases hlt : k < s.size
    · have hst := codeCells_step s k hlt
      have hlt' : (k : Int) < (s.size : Int) := by omega
      have hk0 : (0 : Int) ≤ (k : Int) := Int.natCast_nonneg _
      obtain ⟨b, hb⟩ : ∃ b : Nat, (s[k]'hlt).toNat = b := ⟨_, rfl⟩
      have hb255 : b ≤ 255 := by have := (s[k]'hlt).toNat_lt; omega
      have hbi : ((s[k]'hlt).toNat : Int) = b := by rw [hb]
      rw [hb] at hst
      have hc := fun W => HC.out (b : Int) (by omega) (by omega) W
      obtain ⟨y, hy⟩ : ∃ y, codeS (b : Int) = y := ⟨_, rfl⟩
      rw [hy] at hst hc
      have HST := Lib.hid hst
      have HX := Lib.hid hc
      have h63 : k + 1 ≤ maxLen := by unfold maxLen; omega
      have h8 : (k + 1) * 8 ≤ 140737488355328 := by omega
      clear hst hc hb hy
      have HBD := Lib.hid (Below.drew HB.out)
      have HOD := Lib.hid (own_drew HO.out)
      have cvd : Hid (wr.drew.cell? ⟨w.heap.size + 1, 0, none⟩ = some v) := cv
      have c4d : Hid (wr.drew.cell? ⟨w.heap.size, 0, none⟩ = some u4) := c4
      have fvd : Hid (wr.drew.frozen? ⟨w.heap.size + 1, 0, none⟩ = false) := fv
      have f4d : Hid (wr.drew.frozen? ⟨w.heap.size, 0, none⟩ = false) := f4
      have hszd : Hid (w.heap.size + 2 ≤ wr.drew.heap.size) := hsz
      have L1 : Hid (w.heap.size + 1 < wr.drew.heap.size) := by show _ < _; exact Nat.lt_of_lt_of_le (by omega : w.heap.size + 1 < w.heap.size + 2) hsz
      have L0 : Hid (w.heap.size < wr.drew.heap.size) := by show _ < _; exact Nat.lt_of_lt_of_le (by omega : w.heap.size < w.heap.size + 2) hsz
      have E1 : Hid (w.heap.size + 1 < w.heap.size + 2) := by show _ < _; omega
      have E0 : Hid (w.heap.size < w.heap.size + 2) := by show _ < _; omega
      have E2 : Hid (w.heap.size ≤ w.heap.size + 2) := by show _ ≤ _; omega
      have cvA : (wr.alloc (.cells #[.int .i64 y] 2)).cell? ⟨w.heap.size + 1, 0, none⟩ = some v := by
        have hl : w.heap.size + 1 < wr.heap.size := L1.out
        exact (World.cell?_alloc_past (w := wr) _ _ _ hl).trans cv
      go_wp2
      go_region_law (first
        | (refine step_append_own _ rfl _ _ 34 rfl (w.heap.size + 2) 2 i0 (.int .i64 0) 1 8 Tryd.underlying34 hi0 hz0 hz1 hz2 rfl (by decide) _ _ _ rfl (HO.out.alloc _) ⟨wr.heap.size, 0, none⟩ 1 1 [.int .i64 y] rfl rfl (one_news _ y) (one_cell y) h63 h8 (by first | omega | (simp; omega)) ?_; intro v' w9 hown hgrow' _; obtain ⟨gq, cq, rfl⟩ := int_shape hown (Nat.succ_pos _); have hgrow : (wr.drew.alloc (.cells #[.int .i64 y] 2)).grownBy w9 v.ownBlock := hgrow'; have cv9 := cell_block (append_block hgrow HOD.out (i := w.heap.size + 1) L1.out E1.out) cvd.out; have fv9 := frozen_block (append_block hgrow HOD.out (i := w.heap.size + 1) L1.out E1.out) fvd.out; have c49 := cell_block (append_block hgrow HOD.out (i := w.heap.size) L0.out E0.out) c4d.out; have f49 := frozen_block (append_block hgrow HOD.out (i := w.heap.size) L0.out E0.out) f4d.out; have HB9 := Lib.hid (below_append HBD.out hgrow HOD.out (Nat.le_of_lt L0.out) E2.out); have HO9 := Lib.hid hown; have hsz9 := Nat.le_trans hszd.out (append_size hgrow); clear hown hgrow hgrow')
        | (go_simp; go_at_call 84; refine (HX.out _).mono ?_; rintro e w' ⟨rfl, rfl⟩))
      all_goals
        go_wp2
        go_roundw
        case rel =>
          refine ⟨k + 1, .slice (some ⟨gq, 0, none⟩) (k + 1) cq, by omega, by go_num, HB9.out.setCell (by show _ ≤ w.heap.size + 1; omega) _, ?_, ?_, ?_, ⟨u4, ?_⟩, ?_, ?_⟩
          · simpa [World.setCell] using hsz9
          · simp [go_sem, cv9]
          · simp [go_sem, fv9]
          · simp [go_sem, c49]
          · simp [go_sem, f49]
          · have how := HO9.out
            rw [← HST.out] at how
            have := own_far how ⟨w.heap.size + 1, 0, none⟩ (.slice (some ⟨gq, 0, none⟩) (k + 1) cq) (by show w.heap.size + 1 < _; omega)
            simpa [Hid] using this
        case measure => simp [intOf]; omega
    · have hkn : k = s.size := by omega
      have hk1 : ¬ (k : Int) < (s.size : Int) := by omega
      obtain ⟨gq, cq, rfl⟩ := int_shape HO.out (by omega)
      have HD : Hid (GivesTextCard s w (.returned (.agg #[.slice (some ⟨gq, 0, none⟩) k cq])) (wr.setCell ⟨w.heap.size, 0, none⟩ (.slice (some ⟨gq, 0, none⟩) k cq))) := by
        have hl := textCodes_length s
        have ho := HO.out
        have hcc : codeCells s k = (textCodes s).map (Value.int .i64) := by rw [codeCells, List.take_of_length_le (by omega)]
        rw [hcc] at ho
        obtain ⟨g, cap, ex, hv, h3, h4, h5, hrow⟩ := owned_rowC ho (by omega) (by omega)
        have hgc : gq = g ∧ cq = cap := by injection hv with h1 h2 h3; injection h1 with h1; injection h1 with h1; exact ⟨h1, h3⟩
        obtain ⟨rfl, rfl⟩ := hgc
        refine ⟨gq, cq, ex, by rw [hkn], by omega, h4, by omega, HB.out.setCell (Nat.le_refl _) _, hrow.far (by show gq ≠ w.heap.size; omega) _⟩
      have hc4 : (wr.setCell ⟨w.heap.size, 0, none⟩ (.slice (some ⟨gq, 0, none⟩) k cq)).cell? ⟨w.heap.size, 0, none⟩ = some (.slice (some ⟨gq, 0, none⟩) k cq) := cell_put c4 _
      clear hkn
      go_wp2
      exact bodyPost_ret (v := .agg #[.slice (some ⟨gq, 0, none⟩) k cq]) (by simp [results, Tryd.results66, go_sem, hc4]) rfl HD.out
end Go.Proofs.YtdakbbgbglgioaaDoor
