/- (columns).write puts a text into a part of a row, or answers that a byte is no character, for every text that fits: contract. -/
import Derived.Test.YtjfogadcedgndaaDoorPutMath
namespace Go.Proofs.YtjfogadcedgndaaDoor
open Go.ChangeShapes Go.WideShapes Go.ChangeAt Go.RowKit

theorem putAt_code (xs : List Int) (off : Nat) (s : ByteArray) (k : Nat) (h : k < s.size) (h2 : off + s.size ≤ xs.length) (x : Int) (hx : codeS ((s[k]'h).toNat : Int) = x) :
    (putAt xs off ((textCodes s).take k)).set (off + k) x = putAt xs off ((textCodes s).take (k + 1)) := by
  have hl := textCodes_length s
  have hg := textCodes_get s k h
  have h1 : ((textCodes s).take k).length = k := by simp [hl]; omega
  rw [List.getElem?_eq_getElem (by omega)] at hg
  injection hg with hg
  have := putAt_set xs off ((textCodes s).take k) x (by omega)
  rw [h1] at this
  rw [this, List.take_succ_eq_append_getElem (by omega), hg, hx]
theorem putAt_len (xs : List Int) (off : Nat) (s : ByteArray) (k : Nat) (h : k ≤ s.size) (h2 : off + s.size ≤ xs.length) : (putAt xs off ((textCodes s).take k)).length = xs.length := by
  have hl := textCodes_length s
  exact putAt_length _ _ _ (by simp [hl]; omega)

/-- what (columns).write has done to a part of a row: only this row has turned -/
def WroteAt (s : ByteArray) (xs : List Int) (off g : Nat) (ex : List Value) (aF : Addr) (w : World) (e : Ending) (w' : World) : Prop :=
  w.grownBy w' (some g) ∧ ((legalT s = true ∧ e = .returned .nilIface ∧ Row w' g (putAt xs off (textCodes s)) ex) ∨ (legalT s = false ∧ e = .returned (.iface 168 (.pointer (some aF)))))

set_option maxRecDepth 100000 in
set_option maxHeartbeats 1000000 in
theorem writeAt_any (g off n c : Nat) (s : ByteArray) (xs : List Int) (ex : List Value) (hs : s.size ≤ n) (hx : off + n ≤ xs.length) (hn : xs.length ≤ 1048576) (w : World) (hr : Row w g xs ex) {aF : Addr} (S : Sent w 1 aF) (hfg : 1 ≠ g) :
    Calls Tryd.prog 46 #[.slice (some ⟨g, off, none⟩) n c, .string s] w (WroteAt s xs off g ex aF w) := by
  have hF := S.1
  have hlt : decide (n < s.size) = false := by simp; omega
  have gl := hr.lt
  have R0 := Lib.hid hr
  have HC := Lib.hid implCodeOf_any
  have HX := Lib.hid (show off + s.size ≤ xs.length by omega)
  have hn2 : n ≤ 1048576 := by omega
  have HN := Lib.hid hx
  clear hr S hx
  go_enter Tryd.func46, Tryd.ntmps46
  go_wp2
  go_loopw [] (fun wr => ∃ k : Nat, k ≤ s.size ∧ Hid (legalTo s k) ∧ wr.heap[w.heap.size]? = some (.stringIter s k) ∧ Hid (Row wr g (putAt xs off ((textCodes s).take k)) ex) ∧ Hid (w.grownBy wr (some g))) (fun wr => s.size - wr.iterPos w.heap.size)
  case atStart =>
    refine ⟨0, Nat.zero_le _, legalTo_zero s, ?_, ?_, only_box w _ g⟩
    · have := World.iter_heap w s 0
      simpa using this
    · show Row _ _ _ _
      rw [List.take_zero, putAt_nil]
      exact R0.out.alloc _
  case round =>
    obtain ⟨k, hk, HL, hit, HR, HG⟩ := hrel
    by_cases hk1 : k < s.size
    · have HG2 := Lib.hid (only_iterAt HG.out (Nat.le_refl _) s (k + 1))
      have HR2 := Lib.hid (HR.out.iterAt (Nat.ne_of_lt gl) s (k + 1))
      have cF := cell_only HG2.out hF hfg
      by_cases ha : (s[k]'hk1).toNat < 128
      · have hnx : ∀ ty, (Instr.next (.pointer (some ⟨w.heap.size, 0, none⟩)) true ty).run Tryd.prog wr = _ := fun ty => Lib.run_next_ascii_at wr w.heap.size s k ty hit hk1 ha
        have hit2 := Lib.iterAt_heap wr w.heap.size s k (k + 1) hit
        obtain ⟨q, hq⟩ : ∃ q, (s[k]'hk1).toNat = q := ⟨_, rfl⟩
        rw [hq] at hnx ha
        have hc := fun W => HC.out (q : Int) (by omega) (by omega) W
        have Hq := Lib.hid hq
        obtain ⟨y, hy⟩ : ∃ y, codeS (q : Int) = y := ⟨_, rfl⟩
        rw [hy] at hc
        have Hy := Lib.hid hy
        have hq1 : ((q : Int)) < 128 := by omega
        have HI := Lib.hid hit
        have HI2 := Lib.hid hit2
        clear hy hq hit hit2 HG HR
        by_cases hneg : y < 0
        · rw [if_pos hneg, decide_eq_true hneg] at hc
          have HX := Lib.hid hc
          have HF : Hid (legalT s = false) := legalT_bad s k hk1 (by rw [Hq.out, Hy.out]; exact hneg)
          clear hc
          go_wp2_with (go_at_call 70; refine (HX.out _).mono ?_; rintro e w' ⟨rfl, rfl⟩)
          go_ret
          exact ⟨HG2.out, Or.inr ⟨HF.out, rfl⟩⟩
        · rw [if_neg hneg, decide_eq_false hneg] at hc
          have HXX := Lib.hid hc
          have hlen := Lib.hid (putAt_len xs off s k hk HX.out)
          have HL1 : Hid (legalTo s (k + 1)) := legalTo_step HL.out hk1 (by rw [Hq.out, Hy.out]; omega)
          have e2 := HR2.out.frozen (off + k)
          obtain ⟨v3, e3⟩ : ∃ v, (wr.iterAt w.heap.size s (k + 1)).cell? ⟨g, off + k, none⟩ = some v := ⟨_, HR2.out.cell (by rw [hlen.out]; have := HX.out; omega)⟩
          have hkn : (k : Int) < (n : Int) := by omega
          have HR1 : Hid (Row ((wr.iterAt w.heap.size s (k + 1)).setCell ⟨g, off + k, none⟩ (.int .i64 y)) g (putAt xs off ((textCodes s).take (k + 1))) ex) := by
            have := HR2.out.set (i := off + k) (by rw [hlen.out]; have := HX.out; omega) y
            rw [putAt_code xs off s k hk1 HX.out y (by rw [Hq.out, Hy.out])] at this
            exact this
          have HG1 : Hid (w.grownBy ((wr.iterAt w.heap.size s (k + 1)).setCell ⟨g, off + k, none⟩ (.int .i64 y)) (some g)) := only_step HG2.out (only_set _ _ _ _)
          have HI3 : Hid (((wr.iterAt w.heap.size s (k + 1)).setCell ⟨g, off + k, none⟩ (.int .i64 y)).heap[w.heap.size]? = some (.stringIter s (k + 1))) := (Below.heap_setCell _ _ _ _ (Nat.ne_of_gt gl)).trans HI2.out
          clear hc cF
          go_wp2_with (go_at_call 70; refine (HXX.out _).mono ?_; rintro e w' ⟨rfl, rfl⟩)
          go_roundw
          case rel => exact ⟨k + 1, by omega, HL1, HI3.out, HR1, HG1⟩
          case measure =>
            have a1 := HI.out
            have a2 := HI3.out
            simp only [World.iterPos, a1, a2]
            omega
      · have hd := decode_high s k hk1 (by omega)
        have hnx : ∀ ty, (Instr.next (.pointer (some ⟨w.heap.size, 0, none⟩)) true ty).run Tryd.prog wr = _ := fun ty => Lib.run_next_any_at wr w.heap.size s k ty hit hk1
        have HF : Hid (legalT s = false) := legalT_bad s k hk1 (by rw [codeS_high _ (by omega)]; decide)
        obtain ⟨q, hq⟩ : ∃ q, Utf8.decode s k = q := ⟨_, rfl⟩
        rw [hq] at hnx hd
        have HG3 := Lib.hid (only_iterAt HG.out (Nat.le_refl _) s (k + q.2))
        have cF3 := cell_only HG3.out hF hfg
        have hq1 : ¬ ((q.1 : Nat) : Int) < 128 := by omega
        have hq2 : (128 : Int) ≤ ((q.1 : Nat) : Int) := by omega
        clear hit HG HR cF ha hq HG2 HR2
        go_wp2
        go_ret
        exact ⟨HG3.out, Or.inr ⟨HF.out, rfl⟩⟩
    · obtain rfl : k = s.size := by omega
      have hnx : ∀ ty, (Instr.next (.pointer (some ⟨w.heap.size, 0, none⟩)) true ty).run Tryd.prog wr = _ := fun ty => Lib.run_next_end_at wr w.heap.size s s.size ty hit hk1
      have HF : Hid (legalT s = true) := legalT_all HL.out
      have HRE : Hid (Row wr g (putAt xs off (textCodes s)) ex) := by
        have := HR.out
        rw [List.take_of_length_le (by rw [textCodes_length]; exact Nat.le_refl _)] at this
        exact this
      clear hit
      go_wp2
      go_ret
      exact ⟨HG.out, Or.inl ⟨HF.out, rfl, HRE.out⟩⟩
end Go.Proofs.YtjfogadcedgndaaDoor
