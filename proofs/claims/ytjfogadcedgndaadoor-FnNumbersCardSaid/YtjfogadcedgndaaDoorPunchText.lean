/- spec.PunchText and impl.PunchText give the card with a text, or the code, for every text of at most 1048576 bytes and every width: contracts, of (columns).write too. -/
import Derived.Test.YtjfogadcedgndaaDoorCodes
import Derived.Test.YtjfogadcedgndaaDoorGives
import Derived.Test.YtjfogadcedgndaaDoorSent2
import Derived.Lib.OthersKept
import Derived.Laws.RangeAny
import Derived.Laws.NewDeep
namespace Go.Proofs.YtjfogadcedgndaaDoor
open Go.ChangeShapes Go.WideShapes Go.ChangeAt Go.RowKit

/-- the numbers of the holes of a text's bytes -/
def textCodes (s : ByteArray) : List Int := s.data.toList.map fun b => codeS (b.toNat : Int)
def legalT (s : ByteArray) : Bool := (textCodes s).all fun c => decide (0 ≤ c)
/-- what the columns hold after k bytes -/
def punchTo (s : ByteArray) (n k : Nat) : List Int := (textCodes s).take k ++ List.replicate (n - k) 0
theorem textCodes_length (s : ByteArray) : (textCodes s).length = s.size := by simp [textCodes]
theorem textCodes_get (s : ByteArray) (k : Nat) (h : k < s.size) : (textCodes s)[k]? = some (codeS ((s[k]'h).toNat : Int)) := by
  have h' : k < s.data.toList.length := by simpa using h
  rw [textCodes, List.getElem?_map, List.getElem?_eq_getElem h']
  rfl
theorem punchTo_length (s : ByteArray) (n k : Nat) (h1 : k ≤ s.size) (h2 : s.size ≤ n) : (punchTo s n k).length = n := by
  simp [punchTo, textCodes_length]
  omega
theorem punchTo_zero (s : ByteArray) (n : Nat) : punchTo s n 0 = List.replicate n 0 := by simp [punchTo]
theorem punchTo_set (s : ByteArray) (n k : Nat) (h : k < s.size) (h2 : s.size ≤ n) (x : Int) (hx : codeS ((s[k]'h).toNat : Int) = x) : (punchTo s n k).set k x = punchTo s n (k + 1) := by
  have hl := textCodes_length s
  have hg := textCodes_get s k h
  have h1 : ((textCodes s).take k).length = k := by simp [hl]; omega
  have e : n - k = (n - (k + 1)) + 1 := by omega
  rw [punchTo, List.set_append_right _ _ (by omega), h1, Nat.sub_self, e, List.replicate_succ, List.set_cons_zero, punchTo,
    List.take_succ_eq_append_getElem (by omega), List.append_assoc]
  rw [List.getElem?_eq_getElem (by omega)] at hg
  injection hg with hg
  rw [hg, hx]
  rfl
theorem legalT_bad (s : ByteArray) (k : Nat) (h : k < s.size) (hx : codeS ((s[k]'h).toNat : Int) < 0) : legalT s = false := by
  have hg := textCodes_get s k h
  rw [legalT, List.all_eq_false]
  exact ⟨_, List.mem_of_getElem? hg, by simpa using hx⟩
def legalTo (s : ByteArray) (k : Nat) : Prop := ∀ j (h : j < s.size), j < k → 0 ≤ codeS ((s[j]'h).toNat : Int)
theorem legalTo_zero (s : ByteArray) : legalTo s 0 := fun _ _ h => absurd h (by omega)
theorem legalTo_step {s : ByteArray} {k : Nat} (h : legalTo s k) (hk : k < s.size) (hx : 0 ≤ codeS ((s[k]'hk).toNat : Int)) : legalTo s (k + 1) := fun j hj hjk => by
  by_cases e : j = k
  · subst e
    exact hx
  · exact h j hj (by omega)
theorem legalT_all {s : ByteArray} (h : legalTo s s.size) : legalT s = true := by
  rw [legalT, List.all_eq_true]
  intro x hx
  obtain ⟨j, hj, e⟩ := List.getElem_of_mem hx
  rw [textCodes_length] at hj
  have hg := textCodes_get s j hj
  rw [List.getElem?_eq_getElem (by rw [textCodes_length]; exact hj), e] at hg
  injection hg with hg
  rw [hg]
  simpa using h j hj hj
theorem codeS_high (c : Int) (h : 91 ≤ c) : codeS c = -1 := by
  unfold codeS
  rw [if_neg (by omega), if_neg (by omega), if_neg (by omega), if_neg (by omega), if_neg (by omega), if_neg (by omega), if_neg (by omega), if_neg (by omega)]

def punchCode (s : ByteArray) (width : Int) : Int := if inB width 1 20 = false then 2 else if width < s.size then 5 else if legalT s = false then 7 else 0

theorem frozen_only' {w w' : World} {g : Nat} (h : w.grownBy w' (some g)) {p : Addr} {v : Value} (hc : w.cell? p = some v) (f : w.frozen? p = false) (hne : p.block ≠ g) : w'.frozen? p = false := by
  rw [World.frozen?_of_block (h.block p.block (World.block_lt_of_cell? _ _ hc) (fun e => hne (by injection e)))]
  exact f

/-- the card of a text, or the code of a byte that is no character -/
def GivesText (s : ByteArray) (n : Nat) (w : World) (e : Ending) (w' : World) : Prop :=
  (legalT s = true ∧ GivesCard (punchTo s n s.size) w e w') ∨ (legalT s = false ∧ GivesCode 7 w e w')

/-- impl.CodeOf, for every byte -/
theorem implCodeOf_any (c : Int) (h0 : 0 ≤ c) (h1 : c ≤ 255) (w : World) :
    Calls Tryd.prog 70 #[.int .u8 c] w fun e w' => e = .returned (.tuple #[.int .i64 (if codeS c < 0 then 0 else codeS c), .bool (!decide (codeS c < 0))]) ∧ w = w' := by
  rcases same_code c h0 h1 with ⟨e1, e2⟩ | ⟨e1, k, e2, e3, e4⟩
  · rw [if_pos e1, decide_eq_true e1]
    exact implCodeOf_no c e2 w
  · rw [if_neg (by omega), decide_eq_false (by omega), ← e4]
    exact implCodeOf_yes c k e2 e3 w

theorem only_iterAt {w wr : World} {g b : Nat} (h : w.grownBy wr (some g)) (hb : w.heap.size ≤ b) (s : ByteArray) (p : Nat) : w.grownBy (wr.iterAt b s p) (some g) :=
  ⟨h.os, h.tape, h.output, by rw [Lib.iterAt_size]; exact h.size, fun i hi hne => by rw [Lib.iterAt_other _ _ _ _ _ (by omega)]; exact h.block i hi hne⟩
theorem Row.iterAt {w : World} {g b : Nat} {xs : List Int} {ex : List Value} (h : Row w g xs ex) (hb : g ≠ b) (s : ByteArray) (p : Nat) : Row (w.iterAt b s p) g xs ex :=
  (Lib.iterAt_other w b g s p hb).trans h

/-- what (columns).write has done: only the row of the columns has turned -/
def Wrote (s : ByteArray) (n g : Nat) (ex : List Value) (aF : Addr) (w : World) (e : Ending) (w' : World) : Prop :=
  w.grownBy w' (some g) ∧ ((legalT s = true ∧ e = .returned .nilIface ∧ Row w' g (punchTo s n s.size) ex) ∨ (legalT s = false ∧ e = .returned (.iface 168 (.pointer (some aF)))))

theorem write_long (A : Option Addr) (n c : Nat) (s : ByteArray) (hs : n < s.size) (_ : s.size ≤ 1048576) (w : World) {aL : Addr} (S : Sent w 0 aL) :
    Calls Tryd.prog 46 #[.slice A n c, .string s] w fun e w' => e = .returned (.iface 168 (.pointer (some aL))) ∧ w = w' := by
  have hL := S.1
  have hlt : (n : Int) < (s.size : Int) := by omega
  clear S
  go_enter Tryd.func46, Tryd.ntmps46
  go_wp2
  go_ret
  exact ⟨rfl, rfl⟩

set_option maxRecDepth 100000 in
set_option maxHeartbeats 1000000 in
theorem write_any (g n c : Nat) (s : ByteArray) (ex : List Value) (hs : s.size ≤ n) (_ : n ≤ 1048576) (w : World) (hr : Row w g (List.replicate n 0) ex) {aF : Addr} (S : Sent w 1 aF) (hfg : 1 ≠ g) :
    Calls Tryd.prog 46 #[.slice (some ⟨g, 0, none⟩) n c, .string s] w (Wrote s n g ex aF w) := by
  have hF := S.1
  have hlt : decide (n < s.size) = false := by simp; omega
  have gl := hr.lt
  have R0 := Lib.hid hr
  have HC := Lib.hid implCodeOf_any
  clear hr S
  go_enter Tryd.func46, Tryd.ntmps46
  go_wp2
  go_loopw [] (fun wr => ∃ k : Nat, k ≤ s.size ∧ Hid (legalTo s k) ∧ wr.heap[w.heap.size]? = some (.stringIter s k) ∧ Hid (Row wr g (punchTo s n k) ex) ∧ Hid (w.grownBy wr (some g))) (fun wr => s.size - wr.iterPos w.heap.size)
  case atStart =>
    refine ⟨0, Nat.zero_le _, legalTo_zero s, ?_, ?_, only_box w _ g⟩
    · have := World.iter_heap w s 0
      simpa using this
    · show Row _ _ _ _
      rw [punchTo_zero]
      exact R0.out.alloc _
  case round =>
    obtain ⟨k, hk, HL, hit, HR, HG⟩ := hrel
    by_cases hk1 : k < s.size
    · have HG2 := Lib.hid (only_iterAt HG.out (Nat.le_refl _) s (k + 1))
      have HR2 := Lib.hid (HR.out.iterAt (Nat.ne_of_lt gl) s (k + 1))
      have cF := cell_only HG2.out hF hfg
      by_cases ha : (s[k]'hk1).toNat < 128
      · have hnx : ∀ ty, (Instr.next (.pointer (some ⟨w.heap.size, 0, none⟩)) true ty).run Tryd.prog wr = _ := fun ty => Lib.run_next_ascii_at wr w.heap.size s k ty hit hk1 ha
        have hit2 := Lib.iterAt_heap wr w.heap.size s k (k + 1) hit
        obtain ⟨q, hq⟩ : ∃ q, (s[k]'hk1).toNat = q := ⟨_, rfl⟩
        rw [hq] at hnx ha
        have hc := fun W => HC.out (q : Int) (by omega) (by omega) W
        have Hq := Lib.hid hq
        obtain ⟨y, hy⟩ : ∃ y, codeS (q : Int) = y := ⟨_, rfl⟩
        rw [hy] at hc
        have Hy := Lib.hid hy
        have hq1 : ((q : Int)) < 128 := by omega
        have HI := Lib.hid hit
        have HI2 := Lib.hid hit2
        clear hy hq hit hit2 HG HR
        by_cases hneg : y < 0
        · rw [if_pos hneg, decide_eq_true hneg] at hc
          have HX := Lib.hid hc
          have HF : Hid (legalT s = false) := legalT_bad s k hk1 (by rw [Hq.out, Hy.out]; exact hneg)
          clear hc
          go_wp2_with (go_at_call 70; refine (HX.out _).mono ?_; rintro e w' ⟨rfl, rfl⟩)
          go_ret
          exact ⟨HG2.out, Or.inr ⟨HF.out, rfl⟩⟩
        · rw [if_neg hneg, decide_eq_false hneg] at hc
          have HX := Lib.hid hc
          have hlen := punchTo_length s n k hk hs
          have HL1 : Hid (legalTo s (k + 1)) := legalTo_step HL.out hk1 (by rw [Hq.out, Hy.out]; omega)
          have e2 := HR2.out.frozen k
          obtain ⟨v3, e3⟩ : ∃ v, (wr.iterAt w.heap.size s (k + 1)).cell? ⟨g, k, none⟩ = some v := ⟨_, HR2.out.cell (by rw [hlen]; omega)⟩
          have hkn : (k : Int) < (n : Int) := by omega
          have HR1 : Hid (Row ((wr.iterAt w.heap.size s (k + 1)).setCell ⟨g, k, none⟩ (.int .i64 y)) g (punchTo s n (k + 1)) ex) := by
            have := HR2.out.set (i := k) (by rw [hlen]; omega) y
            rw [punchTo_set s n k hk1 hs y (by rw [Hq.out, Hy.out])] at this
            exact this
          have HG1 : Hid (w.grownBy ((wr.iterAt w.heap.size s (k + 1)).setCell ⟨g, k, none⟩ (.int .i64 y)) (some g)) := only_step HG2.out (only_set _ _ _ _)
          have HI3 : Hid (((wr.iterAt w.heap.size s (k + 1)).setCell ⟨g, k, none⟩ (.int .i64 y)).heap[w.heap.size]? = some (.stringIter s (k + 1))) := (Below.heap_setCell _ _ _ _ (Nat.ne_of_gt gl)).trans HI2.out
          clear hc hlen cF
          go_wp2_with (go_at_call 70; refine (HX.out _).mono ?_; rintro e w' ⟨rfl, rfl⟩)
          go_roundw
          case rel => exact ⟨k + 1, by omega, HL1, HI3.out, HR1, HG1⟩
          case measure =>
            have a1 := HI.out
            have a2 := HI3.out
            simp only [World.iterPos, a1, a2]
            omega
      · have hd := decode_high s k hk1 (by omega)
        have hnx : ∀ ty, (Instr.next (.pointer (some ⟨w.heap.size, 0, none⟩)) true ty).run Tryd.prog wr = _ := fun ty => Lib.run_next_any_at wr w.heap.size s k ty hit hk1
        have HF : Hid (legalT s = false) := legalT_bad s k hk1 (by rw [codeS_high _ (by omega)]; decide)
        obtain ⟨q, hq⟩ : ∃ q, Utf8.decode s k = q := ⟨_, rfl⟩
        rw [hq] at hnx hd
        have HG3 := Lib.hid (only_iterAt HG.out (Nat.le_refl _) s (k + q.2))
        have cF3 := cell_only HG3.out hF hfg
        have hq1 : ¬ ((q.1 : Nat) : Int) < 128 := by omega
        have hq2 : (128 : Int) ≤ ((q.1 : Nat) : Int) := by omega
        clear hit HG HR cF ha hq HG2 HR2
        go_wp2
        go_ret
        exact ⟨HG3.out, Or.inr ⟨HF.out, rfl⟩⟩
    · obtain rfl : k = s.size := by omega
      have hnx : ∀ ty, (Instr.next (.pointer (some ⟨w.heap.size, 0, none⟩)) true ty).run Tryd.prog wr = _ := fun ty => Lib.run_next_end_at wr w.heap.size s s.size ty hit hk1
      have HF : Hid (legalT s = true) := legalT_all HL.out
      clear hit
      go_wp2
      go_ret
      exact ⟨HG.out, Or.inl ⟨HF.out, rfl, HR.out⟩⟩

theorem cell_put {w : World} {p : Addr} {v : Value} (h : w.cell? p = some v) (u : Value) : (w.setCell p u).cell? p = some u :=
  World.cell?_setCell_same w p u h
/-- a cell of an old block, written, behind a new block -/
theorem cell_put_alloc {w : World} {p : Addr} {v : Value} (h : w.cell? p = some v) (u : Value) (o : Obj) : ((w.setCell p u).alloc o).cell? p = some u := by
  rw [World.cell?_alloc_lt _ _ _ (by simp [World.setCell]; exact World.block_lt_of_cell? _ _ h)]
  exact cell_put h u

end Go.Proofs.YtjfogadcedgndaaDoor