/- spec.PunchText and impl.PunchText give the card with a text, or the code, for every text of at most 1048576 bytes and every width: contracts, of (columns).write too. -/
import Derived.Test.YtmibkaldeickdabDoorCodes
import Derived.Test.YtmibkaldeickdabDoorGives
import Derived.Test.YtmibkaldeickdabDoorSent2
import Derived.Lib.OthersKept
import Derived.Laws.RangeAny
import Derived.Laws.NewDeep
namespace Go.Proofs.YtmibkaldeickdabDoor
open Go.ChangeShapes Go.WideShapes Go.ChangeAt Go.RowKit

/-- the numbers of the holes of a text's bytes -/
def textCodes (s : ByteArray) : List Int := s.data.toList.map fun b => codeS (b.toNat : Int)
def legalT (s : ByteArray) : Bool := (textCodes s).all fun c => decide (0 ≤ c)
/-- what the columns hold after k bytes -/
def punchTo (s : ByteArray) (n k : Nat) : List Int := (textCodes s).take k ++ List.replicate (n - k) 0
theorem textCodes_length (s : ByteArray) : (textCodes s).length = s.size := by simp [textCodes]
theorem textCodes_get (s : ByteArray) (k : Nat) (h : k < s.size) : (textCodes s)[k]? = some (codeS ((s[k]'h).toNat : Int)) := by
  have h' : k < s.data.toList.length := by simpa using h
  rw [textCodes, List.getElem?_map, List.getElem?_eq_getElem h']
  rfl
theorem punchTo_length (s : ByteArray) (n k : Nat) (h1 : k ≤ s.size) (h2 : s.size ≤ n) : (punchTo s n k).length = n := by
  simp [punchTo, textCodes_length]
  omega
theorem punchTo_zero (s : ByteArray) (n : Nat) : punchTo s n 0 = List.replicate n 0 := by simp [punchTo]
theorem punchTo_set (s : ByteArray) (n k : Nat) (h : k < s.size) (h2 : s.size ≤ n) (x : Int) (hx : codeS ((s[k]'h).toNat : Int) = x) : (punchTo s n k).set k x = punchTo s n (k + 1) := by
  have hl := textCodes_length s
  have hg := textCodes_get s k h
  have h1 : ((textCodes s).take k).length = k := by simp [hl]; omega
  have e : n - k = (n - (k + 1)) + 1 := by omega
  rw [punchTo, List.set_append_right _ _ (by omega), h1, Nat.sub_self, e, List.replicate_succ, List.set_cons_zero, punchTo,
    List.take_succ_eq_append_getElem (by omega), List.append_assoc]
  rw [List.getElem?_eq_getElem (by omega)] at hg
  injection hg with hg
  rw [hg, hx]
  rfl
theorem legalT_bad (s : ByteArray) (k : Nat) (h : k < s.size) (hx : codeS ((s[k]'h).toNat : Int) < 0) : legalT s = false := by
  have hg := textCodes_get s k h
  rw [legalT, List.all_eq_false]
  exact ⟨_, List.mem_of_getElem? hg, by simpa using hx⟩
def legalTo (s : ByteArray) (k : Nat) : Prop := ∀ j (h : j < s.size), j < k → 0 ≤ codeS ((s[j]'h).toNat : Int)
theorem legalTo_zero (s : ByteArray) : legalTo s 0 := fun _ _ h => absurd h (by omega)
theorem legalTo_step {s : ByteArray} {k : Nat} (h : legalTo s k) (hk : k < s.size) (hx : 0 ≤ codeS ((s[k]'hk).toNat : Int)) : legalTo s (k + 1) := fun j hj hjk => by
  by_cases e : j = k
  · subst e
    exact hx
  · exact h j hj (by omega)
theorem legalT_all {s : ByteArray} (h : legalTo s s.size) : legalT s = true := by
  rw [legalT, List.all_eq_true]
  intro x hx
  obtain ⟨j, hj, e⟩ := List.getElem_of_mem hx
  rw [textCodes_length] at hj
  have hg := textCodes_get s j hj
  rw [List.getElem?_eq_getElem (by rw [textCodes_length]; exact hj), e] at hg
  injection hg with hg
  rw [hg]
  simpa using h j hj hj
theorem codeS_high (c : Int) (h : 91 ≤ c) : codeS c = -1 := by
  unfold codeS
  rw [if_neg (by omega), if_neg (by omega), if_neg (by omega), if_neg (by omega), if_neg (by omega), if_neg (by omega), if_neg (by omega), if_neg (by omega)]

def punchCode (s : ByteArray) (width : Int) : Int := if inB width 1 20 = false then 2 else if width < s.size then 5 else if legalT s = false then 7 else 0

theorem frozen_only' {w w' : World} {g : Nat} (h : w.grownBy w' (some g)) {p : Addr} {v : Value} (hc : w.cell? p = some v) (f : w.frozen? p = false) (hne : p.block ≠ g) : w'.frozen? p = false := by
  rw [World.frozen?_of_block (h.block p.block (World.block_lt_of_cell? _ _ hc) (fun e => hne (by injection e)))]
  exact f

theorem specPunchText_width (s : ByteArray) (n : Int) (h : inB n 1 20 = false) (w : World) : Calls Tryd.prog 21 #[.string s, .int .i64 n] w (GivesCode 2 w) := by
  have hi := in_any n 1 20
  rw [h] at hi
  have HI := Lib.hid hi
  clear hi h
  go_enter Tryd.func21, Tryd.ntmps21
  go_wp2_with (go_at_call 57; refine (HI.out _).mono ?_; rintro e w' ⟨rfl, rfl⟩)
  exact bodyPost_ret (v := .tuple #[.agg #[.slice none 0 0], .int .i64 2]) (by simp [results, Tryd.results21, go_sem]) rfl ⟨rfl, (below_box w _)⟩

theorem specPunchText_full (s : ByteArray) (n : Nat) (h : inB n 1 20 = true) (hs : n < s.size) (_ : s.size ≤ 1048576) (w : World) : Calls Tryd.prog 21 #[.string s, .int .i64 n] w (GivesCode 5 w) := by
  have hi := in_any n 1 20
  rw [h] at hi
  have HI := Lib.hid hi
  have hlt : (n : Int) < (s.size : Int) := by omega
  clear hi h
  go_enter Tryd.func21, Tryd.ntmps21
  go_wp2_with (go_at_call 57; refine (HI.out _).mono ?_; rintro e w' ⟨rfl, rfl⟩)
  exact bodyPost_ret (v := .tuple #[.agg #[.slice none 0 0], .int .i64 5]) (by simp [results, Tryd.results21, go_sem]) rfl ⟨rfl, (below_box w _)⟩

/-- the card of a text, or the code of a byte that is no character -/
def GivesText (s : ByteArray) (n : Nat) (w : World) (e : Ending) (w' : World) : Prop :=
  (legalT s = true ∧ GivesCard (punchTo s n s.size) w e w') ∨ (legalT s = false ∧ GivesCode 7 w e w')

/-- spec.PunchText where the text fits: the card, or the code of a byte that is no character -/
theorem specPunchText_fits (s : ByteArray) (n : Nat) (h : inB n 1 20 = true) (hs : s.size ≤ n) (w : World) : Calls Tryd.prog 21 #[.string s, .int .i64 n] w (GivesText s n w) := by
  have hi := in_any n 1 20
  rw [h] at hi
  have hn : n ≤ 20 := by simp [inB] at h; omega
  have hmk := run_make_row' (P := Tryd.prog) 30 2 (.int .i64 0) 8 Tryd.underlying30 info_int64 rfl .i64 .i64 n (by omega) (by omega)
  have HI := Lib.hid hi
  have HC := Lib.hid l03Code_any
  have hlt : ¬ (n : Int) < (s.size : Int) := by omega
  have hlt' : decide (n < s.size) = false := by simp; omega
  clear hi h
  go_enter Tryd.func21, Tryd.ntmps21
  go_wp2_with (go_at_call 57; refine (HI.out _).mono ?_; rintro e w' ⟨rfl, rfl⟩)
  clear hmk hlt hlt'
  have r0 : Row (((w.alloc (.cells #[.slice none 0 0] 32)).alloc (.cells (madeCells #[Value.int .i64 0] n) 2)).alloc (.cells #[.slice (some ⟨w.heap.size + 1, 0, none⟩) n n] 32)) (w.heap.size + 1) (List.replicate n 0) [] := by
    rw [madeCells_int]
    exact (Row.new_at _ _ (by simp)).alloc _
  have R0 := Lib.hid r0
  have B0 := Lib.hid (((below_box w (.cells #[.slice none 0 0] 32)).alloc (by simp) (.cells (madeCells #[Value.int .i64 0] n) 2)).alloc (by simp; omega) (.cells #[.slice (some ⟨w.heap.size + 1, 0, none⟩) n n] 32))
  have C0 : (((w.alloc (.cells #[.slice none 0 0] 32)).alloc (.cells (madeCells #[Value.int .i64 0] n) 2)).alloc (.cells #[.slice (some ⟨w.heap.size + 1, 0, none⟩) n n] 32)).cell? ⟨w.heap.size, 0, none⟩ = some (.slice none 0 0) := by simp [go_sem]
  have F0 : (((w.alloc (.cells #[.slice none 0 0] 32)).alloc (.cells (madeCells #[Value.int .i64 0] n) 2)).alloc (.cells #[.slice (some ⟨w.heap.size + 1, 0, none⟩) n n] 32)).frozen? ⟨w.heap.size, 0, none⟩ = false := by simp [go_sem]
  have O0 : (((w.alloc (.cells #[.slice none 0 0] 32)).alloc (.cells (madeCells #[Value.int .i64 0] n) 2)).alloc (.cells #[.slice (some ⟨w.heap.size + 1, 0, none⟩) n n] 32)).cell? ⟨w.heap.size + 2, 0, none⟩ = some (.slice (some ⟨w.heap.size + 1, 0, none⟩) n n) := by simp [go_sem]
  clear r0
  rw [← punchTo_zero s n] at R0
  generalize (((w.alloc (.cells #[.slice none 0 0] 32)).alloc (.cells (madeCells #[Value.int .i64 0] n) 2)).alloc (.cells #[.slice (some ⟨w.heap.size + 1, 0, none⟩) n n] 32)) = w3 at *
  go_loopw [7] (fun i wr => ∃ k : Nat, k ≤ s.size ∧ i = .int .i64 k ∧ Hid (legalTo s k) ∧ Hid (Row wr (w.heap.size + 1) (punchTo s n k) []) ∧ Hid (w3.grownBy wr (some (w.heap.size + 1)))) (fun i _ => s.size - (intOf i).toNat)
  case atStart => exact ⟨0, Nat.zero_le _, rfl, legalTo_zero s, R0.out, ⟨rfl, rfl, rfl, Nat.le_refl _, fun _ _ _ => rfl⟩⟩
  case round =>
    obtain ⟨k, hk, rfl, HL, HR, HG⟩ := hrel
    have c1 := cell_only HG.out C0 (by simp)
    have f1 := frozen_only' HG.out C0 F0 (by simp)
    have o1 := cell_only HG.out O0 (by simp)
    have HB := Lib.hid (below_only B0.out HG.out (by omega))
    by_cases hlt : k < s.size
    · have hlt' : (k : Int) < (s.size : Int) := by omega
      obtain ⟨x, hx⟩ : ∃ x : Int, ((s[k]'hlt).toNat : Int) = x := ⟨_, rfl⟩
      have hxb : 0 ≤ x ∧ x ≤ 255 := by have := (s[k]'hlt).toNat_lt; omega
      have hc := fun W => HC.out x hxb.1 hxb.2 W
      have Hx := Lib.hid hx
      obtain ⟨y, hy⟩ : ∃ y, codeS x = y := ⟨_, rfl⟩
      rw [hy] at hc
      have Hy := Lib.hid hy
      have HX := Lib.hid hc
      clear hc hy
      by_cases hneg : y < 0
      · have HF : Hid (legalT s = false) := legalT_bad s k hlt (by rw [Hx.out, Hy.out]; exact hneg)
        clear o1 HR HG HL C0 F0 O0 R0 B0
        go_wp2_with (go_at_call 58; refine (HX.out _).mono ?_; rintro e w' ⟨rfl, rfl⟩)
        exact bodyPost_ret (v := .tuple #[.agg #[.slice none 0 0], .int .i64 7]) (by simp [results, Tryd.results21, go_sem, c1]) rfl (Or.inr ⟨HF.out, rfl, HB.out.setCell (Nat.le_refl _) _⟩)
      · have hlen := punchTo_length s n k hk hs
        have HL1 : Hid (legalTo s (k + 1)) := legalTo_step HL.out hlt (by rw [Hx.out, Hy.out]; omega)
        have e2 := HR.out.frozen k
        have e3 : ∃ v, wr.cell? ⟨w.heap.size + 1, k, none⟩ = some v := ⟨_, HR.out.cell (by rw [hlen]; omega)⟩
        obtain ⟨v3, e3⟩ := e3
        have hkn : (k : Int) < (n : Int) := by omega
        have HR1 : Hid (Row (wr.setCell ⟨w.heap.size + 1, k, none⟩ (.int .i64 y)) (w.heap.size + 1) (punchTo s n (k + 1)) []) := by
          have := HR.out.set (i := k) (by rw [hlen]; omega) y
          rw [punchTo_set s n k hlt hs y (by rw [Hx.out, Hy.out])] at this
          exact this
        have HG1 : Hid (w3.grownBy (wr.setCell ⟨w.heap.size + 1, k, none⟩ (.int .i64 y)) (some (w.heap.size + 1))) := only_step HG.out (only_set _ _ _ _)
        clear c1 f1 HR HG HL C0 F0 O0 R0 B0 hlen
        go_wp2_with (go_at_call 58; refine (HX.out _).mono ?_; rintro e w' ⟨rfl, rfl⟩)
        go_roundw
        case rel => exact ⟨k + 1, by omega, by go_num, HL1, HR1, HG1⟩
        case measure => simp [intOf]; omega
    · obtain rfl : k = s.size := by omega
      have hk1 : ¬ (s.size : Int) < (s.size : Int) := by omega
      have HF : Hid (legalT s = true) := legalT_all HL.out
      have hlen := Lib.hid (punchTo_length s n s.size (Nat.le_refl _) hs)
      clear HL HG C0 F0 O0 R0 B0
      go_wp2
      refine bodyPost_ret (v := .tuple #[.agg #[.slice (some ⟨w.heap.size + 1, 0, none⟩) n n], .int .i64 0]) (by simp [results, Tryd.results21, go_sem, c1]) rfl (Or.inl ⟨HF.out, w.heap.size + 1, n, [], by rw [hlen.out], by omega, ?_, ?_⟩)
      · exact HB.out.setCell (Nat.le_refl _) _
      · exact HR.out.far (by simp) _

/-- impl.CodeOf, for every byte -/
theorem implCodeOf_any (c : Int) (h0 : 0 ≤ c) (h1 : c ≤ 255) (w : World) :
    Calls Tryd.prog 13 #[.int .u8 c] w fun e w' => e = .returned (.tuple #[.int .i64 (if codeS c < 0 then 0 else codeS c), .bool (!decide (codeS c < 0))]) ∧ w = w' := by
  rcases same_code c h0 h1 with ⟨e1, e2⟩ | ⟨e1, k, e2, e3, e4⟩
  · rw [if_pos e1, decide_eq_true e1]
    exact implCodeOf_no c e2 w
  · rw [if_neg (by omega), decide_eq_false (by omega), ← e4]
    exact implCodeOf_yes c k e2 e3 w

theorem only_iterAt {w wr : World} {g b : Nat} (h : w.grownBy wr (some g)) (hb : w.heap.size ≤ b) (s : ByteArray) (p : Nat) : w.grownBy (wr.iterAt b s p) (some g) :=
  ⟨h.os, h.tape, h.output, by rw [Lib.iterAt_size]; exact h.size, fun i hi hne => by rw [Lib.iterAt_other _ _ _ _ _ (by omega)]; exact h.block i hi hne⟩
theorem Row.iterAt {w : World} {g b : Nat} {xs : List Int} {ex : List Value} (h : Row w g xs ex) (hb : g ≠ b) (s : ByteArray) (p : Nat) : Row (w.iterAt b s p) g xs ex :=
  (Lib.iterAt_other w b g s p hb).trans h

/-- what (columns).write has done: only the row of the columns has turned -/
def Wrote (s : ByteArray) (n g : Nat) (ex : List Value) (aF : Addr) (w : World) (e : Ending) (w' : World) : Prop :=
  w.grownBy w' (some g) ∧ ((legalT s = true ∧ e = .returned .nilIface ∧ Row w' g (punchTo s n s.size) ex) ∨ (legalT s = false ∧ e = .returned (.iface 187 (.pointer (some aF)))))

theorem write_long (A : Option Addr) (n c : Nat) (s : ByteArray) (hs : n < s.size) (_ : s.size ≤ 1048576) (w : World) {aL : Addr} (S : Sent w 2 aL) :
    Calls Tryd.prog 52 #[.slice A n c, .string s] w fun e w' => e = .returned (.iface 187 (.pointer (some aL))) ∧ w = w' := by
  have hL := S.1
  have hlt : (n : Int) < (s.size : Int) := by omega
  clear S
  go_enter Tryd.func52, Tryd.ntmps52
  go_wp2
  go_ret
  exact ⟨rfl, rfl⟩

set_option maxRecDepth 100000 in
set_option maxHeartbeats 1000000 in
theorem write_any (g n c : Nat) (s : ByteArray) (ex : List Value) (hs : s.size ≤ n) (_ : n ≤ 1048576) (w : World) (hr : Row w g (List.replicate n 0) ex) {aF : Addr} (S : Sent w 3 aF) (hfg : 3 ≠ g) :
    Calls Tryd.prog 52 #[.slice (some ⟨g, 0, none⟩) n c, .string s] w (Wrote s n g ex aF w) := by
  have hF := S.1
  have hlt : decide (n < s.size) = false := by simp; omega
  have gl := hr.lt
  have R0 := Lib.hid hr
  have HC := Lib.hid implCodeOf_any
  clear hr S
  go_enter Tryd.func52, Tryd.ntmps52
  go_wp2
  go_loopw [] (fun wr => ∃ k : Nat, k ≤ s.size ∧ Hid (legalTo s k) ∧ wr.heap[w.heap.size]? = some (.stringIter s k) ∧ Hid (Row wr g (punchTo s n k) ex) ∧ Hid (w.grownBy wr (some g))) (fun wr => s.size - wr.iterPos w.heap.size)
  case atStart =>
    refine ⟨0, Nat.zero_le _, legalTo_zero s, ?_, ?_, only_box w _ g⟩
    · have := World.iter_heap w s 0
      simpa using this
    · show Row _ _ _ _
      rw [punchTo_zero]
      exact R0.out.alloc _
  case round =>
    obtain ⟨k, hk, HL, hit, HR, HG⟩ := hrel
    by_cases hk1 : k < s.size
    · have HG2 := Lib.hid (only_iterAt HG.out (Nat.le_refl _) s (k + 1))
      have HR2 := Lib.hid (HR.out.iterAt (Nat.ne_of_lt gl) s (k + 1))
      have cF := cell_only HG2.out hF hfg
      by_cases ha : (s[k]'hk1).toNat < 128
      · have hnx : ∀ ty, (Instr.next (.pointer (some ⟨w.heap.size, 0, none⟩)) true ty).run Tryd.prog wr = _ := fun ty => Lib.run_next_ascii_at wr w.heap.size s k ty hit hk1 ha
        have hit2 := Lib.iterAt_heap wr w.heap.size s k (k + 1) hit
        obtain ⟨q, hq⟩ : ∃ q, (s[k]'hk1).toNat = q := ⟨_, rfl⟩
        rw [hq] at hnx ha
        have hc := fun W => HC.out (q : Int) (by omega) (by omega) W
        have Hq := Lib.hid hq
        obtain ⟨y, hy⟩ : ∃ y, codeS (q : Int) = y := ⟨_, rfl⟩
        rw [hy] at hc
        have Hy := Lib.hid hy
        have hq1 : ((q : Int)) < 128 := by omega
        have HI := Lib.hid hit
        have HI2 := Lib.hid hit2
        clear hy hq hit hit2 HG HR
        by_cases hneg : y < 0
        · rw [if_pos hneg, decide_eq_true hneg] at hc
          have HX := Lib.hid hc
          have HF : Hid (legalT s = false) := legalT_bad s k hk1 (by rw [Hq.out, Hy.out]; exact hneg)
          clear hc
          go_wp2_with (go_at_call 13; refine (HX.out _).mono ?_; rintro e w' ⟨rfl, rfl⟩)
          go_ret
          exact ⟨HG2.out, Or.inr ⟨HF.out, rfl⟩⟩
        · rw [if_neg hneg, decide_eq_false hneg] at hc
          have HX := Lib.hid hc
          have hlen := punchTo_length s n k hk hs
          have HL1 : Hid (legalTo s (k + 1)) := legalTo_step HL.out hk1 (by rw [Hq.out, Hy.out]; omega)
          have e2 := HR2.out.frozen k
          obtain ⟨v3, e3⟩ : ∃ v, (wr.iterAt w.heap.size s (k + 1)).cell? ⟨g, k, none⟩ = some v := ⟨_, HR2.out.cell (by rw [hlen]; omega)⟩
          have hkn : (k : Int) < (n : Int) := by omega
          have HR1 : Hid (Row ((wr.iterAt w.heap.size s (k + 1)).setCell ⟨g, k, none⟩ (.int .i64 y)) g (punchTo s n (k + 1)) ex) := by
            have := HR2.out.set (i := k) (by rw [hlen]; omega) y
            rw [punchTo_set s n k hk1 hs y (by rw [Hq.out, Hy.out])] at this
            exact this
          have HG1 : Hid (w.grownBy ((wr.iterAt w.heap.size s (k + 1)).setCell ⟨g, k, none⟩ (.int .i64 y)) (some g)) := only_step HG2.out (only_set _ _ _ _)
          have HI3 : Hid (((wr.iterAt w.heap.size s (k + 1)).setCell ⟨g, k, none⟩ (.int .i64 y)).heap[w.heap.size]? = some (.stringIter s (k + 1))) := (Below.heap_setCell _ _ _ _ (Nat.ne_of_gt gl)).trans HI2.out
          clear hc hlen cF
          go_wp2_with (go_at_call 13; refine (HX.out _).mono ?_; rintro e w' ⟨rfl, rfl⟩)
          go_roundw
          case rel => exact ⟨k + 1, by omega, HL1, HI3.out, HR1, HG1⟩
          case measure =>
            have a1 := HI.out
            have a2 := HI3.out
            simp only [World.iterPos, a1, a2]
            omega
      · have hd := decode_high s k hk1 (by omega)
        have hnx : ∀ ty, (Instr.next (.pointer (some ⟨w.heap.size, 0, none⟩)) true ty).run Tryd.prog wr = _ := fun ty => Lib.run_next_any_at wr w.heap.size s k ty hit hk1
        have HF : Hid (legalT s = false) := legalT_bad s k hk1 (by rw [codeS_high _ (by omega)]; decide)
        obtain ⟨q, hq⟩ : ∃ q, Utf8.decode s k = q := ⟨_, rfl⟩
        rw [hq] at hnx hd
        have HG3 := Lib.hid (only_iterAt HG.out (Nat.le_refl _) s (k + q.2))
        have cF3 := cell_only HG3.out hF hfg
        have hq1 : ¬ ((q.1 : Nat) : Int) < 128 := by omega
        have hq2 : (128 : Int) ≤ ((q.1 : Nat) : Int) := by omega
        clear hit HG HR cF ha hq HG2 HR2
        go_wp2
        go_ret
        exact ⟨HG3.out, Or.inr ⟨HF.out, rfl⟩⟩
    · obtain rfl : k = s.size := by omega
      have hnx : ∀ ty, (Instr.next (.pointer (some ⟨w.heap.size, 0, none⟩)) true ty).run Tryd.prog wr = _ := fun ty => Lib.run_next_end_at wr w.heap.size s s.size ty hit hk1
      have HF : Hid (legalT s = true) := legalT_all HL.out
      clear hit
      go_wp2
      go_ret
      exact ⟨HG.out, Or.inl ⟨HF.out, rfl, HR.out⟩⟩

theorem cell_put {w : World} {p : Addr} {v : Value} (h : w.cell? p = some v) (u : Value) : (w.setCell p u).cell? p = some u :=
  World.cell?_setCell_same w p u h
/-- a cell of an old block, written, behind a new block -/
theorem cell_put_alloc {w : World} {p : Addr} {v : Value} (h : w.cell? p = some v) (u : Value) (o : Obj) : ((w.setCell p u).alloc o).cell? p = some u := by
  rw [World.cell?_alloc_lt _ _ _ (by simp [World.setCell]; exact World.block_lt_of_cell? _ _ h)]
  exact cell_put h u

theorem implPunchText_width (s : ByteArray) (n : Int) (h : inB n 1 20 = false) (w : World) : Calls Tryd.prog 17 #[.string s, .int .i64 n] w (GivesCode 2 w) := by
  have HI := Lib.hid (fun W => implBlank_no n h W)
  clear h
  go_enter Tryd.func17, Tryd.ntmps17
  go_wp2_with fail
  refine (HI.out _).mono ?_
  rintro e w1 ⟨rfl, hb⟩
  have B1 := Lib.hid (below_step (below_box w _) hb)
  have c1 := cell_kept (p := ⟨w.heap.size, 0, none⟩) (v := .slice none 0 0) (by simp) hb
  have f1 : w1.frozen? ⟨w.heap.size, 0, none⟩ = false := by rw [hb.frozen (by simp)]; simp
  have l1 : w.heap.size < w1.heap.size := World.block_lt_of_cell? _ _ c1
  have c2 : (w1.alloc (.cells #[.slice none 0 0] 32)).cell? ⟨w.heap.size, 0, none⟩ = some (.slice none 0 0) := by rw [World.cell?_alloc_lt _ _ _ l1]; exact c1
  have f2 : (w1.alloc (.cells #[.slice none 0 0] 32)).frozen? ⟨w.heap.size, 0, none⟩ = false := by rw [(below_box w1 _).frozen (p := ⟨w.heap.size, 0, none⟩) l1]; exact f1
  clear hb
  go_wp2
  exact bodyPost_ret (v := .tuple #[.agg #[.slice none 0 0], .int .i64 2]) (by simp [results, Tryd.results17, go_sem, cell_put_alloc c1]) rfl ⟨rfl, (B1.out.setCell (Nat.le_refl _) _).alloc (by simp [World.setCell]; exact B1.out.size) _⟩

theorem implPunchText_full (s : ByteArray) (n : Nat) (h : inB n 1 20 = true) (hs : n < s.size) (hm : s.size ≤ 1048576) (w : World) {aL aF : Addr} (S : Sents2 w aL aF) : Calls Tryd.prog 17 #[.string s, .int .i64 n] w (GivesCode 5 w) := by
  have hn : ∀ (w : World), (binOp .neq 76 (.iface 187 (.pointer (some aL))) .nilIface).run Tryd.prog w = .ok (.bool true) w := fun w => run_neq_iface_nil w 76 (by kernel_rfl) _ _
  have HI := Lib.hid (fun W => implBlank_yes n h W)
  have HS := Lib.hid S
  have hz := List.length_replicate (n := n) (a := (0 : Int))
  clear h S
  go_enter Tryd.func17, Tryd.ntmps17
  go_wp2_with fail
  refine (HI.out _).mono ?_
  rintro e w1 ⟨g, cap, ex, rfl, hg, hb, hrow⟩
  rw [hz]
  have B1 := Lib.hid (below_step (below_box w _) hb)
  have c1 := cell_kept (p := ⟨w.heap.size, 0, none⟩) (v := .slice none 0 0) (by simp) hb
  have S2 := Lib.hid (HS.out.below (B1.out.alloc B1.out.size (.cells #[.slice (some ⟨g, 0, none⟩) n cap] 32)))
  have f1 : w1.frozen? ⟨w.heap.size, 0, none⟩ = false := by rw [hb.frozen (by simp)]; simp
  have l1 : w.heap.size < w1.heap.size := World.block_lt_of_cell? _ _ c1
  have c2 : (w1.alloc (.cells #[.slice (some ⟨g, 0, none⟩) n cap] 32)).cell? ⟨w.heap.size, 0, none⟩ = some (.slice none 0 0) := by rw [World.cell?_alloc_lt _ _ _ l1]; exact c1
  have f2 : (w1.alloc (.cells #[.slice (some ⟨g, 0, none⟩) n cap] 32)).frozen? ⟨w.heap.size, 0, none⟩ = false := by rw [(below_box w1 _).frozen (p := ⟨w.heap.size, 0, none⟩) l1]; exact f1
  clear hb hrow hg HS hz
  go_wp2_with fail
  refine (write_long _ n cap s hs hm _ S2.out.long).mono ?_
  rintro e w2 ⟨rfl, rfl⟩
  go_wp2_with fail
  refine (codeFor_long2 _ S2.out).mono ?_
  rintro e w3 ⟨rfl, rfl⟩
  go_wp2
  exact bodyPost_ret (v := .tuple #[.agg #[.slice none 0 0], .int .i64 5]) (by simp [results, Tryd.results17, go_sem, cell_put_alloc c1]) rfl ⟨rfl, (B1.out.setCell (Nat.le_refl _) _).alloc (by simp [World.setCell]; exact B1.out.size) _⟩

theorem implPunchText_fits (s : ByteArray) (n : Nat) (h : inB n 1 20 = true) (hs : s.size ≤ n) (w : World) {aL aF : Addr} (S : Sents2 w aL aF) : Calls Tryd.prog 17 #[.string s, .int .i64 n] w (GivesText s n w) := by
  have hne : ∀ (w : World), (binOp .neq 76 (.iface 187 (.pointer (some aF))) .nilIface).run Tryd.prog w = .ok (.bool true) w := fun w => run_neq_iface_nil w 76 (by kernel_rfl) _ _
  have HI := Lib.hid (fun W => implBlank_yes n h W)
  have HS := Lib.hid S
  have hz := List.length_replicate (n := n) (a := (0 : Int))
  have hn20 : n ≤ 20 := by simp [inB] at h; omega
  have hlen := Lib.hid (punchTo_length s n s.size (Nat.le_refl _) hs)
  clear h S
  go_enter Tryd.func17, Tryd.ntmps17
  go_wp2_with fail
  refine (HI.out _).mono ?_
  rintro e w1 ⟨g, cap, ex, rfl, hg, hb, hrow⟩
  rw [hz]
  have B1 := Lib.hid (below_step (below_box w _) hb)
  have c1 := cell_kept (p := ⟨w.heap.size, 0, none⟩) (v := .slice none 0 0) (by simp) hb
  have f1 : w1.frozen? ⟨w.heap.size, 0, none⟩ = false := by rw [hb.frozen (by simp)]; simp
  have hg' : w.heap.size + 1 ≤ g := by simpa using hg
  have gl := hrow.lt
  have hfl := World.block_lt_of_cell? _ _ HS.out.foreign.1
  have s1 := B1.out.size
  have hsz : (w1.alloc (.cells #[.slice (some ⟨g, 0, none⟩) n cap] 32)).heap.size = w1.heap.size + 1 := by simp
  have S2 := Lib.hid (HS.out.below (B1.out.alloc B1.out.size (.cells #[.slice (some ⟨g, 0, none⟩) n cap] 32)))
  have R2 := Lib.hid (hrow.alloc (.cells #[.slice (some ⟨g, 0, none⟩) n cap] 32))
  have B2 := Lib.hid (B1.out.alloc B1.out.size (.cells #[.slice (some ⟨g, 0, none⟩) n cap] 32))
  have c2 : (w1.alloc (.cells #[.slice (some ⟨g, 0, none⟩) n cap] 32)).cell? ⟨w.heap.size, 0, none⟩ = some (.slice none 0 0) := by rw [World.cell?_alloc_lt _ _ _ (World.block_lt_of_cell? _ _ c1)]; exact c1
  have d2 : (w1.alloc (.cells #[.slice (some ⟨g, 0, none⟩) n cap] 32)).cell? ⟨w1.heap.size, 0, none⟩ = some (.slice (some ⟨g, 0, none⟩) n cap) := by simp
  have g2 : (w1.alloc (.cells #[.slice (some ⟨g, 0, none⟩) n cap] 32)).frozen? ⟨w.heap.size, 0, none⟩ = false := by rw [(below_box w1 _).frozen (p := ⟨w.heap.size, 0, none⟩) (World.block_lt_of_cell? _ _ c1)]; exact f1
  clear hb hrow hg hz f1 c1
  go_wp2_with fail
  refine (write_any g n cap s ex hs (by omega) _ R2.out S2.out.foreign (by have h' : 3 < w.heap.size := hfl; omega)).mono ?_
  rintro e w3 ⟨hgr, hw⟩
  have B3 := Lib.hid (below_only B2.out hgr (by omega))
  have c3 := cell_only hgr c2 (by simp; omega)
  have g3 := frozen_only' hgr c2 g2 (by simp; omega)
  have d3 := cell_only hgr d2 (by simp; omega)
  have S3 := Lib.hid (HS.out.below B3.out)
  clear hgr c2 d2 g2 R2 B2 HS S2
  rcases hw with ⟨hl, rfl, hr⟩ | ⟨hl, rfl⟩
  · have HL := Lib.hid hl
    have HR := Lib.hid hr
    clear hl hr
    go_wp2
    refine bodyPost_ret (v := .tuple #[.agg #[.slice (some ⟨g, 0, none⟩) n cap], .int .i64 0]) (by simp [results, Tryd.results17, go_sem, c3]) rfl (Or.inl ⟨HL.out, g, cap, ex, by rw [hlen.out], by omega, ?_, ?_⟩)
    · exact B3.out.setCell (Nat.le_refl _) _
    · exact HR.out.far (by simp; omega) _
  · have HL := Lib.hid hl
    clear hl
    go_wp2_with fail
    refine (codeFor_foreign2 _ S3.out).mono ?_
    rintro e w4 ⟨rfl, rfl⟩
    go_wp2
    exact bodyPost_ret (v := .tuple #[.agg #[.slice none 0 0], .int .i64 7]) (by simp [results, Tryd.results17, go_sem, c3]) rfl (Or.inr ⟨HL.out, rfl, B3.out.setCell (Nat.le_refl _) _⟩)
end Go.Proofs.YtmibkaldeickdabDoor
