/- The registers of impl: what they hold in memory; registerOf, counter and complement: contracts, for counters of at most 12 digits. -/
import Derived.Test.YtkiphejkgpfjjaaDoorCntOk
import Derived.Test.YtkiphejkgpfjjaaDoorCounter
import Derived.Laws.Tables
import Derived.Laws.Rows
import Derived.Deep.DeepCutAuto
import Derived.Laws.NewDeep
namespace Go.Proofs.YtkiphejkgpfjjaaDoor
open Go.ChangeShapes Go.WideShapes Go.ChangeAt Go.RowKit

/-- twelve wheels: the digits, and 0 behind them -/
def reg12 (xs : List Int) : List Int := xs ++ List.replicate (12 - xs.length) 0
theorem reg12_length {xs : List Int} (h : xs.length ≤ 12) : (reg12 xs).length = 12 := by simp [reg12]; omega
theorem reg12_get {xs : List Int} (k : Nat) (h : k < xs.length) : (reg12 xs)[k]?.getD 0 = xs[k]?.getD 0 := by
  rw [reg12, List.getElem?_append_left h]
theorem reg12_nil : reg12 [] = List.replicate 12 0 := rfl
theorem reg12_snoc {xs : List Int} (x : Int) (h : xs.length < 12) : (reg12 xs).set xs.length x = reg12 (xs ++ [x]) := by
  have e : 12 - xs.length = (12 - (xs.length + 1)) + 1 := by omega
  simp only [reg12, List.length_append, List.length_cons, List.length_nil]
  rw [e, List.replicate_succ, List.set_append_right _ _ (Nat.le_refl _), Nat.sub_self, List.set_cons_zero, List.append_assoc]
  simp

/-- k wheels of the complement -/
def compTo (xs : List Int) (k : Nat) : List Int := reg12 ((compL xs).take k ++ xs.drop k)
theorem compTo_len (xs : List Int) (k : Nat) : ((compL xs).take k ++ xs.drop k).length = xs.length := by simp [compL]; omega
theorem compTo_length {xs : List Int} {k : Nat} (h : xs.length ≤ 12) : (compTo xs k).length = 12 := reg12_length (by rw [compTo_len]; exact h)
theorem compTo_all (xs : List Int) : compTo xs xs.length = reg12 (compL xs) := by
  rw [compTo, List.take_of_length_le (by rw [compL_length]; exact Nat.le_refl _)]
  simp
theorem compTo_get {xs : List Int} (k : Nat) (h : k < xs.length) : (compTo xs k)[k]?.getD 0 = xs[k]?.getD 0 := by
  have h1 : ((compL xs).take k).length = k := by simp [compL]; omega
  rw [compTo, reg12_get k (by rw [compTo_len]; exact h), List.getElem?_append_right (by omega), h1, List.getElem?_drop]
  simp
theorem compTo_set {xs : List Int} (k : Nat) (h : k < xs.length) (_ : xs.length ≤ 12) : (compTo xs k).set k (9 - xs[k]?.getD 0) = compTo xs (k + 1) := by
  have h1 : ((compL xs).take k).length = k := by simp [compL]; omega
  have h2 : xs.drop k = xs[k] :: xs.drop (k + 1) := List.drop_eq_getElem_cons h
  have h3 : (compL xs).take (k + 1) = (compL xs).take k ++ [9 - xs[k]] := by
    rw [List.take_succ_eq_append_getElem (by rw [compL_length]; exact h)]
    simp [compL]
  have h4 : 12 - ((compL xs).take k ++ xs.drop k).length = 12 - ((compL xs).take (k + 1) ++ xs.drop (k + 1)).length := by rw [compTo_len, compTo_len]
  rw [compTo, compTo, reg12, reg12, h4]
  generalize 12 - ((compL xs).take (k + 1) ++ xs.drop (k + 1)).length = r
  rw [List.getElem?_eq_getElem h, Option.getD_some, h2, h3, List.append_assoc, List.set_append_right _ _ (by omega), h1, Nat.sub_self, List.cons_append, List.set_cons_zero]
  simp only [List.append_assoc, List.singleton_append, List.cons_append, List.nil_append]

/-- the cells of a register -/
def regV (rs : List Int) (n : Nat) : Array Value := (rs.map (Value.int .i8) ++ [Value.int .i64 n]).toArray
/-- Block g holds a register. -/
def RegRow (w : World) (g : Nat) (rs : List Int) (n : Nat) : Prop := w.heap[g]? = some (.cells (regV rs n) 51 (0, 0))
theorem regV_size {rs : List Int} {n : Nat} (h : rs.length = 12) : (regV rs n).size = 13 := by simp [regV, h]
theorem RegRow.cell {w : World} {g n : Nat} {rs : List Int} (h : RegRow w g rs n) {i : Nat} (hi : i < rs.length) : w.cell? ⟨g, i, none⟩ = some (.int .i8 (rs[i]?.getD 0)) := by
  rw [cell_of_row w g i _ _ _ h]
  simp [regV, List.getElem?_append_left, hi]
theorem RegRow.count {w : World} {g n : Nat} {rs : List Int} (h : RegRow w g rs n) (hl : rs.length = 12) : w.cell? ⟨g, 12, none⟩ = some (.int .i64 n) := by
  rw [cell_of_row w g 12 _ _ _ h]
  simp [regV, hl]
theorem RegRow.frozen {w : World} {g n : Nat} {rs : List Int} (h : RegRow w g rs n) (i : Nat) : w.frozen? ⟨g, i, none⟩ = false := by
  unfold RegRow at h
  simp [World.frozen?, h]
theorem RegRow.lt {w : World} {g n : Nat} {rs : List Int} (h : RegRow w g rs n) : g < w.heap.size := by
  unfold RegRow at h
  rcases Nat.lt_or_ge g w.heap.size with hg | hg
  · exact hg
  · rw [Array.getElem?_eq_none hg] at h
    cases h
theorem RegRow.set {w : World} {g n : Nat} {rs : List Int} (h : RegRow w g rs n) {i : Nat} (hi : i < rs.length) (u : Int) : RegRow (w.setCell ⟨g, i, none⟩ (.int .i8 u)) g (rs.set i u) n := by
  unfold RegRow at h ⊢
  simp only [World.setCell, Array.getElem?_modify, if_true, h, Option.map_some]
  congr 2
  apply Array.ext'
  simp [regV, List.map_set, List.set_append_left, hi]
theorem RegRow.later {w w' : World} {g n : Nat} {rs : List Int} (h : RegRow w g rs n) (hb : Below w.heap.size w w') : RegRow w' g rs n := (hb.block g h.lt).trans h
theorem RegRow.only {w w' : World} {g j n : Nat} {rs : List Int} (h : w.grownBy w' (some g)) (hr : RegRow w j rs n) (hne : j ≠ g) : RegRow w' j rs n :=
  (h.block j hr.lt (fun e => hne (by injection e))).trans hr
theorem RegRow.new (w : World) (rs : List Int) (n : Nat) : RegRow (w.alloc (.cells (regV rs n) 51)) w.heap.size rs n := heap_alloc_new w _
theorem regV_zero (n : Nat) : regV (reg12 []) n = #[Value.int .i8 0, Value.int .i8 0, Value.int .i8 0, Value.int .i8 0, Value.int .i8 0, Value.int .i8 0, Value.int .i8 0, Value.int .i8 0, Value.int .i8 0, Value.int .i8 0, Value.int .i8 0, Value.int .i8 0, Value.int .i64 n] := by simp [regV, reg12]
theorem info_reg : (Tryd.prog.info? 51).map (·.size) = some 13 := by kernel_rfl
theorem reg_one {rs : List Int} {n : Nat} : (regV rs n).all (·.oneCell') = true := by simp [regV, Value.oneCell']
theorem below_setRowR {B : Nat} {a w : World} {g : Nat} (h : Below B a w) (hg : B ≤ g) (cs : Array Value) : Below B a (w.setRow g cs) := ⟨h.os, h.tape, h.output, by simpa [World.setRow] using h.size, fun k hk => by
  rw [← h.block k hk]
  simp [World.setRow, Array.getElem?_modify]
  intro e
  omega⟩

/-- a counter of new memory -/
def GivesK1 (ys : List Int) (w : World) (e : Ending) (w' : World) : Prop :=
  ∃ g cap ex, e = .returned (.agg #[.slice (some ⟨g, 0, none⟩) ys.length cap]) ∧ w.heap.size ≤ g ∧ Below w.heap.size w w' ∧ Row w' g ys ex
/-- what registerOf gives -/
def GivesReg (rs : List Int) (n : Nat) (w : World) (e : Ending) (w' : World) : Prop := e = .returned (.agg (regV rs n)) ∧ Below w.heap.size w w'

set_option maxRecDepth 100000 in
set_option maxHeartbeats 1000000 in
theorem registerOf_any (A : Option Addr) (c : Nat) (xs : List Int) (B : Nat) (w : World) (h : Ints w B A xs) (hB : B ≤ w.heap.size) (hv : wheelsB xs = true) (hn : xs.length ≤ 12) :
    Calls Tryd.prog 53 #[.agg #[.slice A xs.length c]] w (GivesReg (reg12 xs) xs.length w) := by
  obtain ⟨n, hN⟩ : ∃ n, xs.length = n := ⟨_, rfl⟩
  rw [hN] at hn ⊢
  have e1 := below_box w (.cells #[.slice A n c] 24)
  have e2 := below_boxed e1 (.cells #[Value.int .i8 0, Value.int .i8 0, Value.int .i8 0, Value.int .i8 0, Value.int .i8 0, Value.int .i8 0, Value.int .i8 0, Value.int .i8 0, Value.int .i8 0, Value.int .i8 0, Value.int .i8 0, Value.int .i8 0, Value.int .i64 0] 51)
  have e3 := below_boxed e2 (.cells #[Value.int .i8 0, Value.int .i8 0, Value.int .i8 0, Value.int .i8 0, Value.int .i8 0, Value.int .i8 0, Value.int .i8 0, Value.int .i8 0, Value.int .i8 0, Value.int .i8 0, Value.int .i8 0, Value.int .i8 0, Value.int .i64 n] 51)
  have R0a : RegRow ((w.alloc (.cells #[.slice A n c] 24)).alloc (.cells #[Value.int .i8 0, Value.int .i8 0, Value.int .i8 0, Value.int .i8 0, Value.int .i8 0, Value.int .i8 0, Value.int .i8 0, Value.int .i8 0, Value.int .i8 0, Value.int .i8 0, Value.int .i8 0, Value.int .i8 0, Value.int .i64 0] 51)) (w.heap.size + 1) (reg12 []) 0 := by
    have := RegRow.new (w.alloc (.cells #[.slice A n c] 24)) (reg12 []) 0
    rw [regV_zero] at this
    simpa using this
  have R1a : RegRow (((w.alloc (.cells #[.slice A n c] 24)).alloc (.cells #[Value.int .i8 0, Value.int .i8 0, Value.int .i8 0, Value.int .i8 0, Value.int .i8 0, Value.int .i8 0, Value.int .i8 0, Value.int .i8 0, Value.int .i8 0, Value.int .i8 0, Value.int .i8 0, Value.int .i8 0, Value.int .i64 0] 51)).alloc (.cells #[Value.int .i8 0, Value.int .i8 0, Value.int .i8 0, Value.int .i8 0, Value.int .i8 0, Value.int .i8 0, Value.int .i8 0, Value.int .i8 0, Value.int .i8 0, Value.int .i8 0, Value.int .i8 0, Value.int .i8 0, Value.int .i64 n] 51)) (w.heap.size + 2) (reg12 (xs.take 0)) n := by
    have := RegRow.new ((w.alloc (.cells #[.slice A n c] 24)).alloc (.cells #[Value.int .i8 0, Value.int .i8 0, Value.int .i8 0, Value.int .i8 0, Value.int .i8 0, Value.int .i8 0, Value.int .i8 0, Value.int .i8 0, Value.int .i8 0, Value.int .i8 0, Value.int .i8 0, Value.int .i8 0, Value.int .i64 0] 51)) (reg12 []) n
    rw [regV_zero] at this
    simpa using this
  have R0' := R0a.later (below_box _ (.cells #[Value.int .i8 0, Value.int .i8 0, Value.int .i8 0, Value.int .i8 0, Value.int .i8 0, Value.int .i8 0, Value.int .i8 0, Value.int .i8 0, Value.int .i8 0, Value.int .i8 0, Value.int .i8 0, Value.int .i8 0, Value.int .i64 n] 51))
  have c0 : (((w.alloc (.cells #[.slice A n c] 24)).alloc (.cells #[Value.int .i8 0, Value.int .i8 0, Value.int .i8 0, Value.int .i8 0, Value.int .i8 0, Value.int .i8 0, Value.int .i8 0, Value.int .i8 0, Value.int .i8 0, Value.int .i8 0, Value.int .i8 0, Value.int .i8 0, Value.int .i64 0] 51)).alloc (.cells #[Value.int .i8 0, Value.int .i8 0, Value.int .i8 0, Value.int .i8 0, Value.int .i8 0, Value.int .i8 0, Value.int .i8 0, Value.int .i8 0, Value.int .i8 0, Value.int .i8 0, Value.int .i8 0, Value.int .i8 0, Value.int .i64 n] 51)).cell? ⟨w.heap.size, 0, none⟩ = some (.slice A n c) := by simp [go_sem]
  have H3 := Lib.hid (h.below (e3.mono hB))
  have E3 := Lib.hid e3
  have R0 := Lib.hid R0'
  have R1 := Lib.hid R1a
  have HN := Lib.hid hN
  have HV := Lib.hid hv
  clear h hv e1 e2 e3 R0' hN R0a R1a
  go_enter Tryd.func53, Tryd.ntmps53
  go_wp2
  generalize (((w.alloc (.cells #[.slice A n c] 24)).alloc (.cells #[Value.int .i8 0, Value.int .i8 0, Value.int .i8 0, Value.int .i8 0, Value.int .i8 0, Value.int .i8 0, Value.int .i8 0, Value.int .i8 0, Value.int .i8 0, Value.int .i8 0, Value.int .i8 0, Value.int .i8 0, Value.int .i64 0] 51)).alloc (.cells #[Value.int .i8 0, Value.int .i8 0, Value.int .i8 0, Value.int .i8 0, Value.int .i8 0, Value.int .i8 0, Value.int .i8 0, Value.int .i8 0, Value.int .i8 0, Value.int .i8 0, Value.int .i8 0, Value.int .i8 0, Value.int .i64 n] 51)) = w3 at *
  go_loopw [13] (fun i wr => ∃ k : Nat, k ≤ n ∧ i = .int .i64 k ∧ Hid (w3.grownBy wr (some (w.heap.size + 2))) ∧ Hid (RegRow wr (w.heap.size + 2) (reg12 (xs.take k)) n)) (fun i _ => n - (intOf i).toNat)
  case atStart => exact ⟨0, Nat.zero_le _, rfl, World.grownBy.refl _ _, R1.out⟩
  case round =>
    obtain ⟨k, hk, rfl, HG, HR⟩ := hrel
    by_cases hlt : k < n
    · have hx : k < xs.length := by rw [HN.out]; exact hlt
      obtain ⟨b, off, rfl, hb, hcell⟩ := H3.out (by omega)
      have x0 := hcell k hx
      have x1 := cell_only HG.out x0 (by have hb' : b < B := hb; show b ≠ _; omega)
      obtain ⟨x, hxx⟩ : ∃ x, xs[k]?.getD 0 = x := ⟨_, rfl⟩
      have hd := wheels_at HV.out k
      rw [hxx] at x1 hd
      have hl12 : (reg12 (xs.take k)).length = 12 := reg12_length (by simp; omega)
      have y1 := HR.out.cell (i := k) (by omega)
      have z1 := HR.out.frozen k
      have hst : (reg12 (xs.take k)).set k x = reg12 (xs.take (k + 1)) := by
        have := reg12_snoc (xs := xs.take k) x (by simp; omega)
        rw [show (xs.take k).length = k by simp; omega] at this
        rw [this, List.take_succ_eq_append_getElem hx]
        rw [List.getElem?_eq_getElem hx] at hxx
        simp only [Option.getD_some] at hxx
        rw [hxx]
      obtain ⟨v, hv⟩ : ∃ v, (reg12 (xs.take k))[k]?.getD 0 = v := ⟨_, rfl⟩
      rw [hv] at y1
      have HST := Lib.hid hst
      have HL12 := Lib.hid hl12
      have j0 : (0 : Int) ≤ (k : Int) := Int.natCast_nonneg _
      have j1 : (k : Int) < (n : Int) := by omega
      have j2 : (k : Int) < 12 := by omega
      have w8 : IntKind.i8.wrap x = x := IntWalk.i8_in x (by omega)
      clear hcell hxx hv hst hl12 x0 hd hx
      go_wp2
      go_roundw
      case rel =>
        refine ⟨k + 1, by omega, by go_num, only_step HG.out (only_set _ _ _ _), ?_⟩
        show RegRow _ _ _ _
        rw [← HST.out]
        exact HR.out.set (by rw [HL12.out]; omega) _
      case measure => simp [intOf]; omega
    · obtain rfl : k = n := by omega
      have RA : Hid (RegRow wr (w.heap.size + 2) (reg12 xs) k) := by
        have := HR.out
        rw [List.take_of_length_le (by rw [HN.out]; omega)] at this
        exact this
      have RB : Hid (RegRow wr (w.heap.size + 1) (reg12 []) 0) := RegRow.only HG.out R0.out (by omega)
      have BB : Hid (Below w.heap.size w wr) := below_only E3.out HG.out (by omega)
      have j1 : ¬ (k : Int) < (k : Int) := by omega
      have l1 := reg12_length (xs := xs) (by rw [HN.out]; exact hn)
      have hi : (Tryd.prog.info? 51).map (·.size) = some (regV (reg12 xs) k).size := by rw [regV_size l1]; exact info_reg
      have hold : (regV (reg12 []) 0).size = (regV (reg12 xs) k).size := by rw [regV_size l1]; rfl
      have hone : (regV (reg12 xs) k).all (·.oneCell') = true := reg_one
      have HI := Lib.hid hi
      have HO := Lib.hid hone
      have HH := Lib.hid hold
      have RA2 : Hid (wr.heap[w.heap.size + 2]? = some (.cells (regV (reg12 xs) k) 51 (0, 0))) := RA.out
      have RB2 : Hid (wr.heap[w.heap.size + 1]? = some (.cells (regV (reg12 []) 0) 51 (0, 0))) := RB.out
      obtain ⟨cs, hcs⟩ : ∃ cs, regV (reg12 xs) k = cs := ⟨_, rfl⟩
      obtain ⟨c0', hc0⟩ : ∃ cs, regV (reg12 []) 0 = cs := ⟨_, rfl⟩
      have HCS := Lib.hid hcs
      rw [hcs] at HI HO HH RA2
      rw [hc0] at HH RB2
      clear hi hold hone l1 RA RB R0 R1 HR HG hcs hc0
      go_upto_region 7 with (fail)
      go_wp2_with (first
        | (refine wpList_load_row rfl 51 (.tmp 3) rfl (w.heap.size + 2) rfl _ _ _ _ RA2.out Tryd.underlying51 rfl HI.out ?_)
        | (refine wpList_store_row rfl 51 (.tmp 2) (.tmp 24) rfl (w.heap.size + 1) _ rfl rfl _ _ RB2.out HI.out HH.out HO.out ?_))
      refine bodyPost_ret (v := .agg cs) (results_cell_row rfl _ _ (w.heap.size + 1) 51 cs (0, 0) _ rfl ?_ Tryd.underlying51 rfl HI.out) rfl ⟨by rw [HCS.out], ?_⟩
      · have := RB2.out
        simp [World.setRow, Array.getElem?_modify, this]
      · exact below_setRowR BB.out (by omega) _

set_option maxRecDepth 100000 in
set_option maxHeartbeats 1000000 in
theorem regCounter_any (xs : List Int) (w : World) (hv : wheelsB xs = true) (hn : xs.length ≤ 12) :
    Calls Tryd.prog 34 #[.agg (regV (reg12 xs) xs.length)] w (GivesK1 xs w) := by
  obtain ⟨n, hN⟩ : ∃ n, xs.length = n := ⟨_, rfl⟩
  rw [hN] at hn ⊢
  have hmk := run_make_row' (P := Tryd.prog) 22 2 (.int .i64 0) 8 Tryd.underlying22 info_int64 rfl .i64 .i64 n (by omega) (by omega)
  obtain ⟨w1, hW1⟩ : ∃ W, w.alloc (.cells (regV (reg12 xs) n) 51) = W := ⟨_, rfl⟩
  have hl12 : (reg12 xs).length = 12 := reg12_length (by omega)
  have R1a := RegRow.new w (reg12 xs) n
  have e1 := below_box w (.cells (regV (reg12 xs) n) 51)
  have hs1 : w1.heap.size = w.heap.size + 1 := by rw [← hW1]; simp
  rw [hW1] at R1a e1
  have p12 := R1a.count hl12
  have e2 := below_boxed e1 (.cells #[.slice none 0 0] 24)
  have e3 := below_boxed e2 (.cells (madeCells #[Value.int .i64 0] n) 2)
  have e4 : Below w1.heap.size w1 ((w1.alloc (.cells #[.slice none 0 0] 24)).alloc (.cells (madeCells #[Value.int .i64 0] n) 2)) := below_boxed (below_box w1 _) _
  have R3 := Lib.hid (R1a.later e4)
  have HROW : Hid (Row ((w1.alloc (.cells #[.slice none 0 0] 24)).alloc (.cells (madeCells #[Value.int .i64 0] n) 2)) (w1.heap.size + 1) (part xs 0) []) := by
    show Row _ _ _ _
    rw [part_zero, hN, madeCells_int]
    exact Row.new_at _ _ (by simp)
  have HRES : Hid (((w1.alloc (.cells #[.slice none 0 0] 24)).alloc (.cells (madeCells #[Value.int .i64 0] n) 2)).cell? ⟨w1.heap.size, 0, none⟩ = some (.slice none 0 0)) := by
    show _ = _
    simp [go_sem]
  have HFR : Hid (((w1.alloc (.cells #[.slice none 0 0] 24)).alloc (.cells (madeCells #[Value.int .i64 0] n) 2)).frozen? ⟨w1.heap.size, 0, none⟩ = false) := by
    show _ = _
    simp [go_sem]
  have p12' := cell_kept p12 (below_box w1 (.cells #[.slice none 0 0] 24))
  have E3 := Lib.hid e3
  have HN := Lib.hid hN
  have HV := Lib.hid hv
  have HL := Lib.hid hl12
  have HS1 := Lib.hid hs1
  clear hv e1 e2 e3 e4 R1a hl12 hs1 hN
  go_enter Tryd.func34, Tryd.ntmps34
  go_wp2
  clear hmk p12 p12'
  generalize ((w1.alloc (.cells #[.slice none 0 0] 24)).alloc (.cells (madeCells #[Value.int .i64 0] n) 2)) = w3 at *
  go_loopw [10] (fun i wr => ∃ k : Nat, k ≤ n ∧ i = .int .i64 k ∧ Hid (w3.grownBy wr (some (w1.heap.size + 1))) ∧ Hid (Row wr (w1.heap.size + 1) (part xs k) [])) (fun i _ => n - (intOf i).toNat)
  case atStart => exact ⟨0, Nat.zero_le _, rfl, World.grownBy.refl _ _, HROW.out⟩
  case round =>
    obtain ⟨k, hk, rfl, HG, HR⟩ := hrel
    have hpl := Lib.hid (part_length xs k (by rw [HN.out]; exact hk))
    by_cases hlt : k < n
    · have hx : k < xs.length := by rw [HN.out]; exact hlt
      have x0 := R3.out.cell (i := k) (by rw [HL.out]; omega)
      rw [reg12_get k hx] at x0
      have x1 := cell_only HG.out x0 (by show w.heap.size ≠ w1.heap.size + 1; have := HS1.out; omega)
      have y1 := HR.out.cell (i := k) (by rw [hpl.out]; exact hx)
      have z1 := HR.out.frozen k
      have hset := Lib.hid (part_set xs k hx)
      have hd := wheels_at HV.out k
      obtain ⟨x, hxx⟩ : ∃ x, xs[k]?.getD 0 = x := ⟨_, rfl⟩
      rw [hxx] at x1 hset hd
      obtain ⟨v, hv⟩ : ∃ v, (part xs k)[k]?.getD 0 = v := ⟨_, rfl⟩
      rw [hv] at y1
      have j0 : (0 : Int) ≤ (k : Int) := Int.natCast_nonneg _
      have j1 : (k : Int) < (n : Int) := by omega
      have j2 : (k : Int) < 12 := by omega
      have w8 : IntKind.i64.wrap x = x := IntWalk.i64_in x (by omega)
      have hxl := Lib.hid hx
      clear hxx hv x0 hd hx
      go_wp2
      go_roundw
      case rel =>
        refine ⟨k + 1, by omega, by go_num, only_step HG.out (only_set _ _ _ _), ?_⟩
        show Row _ _ _ _
        rw [← hset.out]
        exact HR.out.set (by rw [hpl.out]; exact hxl.out) _
      case measure => simp [intOf]; omega
    · obtain rfl : k = n := by omega
      have c3 := cell_only HG.out HRES.out (by show w1.heap.size ≠ w1.heap.size + 1; omega)
      have f3 : wr.frozen? ⟨w1.heap.size, 0, none⟩ = false := by
        rw [World.frozen?_of_block (HG.out.block w1.heap.size (World.block_lt_of_cell? _ _ HRES.out) (fun e => by injection e; omega))]
        exact HFR.out
      have B3 : Hid (Below w.heap.size w wr) := below_only E3.out HG.out (by have := HS1.out; omega)
      have hrow2 : Row wr (w1.heap.size + 1) xs [] := by
        have := HR.out
        rw [← HN.out, part_all] at this
        exact this
      have HRW := Lib.hid hrow2
      have j1 : ¬ (k : Int) < (k : Int) := by omega
      clear hrow2 hpl
      go_wp2
      refine bodyPost_ret (v := .agg #[.slice (some ⟨w1.heap.size + 1, 0, none⟩) k k]) (by simp [results, Tryd.results34, go_sem, c3]) rfl ⟨w1.heap.size + 1, k, [], by rw [HN.out], by have := HS1.out; omega, ?_, ?_⟩
      · exact B3.out.setCell (by have := HS1.out; show w.heap.size ≤ w1.heap.size; omega) _
      · exact HRW.out.far (by simp) _

set_option maxRecDepth 100000 in
set_option maxHeartbeats 1000000 in
theorem regComplement_any (xs : List Int) (w : World) (hv : wheelsB xs = true) (hn : xs.length ≤ 12) :
    Calls Tryd.prog 44 #[.agg (regV (reg12 xs) xs.length)] w (GivesReg (reg12 (compL xs)) xs.length w) := by
  obtain ⟨n, hN⟩ : ∃ n, xs.length = n := ⟨_, rfl⟩
  rw [hN] at hn ⊢
  obtain ⟨w1, hW1⟩ : ∃ W, w.alloc (.cells (regV (reg12 xs) n) 51) = W := ⟨_, rfl⟩
  have hl12 : (reg12 xs).length = 12 := reg12_length (by omega)
  have R1a := RegRow.new w (reg12 xs) n
  have e1 := below_box w (.cells (regV (reg12 xs) n) 51)
  have hs1 : w1.heap.size = w.heap.size + 1 := by rw [← hW1]; simp
  rw [hW1] at R1a e1
  have e2 := below_boxed e1 (.cells #[Value.int .i8 0, Value.int .i8 0, Value.int .i8 0, Value.int .i8 0, Value.int .i8 0, Value.int .i8 0, Value.int .i8 0, Value.int .i8 0, Value.int .i8 0, Value.int .i8 0, Value.int .i8 0, Value.int .i8 0, Value.int .i64 0] 51)
  have R2 := R1a.later (below_box w1 (.cells #[Value.int .i8 0, Value.int .i8 0, Value.int .i8 0, Value.int .i8 0, Value.int .i8 0, Value.int .i8 0, Value.int .i8 0, Value.int .i8 0, Value.int .i8 0, Value.int .i8 0, Value.int .i8 0, Value.int .i8 0, Value.int .i64 0] 51))
  have R0a : RegRow (w1.alloc (.cells #[Value.int .i8 0, Value.int .i8 0, Value.int .i8 0, Value.int .i8 0, Value.int .i8 0, Value.int .i8 0, Value.int .i8 0, Value.int .i8 0, Value.int .i8 0, Value.int .i8 0, Value.int .i8 0, Value.int .i8 0, Value.int .i64 0] 51)) w1.heap.size (reg12 []) 0 := by
    have := RegRow.new w1 (reg12 []) 0
    rw [regV_zero] at this
    simpa using this
  have p12 := R2.count hl12
  have R0 := Lib.hid R0a
  have R3 : Hid (RegRow (w1.alloc (.cells #[Value.int .i8 0, Value.int .i8 0, Value.int .i8 0, Value.int .i8 0, Value.int .i8 0, Value.int .i8 0, Value.int .i8 0, Value.int .i8 0, Value.int .i8 0, Value.int .i8 0, Value.int .i8 0, Value.int .i8 0, Value.int .i64 0] 51)) w.heap.size (compTo xs 0) n) := R2
  have E3 := Lib.hid e2
  have HN := Lib.hid hN
  have HV := Lib.hid hv
  have HS1 := Lib.hid hs1
  clear hv e1 e2 R1a R2 R0a hl12 hs1 hN
  go_enter Tryd.func44, Tryd.ntmps44
  go_wp2
  clear p12
  generalize (w1.alloc (.cells #[Value.int .i8 0, Value.int .i8 0, Value.int .i8 0, Value.int .i8 0, Value.int .i8 0, Value.int .i8 0, Value.int .i8 0, Value.int .i8 0, Value.int .i8 0, Value.int .i8 0, Value.int .i8 0, Value.int .i8 0, Value.int .i64 0] 51)) = w3 at *
  go_loopw [6] (fun i wr => ∃ k : Nat, k ≤ n ∧ i = .int .i64 k ∧ Hid (w3.grownBy wr (some w.heap.size)) ∧ Hid (RegRow wr w.heap.size (compTo xs k) n)) (fun i _ => n - (intOf i).toNat)
  case atStart => exact ⟨0, Nat.zero_le _, rfl, World.grownBy.refl _ _, R3.out⟩
  case round =>
    obtain ⟨k, hk, rfl, HG, HR⟩ := hrel
    have hl12 : (compTo xs k).length = 12 := compTo_length (by rw [HN.out]; omega)
    by_cases hlt : k < n
    · have hx : k < xs.length := by rw [HN.out]; exact hlt
      have y1 := HR.out.cell (i := k) (by omega)
      have z1 := HR.out.frozen k
      rw [compTo_get k hx] at y1
      have hd := wheels_at HV.out k
      have hset := Lib.hid (compTo_set k hx (by rw [HN.out]; omega))
      obtain ⟨x, hxx⟩ : ∃ x, xs[k]?.getD 0 = x := ⟨_, rfl⟩
      rw [hxx] at y1 hset hd
      have HL := Lib.hid hl12
      have j0 : (0 : Int) ≤ (k : Int) := Int.natCast_nonneg _
      have j1 : (k : Int) < (n : Int) := by omega
      have j2 : (k : Int) < 12 := by omega
      have w8 : IntKind.i8.wrap (9 - x) = 9 - x := IntWalk.i8_in _ (by omega)
      clear hxx hd hx hl12
      go_wp2
      go_roundw
      case rel =>
        refine ⟨k + 1, by omega, by go_num, only_step HG.out (only_set _ _ _ _), ?_⟩
        show RegRow _ _ _ _
        rw [← hset.out]
        exact HR.out.set (by rw [HL.out]; omega) _
      case measure => simp [intOf]; omega
    · obtain rfl : k = n := by omega
      have RA : Hid (RegRow wr w.heap.size (reg12 (compL xs)) k) := by
        have := HR.out
        rw [← HN.out, compTo_all] at this
        rw [← HN.out]
        exact this
      have RB : Hid (RegRow wr w1.heap.size (reg12 []) 0) := RegRow.only HG.out R0.out (by have := HS1.out; omega)
      have BB : Hid (Below w.heap.size w wr) := below_only E3.out HG.out (by omega)
      have j1 : ¬ (k : Int) < (k : Int) := by omega
      have l1 := reg12_length (xs := compL xs) (by rw [compL_length, HN.out]; exact hn)
      have hi : (Tryd.prog.info? 51).map (·.size) = some (regV (reg12 (compL xs)) k).size := by rw [regV_size l1]; exact info_reg
      have hold : (regV (reg12 []) 0).size = (regV (reg12 (compL xs)) k).size := by rw [regV_size l1]; rfl
      have hone : (regV (reg12 (compL xs)) k).all (·.oneCell') = true := reg_one
      have HI := Lib.hid hi
      have HO := Lib.hid hone
      have HH := Lib.hid hold
      have RA2 : Hid (wr.heap[w.heap.size]? = some (.cells (regV (reg12 (compL xs)) k) 51 (0, 0))) := RA.out
      have RB2 : Hid (wr.heap[w1.heap.size]? = some (.cells (regV (reg12 []) 0) 51 (0, 0))) := RB.out
      obtain ⟨cs, hcs⟩ : ∃ cs, regV (reg12 (compL xs)) k = cs := ⟨_, rfl⟩
      obtain ⟨c0', hc0⟩ : ∃ cs, regV (reg12 []) 0 = cs := ⟨_, rfl⟩
      have HCS := Lib.hid hcs
      rw [hcs] at HI HO HH RA2
      rw [hc0] at HH RB2
      clear hi hold hone l1 RA RB R0 R3 HR HG hcs hc0 hl12
      go_upto_region 6 with (fail)
      go_wp2_with (first
        | (refine wpList_load_row rfl 51 (.tmp 1) rfl w.heap.size rfl _ _ _ _ RA2.out Tryd.underlying51 rfl HI.out ?_)
        | (refine wpList_store_row rfl 51 (.tmp 2) (.tmp 18) rfl w1.heap.size _ rfl rfl _ _ RB2.out HI.out HH.out HO.out ?_))
      refine bodyPost_ret (v := .agg cs) (results_cell_row rfl _ _ w1.heap.size 51 cs (0, 0) _ rfl ?_ Tryd.underlying51 rfl HI.out) rfl ⟨by rw [HCS.out], ?_⟩
      · have := RB2.out
        simp [World.setRow, Array.getElem?_modify, this]
      · exact below_setRowR BB.out (by have := HS1.out; omega) _

end Go.Proofs.YtkiphejkgpfjjaaDoor
