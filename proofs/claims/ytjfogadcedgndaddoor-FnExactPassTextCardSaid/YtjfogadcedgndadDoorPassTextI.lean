/- impl.PassText gives the text of passes: contract. -/
import Derived.Test.YtjfogadcedgndadDoorPassText
import Derived.Test.YtjfogadcedgndadDoorDecimal
import Derived.Test.YtjfogadcedgndadDoorShelf
namespace Go.Proofs.YtjfogadcedgndadDoor
open Go.ChangeShapes Go.WideShapes Go.ChangeAt Go.RowKit

/-- the letters of the modes lie in their table -/
def Letters (w : World) : Prop := w.cell? ⟨0, 1, none⟩ = some (.string ⟨#[100]⟩) ∧ w.cell? ⟨0, 2, none⟩ = some (.string ⟨#[122]⟩)
theorem Letters.below {w w' : World} (h : Letters w) (hb : Below w.heap.size w w') : Letters w' := ⟨cell_kept h.1 hb, cell_kept h.2 hb⟩

theorem info_strs : (Tryd.prog.info? 9).map (fun i => (i.zero, i.size, i.bytes)) = some (some (.string ⟨#[]⟩), 1, 16) := by kernel_rfl
def strCells (ws : List ByteArray) (n : Nat) : List Value := ws.map Value.string ++ List.replicate (n - ws.length) (.string ⟨#[]⟩)
theorem strCells_set (ws : List ByteArray) (n : Nat) (x : ByteArray) (h : ws.length < n) : (strCells ws n).set ws.length (.string x) = strCells (ws ++ [x]) n := by
  unfold strCells
  obtain ⟨r, hr⟩ : ∃ r, n - ws.length = r + 1 := ⟨n - ws.length - 1, by omega⟩
  have hr2 : n - (ws ++ [x]).length = r := by simp; omega
  rw [hr, hr2, List.set_append_right _ _ (by simp)]
  simp [List.replicate_succ]
theorem strCells_next (ws : List ByteArray) (n : Nat) (h : ws.length < n) : (strCells ws n)[ws.length]? = some (.string ⟨#[]⟩) := by
  unfold strCells
  rw [List.getElem?_append_right (by simp), List.getElem?_replicate, if_pos (by simp; omega)]
theorem strCells_get (ws : List ByteArray) (n j : Nat) (x : ByteArray) (h : ws[j]? = some x) : (strCells ws n)[j]? = some (.string x) := by
  obtain ⟨hj, _⟩ := List.getElem?_eq_some_iff.1 h
  unfold strCells
  rw [List.getElem?_append_left (by simpa using hj), List.getElem?_map, h]
  rfl
/-- block g holds the texts ws, then empty ones -/
def SRow (w : World) (g : Nat) (ws : List ByteArray) (n : Nat) : Prop := w.heap[g]? = some (.cells (strCells ws n).toArray 9 (0, 0))
theorem SRow.lt {w : World} {g n : Nat} {ws : List ByteArray} (h : SRow w g ws n) : g < w.heap.size := by
  rcases Nat.lt_or_ge g w.heap.size with hlt | hge
  · exact hlt
  · unfold SRow at h
    rw [Array.getElem?_eq_none hge] at h
    cases h
theorem SRow.cell {w : World} {g n : Nat} {ws : List ByteArray} (h : SRow w g ws n) {j : Nat} {v : Value} (hv : (strCells ws n)[j]? = some v) : w.cell? ⟨g, j, none⟩ = some v := by
  rw [cell_of_row w g j _ _ _ h]
  simp only [List.getElem?_toArray]
  exact hv
theorem SRow.frozen {w : World} {g n : Nat} {ws : List ByteArray} (h : SRow w g ws n) (i : Nat) : w.frozen? ⟨g, i, none⟩ = false := by
  unfold SRow at h
  simp [World.frozen?, h]
theorem SRow.later {w w' : World} {g n : Nat} {ws : List ByteArray} (h : SRow w g ws n) (hb : Below w.heap.size w w') : SRow w' g ws n := (hb.block g h.lt).trans h
theorem SRow.drew {w : World} {g n : Nat} {ws : List ByteArray} (h : SRow w g ws n) : SRow w.drew g ws n := h
theorem SRow.put {w : World} {g n : Nat} {ws : List ByteArray} (h : SRow w g ws n) (x : ByteArray) (hn : ws.length < n) : SRow (w.setCell ⟨g, ws.length, none⟩ (.string x)) g (ws ++ [x]) n := by
  unfold SRow at h ⊢
  rw [← strCells_set ws n x hn]
  simp [World.setCell, Array.getElem?_modify, h]

set_option maxRecDepth 100000 in
set_option maxHeartbeats 4000000 in
theorem implPassText_any (A : Option Addr) (c : Nat) (P : List (Int × Int)) (B : Nat) (w : World) (h : Passes w B A P) (hB : B ≤ w.heap.size) (hn : P.length ≤ 1048576) (hw : ∀ d ∈ P, -9223372036854775808 ≤ d.1 ∧ d.1 ≤ 9223372036854775807) (hL : Letters w) (hP : Pow10 w) :
    Calls Tryd.prog 14 #[.slice A P.length c] w fun e w' => e = .returned (.string (passT P)) ∧ Below w.heap.size w w' := by
  have hsz := textTo_size hw P.length (Nat.le_refl _)
  obtain ⟨n, hN⟩ : ∃ n, P.length = n := ⟨_, rfl⟩
  obtain ⟨r, hr⟩ : ∃ r, modesB P = r := ⟨_, rfl⟩
  rw [passT, hr]
  rw [hN] at hn hsz ⊢
  have hmk : ∀ W : World, (Instr.makeSlice 45 (.int .i64 n) (.int .i64 n)).run Tryd.prog W = .ok (.slice (some ⟨W.heap.size, 0, none⟩) n n) (W.alloc (.cells (strCells [] n).toArray 9)) := fun W => by
    obtain ⟨i0, hi0, hz0, hz1, hz2⟩ := info_parts info_strs
    have hr := run_make (P := Tryd.prog) W 45 9 i0 _ Tryd.underlying45 hi0 hz0 .i64 .i64 n n (by omega) (Int.le_refl _) (by rw [hz2]; omega) (by omega)
    have e : madeCells (Value.string ⟨#[]⟩).cells ((n : Int).toNat * i0.size) = (strCells [] n).toArray := by
      rw [hz1, Int.toNat_natCast, Nat.mul_one]
      apply Array.ext
      · simp [size_madeCells, strCells, Value.cells]
      · intro i h1 h2
        simp [madeCells, strCells, Value.cells, Nat.mod_one]
    rw [e, Int.toNat_natCast] at hr
    exact hr
  have H := Lib.hid h
  have HN := Lib.hid hN
  have HW := Lib.hid hw
  have HR := Lib.hid hr
  have HLT := Lib.hid hL
  have HPW := Lib.hid hP
  have HSZ := Lib.hid hsz
  have HMO := Lib.hid isMode_any
  clear h hN hr hw hL hP hsz
  go_enter Tryd.func14, Tryd.ntmps14
  go_wp2
  clear hmk
  go_loopw [11] (fun i wr => ∃ k : Nat, k ≤ n ∧ i = .int .i64 k ∧ Hid (modesB (P.take k) = true) ∧ Hid (SRow wr w.heap.size ((P.take k).map passS) n) ∧ Hid (Below w.heap.size w wr)) (fun i _ => n - (intOf i).toNat)
  case atStart => exact ⟨0, Nat.zero_le _, rfl, by show _ = _; simp [modesB], heap_alloc_new w _, below_box w _⟩
  case round =>
    obtain ⟨k, hk, rfl, HK, HS, HB⟩ := hrel
    by_cases hlt : k < n
    · obtain ⟨d, hd⟩ : ∃ d, P[k]? = some d := ⟨P[k]'(by rw [HN.out]; exact hlt), List.getElem?_eq_getElem _⟩
      obtain ⟨b, off, rfl, hb, hcell⟩ := (H.out.below (HB.out.mono hB)) (by rw [HN.out]; omega)
      obtain ⟨c0, c1⟩ := hcell k d hd
      obtain ⟨w1, w2⟩ := HW.out d (List.mem_of_getElem? hd)
      have hwl : ((P.take k).map passS).length = k := by rw [List.length_map, List.length_take, HN.out]; omega
      have hws : (P.take (k + 1)).map passS = (P.take k).map passS ++ [passS d] := by rw [List.take_add_one, hd, List.map_append]; rfl
      have hall : modesB (P.take (k + 1)) = (modesB (P.take k) && modeB d.2) := by
        unfold modesB
        rw [List.take_add_one, hd, List.all_append]
        simp
      have hbad : modeB d.2 = false → modesB P = false := fun e => by
        unfold modesB
        rw [List.all_eq_false]
        exact ⟨d, List.mem_of_getElem? hd, by simp [e]⟩
      obtain ⟨a, m⟩ := d
      simp only at c0 c1 w1 w2 hall hbad
      rw [HK.out, Bool.true_and] at hall
      rw [HR.out] at hbad
      have hmo := fun W => HMO.out m W
      have hDz := decS_size w1 w2
      have hdc := fun W hW => implDecimal_any a w1 w2 W hW
      have hps : passS (a, m) = decS a ++ letterS m := rfl
      rw [hps] at hws
      obtain ⟨Dd, hD⟩ : ∃ D, decS a = D := ⟨_, rfl⟩
      have hD' : (⟨(Lib.itoa a).toArray⟩ : ByteArray) = Dd := hD
      simp only [hD'] at hdc
      rw [hD] at hDz hws
      obtain ⟨ws, hwe⟩ : ∃ ws, (P.take k).map passS = ws := ⟨_, rfl⟩
      rw [hwe] at hwl hws HS
      have HDC := Lib.hid hdc
      have HWS := Lib.hid hws
      have HWL := Lib.hid hwl
      have HA := Lib.hid hall
      have HBD := Lib.hid hbad
      have k0 : (0 : Int) ≤ (k : Int) := Int.natCast_nonneg _
      have k1 : (k : Int) < (n : Int) := by omega
      have s1 : ¬ 9223372036854775807 < Dd.size + 1 := by omega
      have bx := below_box wr (.cells #[.int .i64 a, .int .i64 m] 58)
      have p0 : (wr.alloc (.cells #[.int .i64 a, .int .i64 m] 58)).cell? ⟨wr.heap.size, 0, none⟩ = some (.int .i64 a) := by simp
      have p1 : (wr.alloc (.cells #[.int .i64 a, .int .i64 m] 58)).cell? ⟨wr.heap.size, 1, none⟩ = some (.int .i64 m) := by simp
      have HBX := Lib.hid (below_step HB.out bx)
      have HSX := Lib.hid (HS.out.later bx)
      have HLX := Lib.hid (HLT.out.below HBX.out)
      have HPX := Lib.hid (HPW.out.below HBX.out)
      clear hcell hd hdc hps hD hD' hws hwe hwl hall hbad hb w1 w2 bx
      obtain ⟨W1, hW1⟩ : ∃ W1, wr.alloc (.cells #[.int .i64 a, .int .i64 m] 58) = W1 := ⟨_, rfl⟩
      rw [hW1] at p0 p1 HBX HSX HLX HPX
      rcases modeB_cases m with ⟨e, hm⟩ | ⟨e, hm⟩ | ⟨e, hm⟩
      rotate_left 2
      · obtain rfl : r = false := HBD.out e
        simp only [e] at hmo
        have HM := Lib.hid hmo
        clear hmo e hm
        go_wp2_with (go_at_call 26; refine (HM.out _).mono ?_; rintro e w' ⟨rfl, rfl⟩)
        go_ret
        exact ⟨rfl, HBX.out⟩
      all_goals
        simp only [e] at hmo
        have HM := Lib.hid hmo
        have HK1 : Hid (modesB (P.take (k + 1)) = true) := by show _ = _; rw [HA.out, e]
        subst hm
        have hSn : (strCells ws n)[k]? = some (.string ⟨#[]⟩) := by have := strCells_next ws n (by rw [HWL.out]; exact hlt); rwa [HWL.out] at this
        have x1 : W1.drew.cell? ⟨wr.heap.size, 0, none⟩ = some (.int .i64 a) := p0
        have x2 := show W1.drew.cell? ⟨wr.heap.size, 1, none⟩ = _ from p1
        have x3 : W1.drew.cell? ⟨0, 1, none⟩ = some (.string ⟨#[100]⟩) := HLX.out.1
        have x4 : W1.drew.cell? ⟨0, 2, none⟩ = some (.string ⟨#[122]⟩) := HLX.out.2
        have HSD : Hid (SRow W1.drew w.heap.size ws n) := HSX.out.drew
        have HPD : Hid (Pow10 W1.drew) := HPX
        have HBD2 : Hid (Below w.heap.size w W1.drew) := HBX.out.drew
        have y5 := HSD.out.cell hSn
        have f5 := HSD.out.frozen k
        have hSN := Lib.hid hSn
        clear hmo e HBD HA hSn
        go_wp2_with (go_at_call 26; refine (HM.out _).mono ?_; rintro e w' ⟨rfl, rfl⟩)
        go_region_with (go_at_call 27; refine (HDC.out _ HPD.out).mono ?_; rintro e w5 ⟨rfl, hb5⟩; have z1 := cell_kept x1 hb5; have z2 := cell_kept x2 hb5; have z3 := cell_kept x3 hb5; have z4 := cell_kept x4 hb5; have HS5 := Lib.hid (HSD.out.later hb5); have HB5 := Lib.hid (below_step HBD2.out hb5); have y6 := HS5.out.cell hSN.out; have f6 := HS5.out.frozen k; clear hb5)
        all_goals
          go_wp2
          go_roundw
          case rel =>
            refine ⟨k + 1, by omega, by go_num, HK1, ?_, HB5.out.setCell (Nat.le_refl _) _⟩
            rw [HWS.out]
            have hl := HWL.out
            have hput := fun x => HS5.out.put x (by rw [hl]; exact hlt)
            simp only [hl] at hput
            exact hput _
          case measure => simp [intOf]; omega
    · have hkn : k = n := by omega
      have k1 : ¬ (k : Int) < (n : Int) := by omega
      obtain rfl : r = true := by
        rw [← HR.out]
        have := HK.out
        rwa [List.take_of_length_le (by rw [HN.out]; omega)] at this
      have hjo : Calls Tryd.prog 28 #[.slice (some ⟨w.heap.size, 0, none⟩) n n, .string ⟨#[32]⟩] wr fun e w' => e = .returned (.string (textTo P n)) ∧ Below wr.heap.size wr w' := by
        obtain ⟨ws, hwe⟩ : ∃ ws, (P.take n).map passS = ws := ⟨_, rfl⟩
        have hwl : ws.length = n := by rw [← hwe, List.length_map, List.length_take, HN.out]; omega
        have hs := HS.out
        rw [hkn, hwe] at hs
        have hlt2 := hs.lt
        have := Tryd.strings_Join w.heap.size 0 n ws ⟨#[32]⟩ wr (fun j x hx => by
          have := hs.cell (strCells_get ws n j x hx)
          rw [Nat.zero_add]
          exact this) hlt2 (by omega) (by omega) (by
          have e : (joinB ws).size = (Lib.join (ws.map (·.data.toList)) (ByteArray.mk #[32]).data.toList).length := by
            show (Lib.join (ws.map (·.data.toList)) (ByteArray.mk #[32]).data.toList).toArray.size = _
            rw [List.size_toArray]
          rw [← e, ← hwe]
          have := HSZ.out
          unfold textTo at this
          omega)
        rw [hwl] at this
        unfold textTo
        rw [hwe]
        exact this
      have HJ := Lib.hid hjo
      clear hkn hjo HK HS
      go_wp2_with fail
      refine HJ.out.mono ?_
      rintro e w2 ⟨rfl, hb⟩
      have B2 := Lib.hid (below_step HB.out hb)
      clear hb
      go_wp2
      go_ret
      exact ⟨rfl, B2.out⟩
end Go.Proofs.YtjfogadcedgndadDoor
