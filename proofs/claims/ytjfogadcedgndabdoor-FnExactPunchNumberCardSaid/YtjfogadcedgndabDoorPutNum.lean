/- spec.l03Put gives the columns of a number, and whether it fits, for every number of a card and 1 to 20 columns: contracts. -/
import Derived.Test.YtjfogadcedgndabDoorWriteAt
import Derived.Test.YtjfogadcedgndabDoorOwn
namespace Go.Proofs.YtjfogadcedgndabDoor
open Go.ChangeShapes Go.WideShapes Go.ChangeAt Go.RowKit

/-- The columns of a number in new memory, and whether it fits. -/
def GivesPut (n : Int) (wd : Nat) (b : Bool) (w : World) (e : Ending) (w' : World) : Prop :=
  ∃ g, e = .returned (.tuple #[.slice (some ⟨g, 0, none⟩) wd wd, .bool b]) ∧ w.heap.size ≤ g ∧ Below w.heap.size w w' ∧ Row w' g (numW n wd) []

set_option maxHeartbeats 1000000 in
theorem l03Put_pos (u : Nat) (wd : Nat) (h1 : 1 ≤ wd) (h20 : wd ≤ 20) (hu12 : u ≤ 999999999999) (w : World) :
    Calls Tryd.prog 18 #[.int .i64 (u : Int), .int .i64 wd] w (GivesPut (u : Int) wd (decide (u / 10 ^ wd = 0)) w) := by
  have hmk := run_make_row' (P := Tryd.prog) 22 2 (.int .i64 0) 8 Tryd.underlying22 info_int64 rfl .i64 .i64 wd (by omega) (by omega)
  obtain ⟨b, hb⟩ : ∃ b, decide (u / 10 ^ wd = 0) = b := ⟨_, rfl⟩
  rw [hb]
  have HBB : Hid (∀ q : Nat, u / 10 ^ wd = q → ((q : Int) == 0) = b) := fun q hq => by
    rw [← hb, hq]
    by_cases h0 : q = 0
    · subst h0; rfl
    · rw [decide_eq_false h0]
      simpa using h0
  have HW : Hid (numW (u : Int) wd = digW u wd) := numW_pos (u : Int) wd (by omega)
  have hneg : ¬ (u : Int) < 0 := by omega
  have hu0 : (0 : Int) ≤ (u : Int) := by omega
  have hw0 : (1 : Int) ≤ (wd : Int) := by omega
  clear hb
  go_enter Tryd.func18, Tryd.ntmps18
  go_wp2
  clear hmk
  go_loopw [7, 8] (fun x k wr => ∃ r j q : Nat, ∃ v : Int, r + j = wd ∧ k = .int .i64 v ∧ v + 1 = (r : Int) ∧ x = .int .i64 q ∧ q ≤ 999999999999 ∧ Hid (u / 10 ^ j = q) ∧ Hid (Row wr w.heap.size (putTo u wd j) []) ∧ Hid (Below w.heap.size w wr)) (fun _ k _ => (intOf k + 1).toNat)
  case atStart =>
    refine ⟨wd, 0, u, _, rfl, rfl, by omega, rfl, hu12, ?_, ?_, below_box w _⟩
    · show u / 10 ^ 0 = u
      simp
    · show Row _ _ _ _
      rw [putTo_zero, madeCells_int]
      exact Row.new_at _ _ rfl
  case round =>
    obtain ⟨r, j, q, v, hrj, rfl, hv, rfl, hq, HQ, HR, HB⟩ := hrel
    by_cases hr : 0 < r
    · obtain ⟨p, rfl⟩ : ∃ p, r = p + 1 := ⟨r - 1, by omega⟩
      obtain rfl : v = (p : Int) := by omega
      obtain ⟨d, hd⟩ : ∃ d, q % 10 = d := ⟨_, rfl⟩
      obtain ⟨q', hq'⟩ : ∃ q', q / 10 = q' := ⟨_, rfl⟩
      have e1 : (q : Int).tmod 10 = (d : Int) := by rw [← hd]; rfl
      have e1' : (q : Int) % 10 = (d : Int) := by omega
      have e2 : (q : Int).tdiv 10 = (q' : Int) := by rw [← hq']; rfl
      have e2' : (q : Int) / 10 = (q' : Int) := by omega
      have hq0 : (0 : Int) ≤ (q : Int) := Int.natCast_nonneg _
      have hp0 : (0 : Int) ≤ (p : Int) := Int.natCast_nonneg _
      have hpw : (p : Int) < (wd : Int) := by omega
      have hql : q' ≤ 999999999999 := by omega
      have hl := Lib.hid (putTo_length u wd j (by omega))
      have HQ1 : Hid (u / 10 ^ (j + 1) = q') := by
        show u / 10 ^ (j + 1) = q'
        rw [Nat.pow_succ, ← Nat.div_div_eq_div_mul, HQ.out, hq']
      have hset := putTo_set u wd j (by omega)
      rw [HQ.out, hd, show wd - j - 1 = p by omega] at hset
      have c1 := HR.out.cell (i := p) (by rw [hl.out]; omega)
      have f1 := HR.out.frozen p
      obtain ⟨z, hz⟩ : ∃ z, (putTo u wd j)[p]?.getD 0 = z := ⟨_, rfl⟩
      rw [hz] at c1
      have HR1 : Hid (Row (wr.setCell ⟨w.heap.size, p, none⟩ (.int .i64 (rowBit d))) w.heap.size (putTo u wd (j + 1)) []) := by
        have := HR.out.set (i := p) (by rw [hl.out]; omega) (rowBit d)
        rw [hset] at this
        exact this
      have HB1 : Hid (Below w.heap.size w (wr.setCell ⟨w.heap.size, p, none⟩ (.int .i64 (rowBit d)))) := HB.out.setCell (by simp) _
      have HL := Lib.hid (fun W => l02Bit_any (d : Int) W)
      obtain ⟨y, hy⟩ : ∃ y, rowBit (d : Int) = y := ⟨_, rfl⟩
      rw [hy] at HR1 HB1 HL
      have HRJ := Lib.hid hrj
      clear hd hq' hset hz hy hrj hv HQ HR HB
      go_wp2_with (go_at_call 34; refine (HL.out _).mono ?_; rintro e w' ⟨rfl, rfl⟩)
      go_roundw
      case rel => exact ⟨p, j + 1, q', _, by have := HRJ.out; omega, rfl, by omega, rfl, hql, HQ1, HR1, HB1⟩
      case measure => simp [intOf]
    · obtain rfl : r = 0 := by omega
      obtain rfl : v = -1 := by omega
      have hjw : j = wd := by omega
      subst hjw
      have hbq := HBB.out q HQ.out
      have HR1 := HR.out
      rw [putTo_all] at HR1
      have HRA := Lib.hid HR1
      clear HR1 HR HQ hv hrj HBB
      have HR2 := HRA.out
      rw [← HW.out] at HR2
      have HR3 := Lib.hid HR2
      clear HR2 HW HRA
      go_wp2
      go_ret2
      exact ⟨w.heap.size, rfl, Nat.le_refl _, HB.out, HR3.out⟩

set_option maxHeartbeats 1000000 in
theorem l03Put_neg (u : Nat) (wd : Nat) (h0 : 0 < u) (h1 : 1 ≤ wd) (h20 : wd ≤ 20) (hu12 : u ≤ 999999999999) (w : World) :
    Calls Tryd.prog 18 #[.int .i64 (-(u : Int)), .int .i64 wd] w (GivesPut (-(u : Int)) wd (decide (u / 10 ^ wd = 0)) w) := by
  have hmk := run_make_row' (P := Tryd.prog) 22 2 (.int .i64 0) 8 Tryd.underlying22 info_int64 rfl .i64 .i64 wd (by omega) (by omega)
  obtain ⟨b, hb⟩ : ∃ b, decide (u / 10 ^ wd = 0) = b := ⟨_, rfl⟩
  rw [hb]
  have HBB : Hid (∀ q : Nat, u / 10 ^ wd = q → ((q : Int) == 0) = b) := fun q hq => by
    rw [← hb, hq]
    by_cases h0 : q = 0
    · subst h0; rfl
    · rw [decide_eq_false h0]
      simpa using h0
  have HW : Hid (numW (-(u : Int)) wd = (digW u wd).set (wd - 1) (bits .or .i64 ((digW u wd)[wd - 1]?.getD 0) 2)) := by
    have e : (-(u : Int)).natAbs = u := by omega
    have := numW_neg (-(u : Int)) wd (by omega)
    rw [e] at this
    exact this
  have hneg : -(u : Int) < 0 := by omega
  have hu0 : (0 : Int) < (u : Int) := by omega
  have hw0 : (1 : Int) ≤ (wd : Int) := by omega
  clear hb
  go_enter Tryd.func18, Tryd.ntmps18
  go_wp2
  clear hmk
  go_loopw [7, 8] (fun x k wr => ∃ r j q : Nat, ∃ v : Int, r + j = wd ∧ k = .int .i64 v ∧ v + 1 = (r : Int) ∧ x = .int .i64 q ∧ q ≤ 999999999999 ∧ Hid (u / 10 ^ j = q) ∧ Hid (Row wr w.heap.size (putTo u wd j) []) ∧ Hid (Below w.heap.size w wr)) (fun _ k _ => (intOf k + 1).toNat)
  case atStart =>
    refine ⟨wd, 0, u, _, rfl, rfl, by omega, rfl, hu12, ?_, ?_, below_box w _⟩
    · show u / 10 ^ 0 = u
      simp
    · show Row _ _ _ _
      rw [putTo_zero, madeCells_int]
      exact Row.new_at _ _ rfl
  case round =>
    obtain ⟨r, j, q, v, hrj, rfl, hv, rfl, hq, HQ, HR, HB⟩ := hrel
    by_cases hr : 0 < r
    · obtain ⟨p, rfl⟩ : ∃ p, r = p + 1 := ⟨r - 1, by omega⟩
      obtain rfl : v = (p : Int) := by omega
      obtain ⟨d, hd⟩ : ∃ d, q % 10 = d := ⟨_, rfl⟩
      obtain ⟨q', hq'⟩ : ∃ q', q / 10 = q' := ⟨_, rfl⟩
      have e1 : (q : Int).tmod 10 = (d : Int) := by rw [← hd]; rfl
      have e1' : (q : Int) % 10 = (d : Int) := by omega
      have e2 : (q : Int).tdiv 10 = (q' : Int) := by rw [← hq']; rfl
      have e2' : (q : Int) / 10 = (q' : Int) := by omega
      have hq0 : (0 : Int) ≤ (q : Int) := Int.natCast_nonneg _
      have hp0 : (0 : Int) ≤ (p : Int) := Int.natCast_nonneg _
      have hpw : (p : Int) < (wd : Int) := by omega
      have hql : q' ≤ 999999999999 := by omega
      have hl := Lib.hid (putTo_length u wd j (by omega))
      have HQ1 : Hid (u / 10 ^ (j + 1) = q') := by
        show u / 10 ^ (j + 1) = q'
        rw [Nat.pow_succ, ← Nat.div_div_eq_div_mul, HQ.out, hq']
      have hset := putTo_set u wd j (by omega)
      rw [HQ.out, hd, show wd - j - 1 = p by omega] at hset
      have c1 := HR.out.cell (i := p) (by rw [hl.out]; omega)
      have f1 := HR.out.frozen p
      obtain ⟨z, hz⟩ : ∃ z, (putTo u wd j)[p]?.getD 0 = z := ⟨_, rfl⟩
      rw [hz] at c1
      have HR1 : Hid (Row (wr.setCell ⟨w.heap.size, p, none⟩ (.int .i64 (rowBit d))) w.heap.size (putTo u wd (j + 1)) []) := by
        have := HR.out.set (i := p) (by rw [hl.out]; omega) (rowBit d)
        rw [hset] at this
        exact this
      have HB1 : Hid (Below w.heap.size w (wr.setCell ⟨w.heap.size, p, none⟩ (.int .i64 (rowBit d)))) := HB.out.setCell (by simp) _
      have HL := Lib.hid (fun W => l02Bit_any (d : Int) W)
      obtain ⟨y, hy⟩ : ∃ y, rowBit (d : Int) = y := ⟨_, rfl⟩
      rw [hy] at HR1 HB1 HL
      have HRJ := Lib.hid hrj
      clear hd hq' hset hz hy hrj hv HQ HR HB
      go_wp2_with (go_at_call 34; refine (HL.out _).mono ?_; rintro e w' ⟨rfl, rfl⟩)
      go_roundw
      case rel => exact ⟨p, j + 1, q', _, by have := HRJ.out; omega, rfl, by omega, rfl, hql, HQ1, HR1, HB1⟩
      case measure => simp [intOf]
    · obtain rfl : r = 0 := by omega
      obtain rfl : v = -1 := by omega
      have hjw : j = wd := by omega
      subst hjw
      have hbq := HBB.out q HQ.out
      have HR1 := HR.out
      rw [putTo_all] at HR1
      have HRA := Lib.hid HR1
      clear HR1 HR HQ hv hrj HBB
      have hl := Lib.hid (digW_length u j)
      have c1 := HRA.out.cell (i := j - 1) (by rw [hl.out]; omega)
      have f1 := HRA.out.frozen (j - 1)
      obtain ⟨z, hz⟩ : ∃ z, (digW u j)[j - 1]?.getD 0 = z := ⟨_, rfl⟩
      rw [hz] at c1
      have HR2 : Hid (Row (wr.setCell ⟨w.heap.size, j - 1, none⟩ (.int .i64 (bits .or .i64 z 2))) w.heap.size (numW (-(u : Int)) j) []) := by
        have := HRA.out.set (i := j - 1) (by rw [hl.out]; omega) (bits .or .i64 z 2)
        rw [← hz, ← HW.out] at this
        rw [← hz]
        exact this
      have HB2 : Hid (Below w.heap.size w (wr.setCell ⟨w.heap.size, j - 1, none⟩ (.int .i64 (bits .or .i64 z 2)))) := HB.out.setCell (by simp) _
      have r0 : (0 : Int) ≤ (j : Int) - 1 := by omega
      have r1 : (j : Int) - 1 < (j : Int) := by omega
      have r2 : ((j : Int) - 1).toNat = j - 1 := by omega
      clear hz HB HRA HW
      go_wp2
      go_ret2
      exact ⟨w.heap.size, rfl, Nat.le_refl _, HB2.out, HR2.out⟩

theorem l03Put_any (n : Int) (wd : Nat) (h1 : 1 ≤ wd) (h20 : wd ≤ 20) (hn0 : -999999999999 ≤ n) (hn1 : n ≤ 999999999999) (w : World) :
    Calls Tryd.prog 18 #[.int .i64 n, .int .i64 wd] w (GivesPut n wd (decide (n.natAbs / 10 ^ wd = 0)) w) := by
  by_cases hneg : n < 0
  · obtain ⟨u, rfl⟩ : ∃ u : Nat, n = -(u : Int) := ⟨n.natAbs, by omega⟩
    have e : (-(u : Int)).natAbs = u := by omega
    rw [e]
    exact l03Put_neg u wd (by omega) h1 h20 (by omega) w
  · obtain ⟨u, rfl⟩ : ∃ u : Nat, n = u := ⟨n.natAbs, by omega⟩
    have e : ((u : Int)).natAbs = u := by omega
    rw [e]
    exact l03Put_pos u wd h1 h20 (by omega) w
end Go.Proofs.YtjfogadcedgndabDoor
