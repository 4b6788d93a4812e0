/- spec.ValidBoard and impl.ValidBoard answer whether a board is valid, for at most 1048576 wires and any numbers: contracts; and those of what they call. -/
import Derived.Test.YtpklmhffgbgakaaBoard
import Derived.Test.YtpklmhffgbgakaaBrdMath
import Derived.Test.YtpklmhffgbgakaaValid
import Derived.Deep.RegionHeld3
import Derived.Deep.QuietTactic
import Derived.BigQuiet
namespace Go.Proofs.Ytpklmhffgbgakaa
open Go.ChangeShapes Go.WideShapes Go.ChangeAt Go.RowKit

/-- whether a board is valid -/
def boardB (e n j : Int) (P : List (Int × Int)) : Bool := inB e 1 20 && (inB n 1 20 && (inB j 0 30 && (P.all (wireB (e + n + j)) && (decide (e + n + j ≤ 30) && decide (P.length ≤ 40)))))
/-- the number of hubs as the program adds it -/
def hubV (e n j : Int) : Int := wrap64 (wrap64 (e + n) + j)
theorem hubV_fit {e n j : Int} (h1 : inB e 1 20 = true) (h2 : inB n 1 20 = true) (h3 : inB j 0 30 = true) : hubV e n j = e + n + j ∧ (1 ≤ e ∧ e ≤ 20) ∧ (1 ≤ n ∧ n ≤ 20) ∧ (0 ≤ j ∧ j ≤ 30) := by
  simp only [inB, Bool.and_eq_true, decide_eq_true_eq] at h1 h2 h3
  have a1 : wrap64 (e + n) = e + n := IntWalk.wrap64_in _ (by omega)
  have a2 : wrap64 (e + n + j) = e + n + j := IntWalk.wrap64_in _ (by omega)
  exact ⟨by rw [hubV, a1, a2], h1, h2, h3⟩

theorem l12Hubs_any (e n j : Int) (p o : Nat) (w : World) (h0 : w.cell? ⟨p, o, none⟩ = some (.int .i64 e)) (h1 : w.cell? ⟨p, o + 1, none⟩ = some (.int .i64 n)) (h2 : w.cell? ⟨p, o + 2, none⟩ = some (.int .i64 j)) :
    Calls Try.prog 65 #[.pointer (some ⟨p, o, none⟩)] w fun r w' => r = .returned (.int .i64 (hubV e n j)) ∧ Below w.heap.size w w' := by
  have d0 : w.drew.cell? ⟨p, o, none⟩ = some (.int .i64 e) := h0
  have d1 : w.drew.cell? ⟨p, o + 1, none⟩ = some (.int .i64 n) := h1
  have d2 : w.drew.cell? ⟨p, o + 2, none⟩ = some (.int .i64 j) := h2
  go_enter Try.func65, Try.ntmps65
  go_wp2
  go_region
  all_goals
    go_wp2
    go_ret
    exact ⟨rfl, below_drewN (Below.refl _ _) 1⟩

theorem l12Wire_any (a b H : Int) (w : World) :
    Calls Try.prog 64 #[.agg #[.int .i64 a, .int .i64 b], .int .i64 H] w fun r w' => r = .returned (.bool (wireB H (a, b))) ∧ Below w.heap.size w w' := by
  obtain ⟨v, hv⟩ : ∃ v, wireB H (a, b) = v := ⟨_, rfl⟩
  rw [hv]
  by_cases h1 : 0 ≤ a
  · by_cases h2 : a < b
    · by_cases h3 : b < H
      · obtain rfl : v = true := by rw [← hv, wireB_iff]; exact ⟨h1, h2, h3⟩
        have g1 : a ≥ 0 := h1
        clear hv
        go_enter Try.func64, Try.ntmps64
        go_wp2
        go_ret
        exact ⟨rfl, below_box w _⟩
      · obtain rfl : v = false := by rw [← hv, Bool.eq_false_iff]; intro k; rw [wireB_iff] at k; exact h3 k.2.2
        have g1 : a ≥ 0 := h1
        clear hv
        go_enter Try.func64, Try.ntmps64
        go_wp2
        go_ret
        exact ⟨rfl, below_box w _⟩
    · obtain rfl : v = false := by rw [← hv, Bool.eq_false_iff]; intro k; rw [wireB_iff] at k; exact h2 k.2.1
      have g1 : a ≥ 0 := h1
      clear hv
      go_enter Try.func64, Try.ntmps64
      go_wp2
      go_ret
      exact ⟨rfl, below_box w _⟩
  · obtain rfl : v = false := by rw [← hv, Bool.eq_false_iff]; intro k; rw [wireB_iff] at k; exact h1 k.1
    have g1 : ¬ a ≥ 0 := h1
    clear hv
    go_enter Try.func64, Try.ntmps64
    go_wp2
    go_ret
    exact ⟨rfl, below_box w _⟩

theorem all_take {P : List (Int × Int)} {H : Int} {k : Nat} {d : Int × Int} (h : P[k]? = some d) (ha : (P.take k).all (wireB H) = true) (hd : wireB H d = true) : (P.take (k + 1)).all (wireB H) = true := by
  obtain ⟨hk, e⟩ := List.getElem?_eq_some_iff.1 h
  rw [List.take_succ_eq_append_getElem hk, e, List.all_append, ha]
  simp [hd]
theorem all_not {P : List (Int × Int)} {H : Int} {k : Nat} {d : Int × Int} (h : P[k]? = some d) (hd : wireB H d = false) : P.all (wireB H) = false := by
  rw [List.all_eq_false]
  exact ⟨d, List.mem_of_getElem? h, by rw [hd]; simp⟩

set_option maxHeartbeats 2000000 in
theorem l12Ok_any (e n j : Int) (A : Option Addr) (c : Nat) (P : List (Int × Int)) (B p o : Nat) (w : World) (h0 : w.cell? ⟨p, o, none⟩ = some (.int .i64 e)) (h1 : w.cell? ⟨p, o + 1, none⟩ = some (.int .i64 n)) (h2 : w.cell? ⟨p, o + 2, none⟩ = some (.int .i64 j)) (h3 : w.cell? ⟨p, o + 3, none⟩ = some (.slice A P.length c))
    (h : Wires w B A P) (hB : B ≤ w.heap.size) (hn : P.length ≤ 1048576) :
    Calls Try.prog 57 #[.pointer (some ⟨p, o, none⟩)] w fun r w' => r = .returned (.bool (boardB e n j P)) ∧ Below w.heap.size w w' := by
  have hi1 := fun W => in_any e 1 20 W
  have hi2 := fun W => in_any n 1 20 W
  have hi3 := fun W => in_any j 0 30 W
  have hh := fun (W : World) (hW : Below w.heap.size w W) => l12Hubs_any e n j p o W (cell_kept h0 hW) (cell_kept h1 hW) (cell_kept h2 hW)
  unfold boardB
  cases e1 : inB e 1 20
  · simp only [e1] at hi1
    rw [Bool.false_and]
    have HI1 := Lib.hid hi1
    clear hi1 hi2 hi3 hh e1 h hn
    go_enter Try.func57, Try.ntmps57
    go_wp2_with (go_at_call 70; refine (HI1.out _).mono ?_; rintro r w' ⟨rfl, rfl⟩)
    go_ret
    exact ⟨rfl, Below.refl _ _⟩
  cases e2 : inB n 1 20
  · simp only [e1] at hi1
    simp only [e2] at hi2
    rw [Bool.false_and, Bool.and_false]
    have HI1 := Lib.hid hi1
    have HI2 := Lib.hid hi2
    clear hi1 hi2 hi3 hh e1 e2 h hn
    go_enter Try.func57, Try.ntmps57
    go_wp2_with (go_at_call 70; first | (with_reducible refine (HI1.out _).mono ?_; rintro r w' ⟨rfl, rfl⟩) | (with_reducible refine (HI2.out _).mono ?_; rintro r w' ⟨rfl, rfl⟩))
    go_ret
    exact ⟨rfl, Below.refl _ _⟩
  cases e3 : inB j 0 30
  · simp only [e1] at hi1
    simp only [e2] at hi2
    simp only [e3] at hi3
    rw [Bool.false_and, Bool.and_false, Bool.and_false]
    have HI1 := Lib.hid hi1
    have HI2 := Lib.hid hi2
    have HI3 := Lib.hid hi3
    clear hi1 hi2 hi3 hh e1 e2 e3 h hn
    go_enter Try.func57, Try.ntmps57
    go_wp2_with (go_at_call 70; first | (with_reducible refine (HI1.out _).mono ?_; rintro r w' ⟨rfl, rfl⟩) | (with_reducible refine (HI2.out _).mono ?_; rintro r w' ⟨rfl, rfl⟩) | (with_reducible refine (HI3.out _).mono ?_; rintro r w' ⟨rfl, rfl⟩))
    go_ret
    exact ⟨rfl, Below.refl _ _⟩
  obtain ⟨hv, he, hn', hj⟩ := hubV_fit e1 e2 e3
  rw [hv] at hh
  simp only [e1] at hi1
  simp only [e2] at hi2
  simp only [e3] at hi3
  rw [Bool.true_and, Bool.true_and, Bool.true_and]
  obtain ⟨m, hN⟩ : ∃ m, P.length = m := ⟨_, rfl⟩
  obtain ⟨X, hX⟩ : ∃ X, e + n + j = X := ⟨_, rfl⟩
  obtain ⟨v, hv2⟩ : ∃ v, (P.all (wireB X) && (decide (X ≤ 30) && decide (m ≤ 40))) = v := ⟨_, rfl⟩
  rw [hN] at hn h3
  rw [hX] at hh
  rw [hN, hX, hv2]
  have H := Lib.hid h
  have HN := Lib.hid hN
  have HV := Lib.hid hv2
  have HI1 := Lib.hid hi1
  have HI2 := Lib.hid hi2
  have HI3 := Lib.hid hi3
  have HH := Lib.hid hh
  have HW := Lib.hid l12Wire_any
  clear h hN hv2 hi1 hi2 hi3 hh e1 e2 e3 hv hX
  go_enter Try.func57, Try.ntmps57
  go_wp2_with (go_at_call 70; first | (with_reducible refine (HI1.out _).mono ?_; rintro r w' ⟨rfl, rfl⟩) | (with_reducible refine (HI2.out _).mono ?_; rintro r w' ⟨rfl, rfl⟩) | (with_reducible refine (HI3.out _).mono ?_; rintro r w' ⟨rfl, rfl⟩))
  go_loopw [3] (fun i wr => ∃ k : Nat, k ≤ m ∧ i = .int .i64 k ∧ Hid (Below w.heap.size w wr) ∧ Hid ((P.take k).all (wireB X) = true)) (fun i _ => m - (intOf i).toNat)
  case atStart => exact ⟨0, Nat.zero_le _, rfl, Below.refl _ _, by show _ = _; simp⟩
  case round =>
    obtain ⟨k, hk, rfl, HB, HK⟩ := hrel
    have x0 := cell_kept h0 HB.out
    have x1 := cell_kept h1 HB.out
    have x2 := cell_kept h2 HB.out
    have x3 := cell_kept h3 HB.out
    have k0 : (0 : Int) ≤ (k : Int) := Int.natCast_nonneg _
    by_cases hlt : k < m
    · obtain ⟨d, hd⟩ : ∃ d, P[k]? = some d := ⟨P[k]'(by rw [HN.out]; exact hlt), List.getElem?_eq_getElem _⟩
      obtain ⟨b, off, rfl, hb, hcell⟩ := (H.out.below (HB.out.mono hB)) (by rw [HN.out]; omega)
      obtain ⟨c1, c2⟩ := hcell k d hd
      have k1 : (k : Int) < (m : Int) := by omega
      obtain ⟨u, hu⟩ : ∃ u, wireB X d = u := ⟨_, rfl⟩
      have hw1 := fun W => HW.out d.1 d.2 X W
      have hu' : wireB X (d.1, d.2) = u := hu
      simp only [hu'] at hw1
      have HW1 := Lib.hid hw1
      have HD := Lib.hid hd
      have HU := Lib.hid hu
      obtain ⟨d1, d2⟩ := d
      simp only at c1 c2 HW1
      clear hcell hd hu hu' hw1 hb HW
      go_wp2
      have HC : Hid (Below w.heap.size w wr.drew) := HB.out.drew
      cases u
      all_goals
        go_region_held3 (fun W => W.cell? ⟨p, o + 3, none⟩ = some (.slice (some ⟨b, off, none⟩) m c) ∧ W.cell? ⟨b, off + k * 2, none⟩ = some (.int .i64 d1) ∧ W.cell? ⟨b, off + k * 2 + 1, none⟩ = some (.int .i64 d2))
          (first | exact ⟨x3, c1, c2⟩ | exact ⟨y3, f1, f2⟩ | exact ⟨z3, g1, g2⟩)
          (first
            | (go_at_call 65
               refine (HH.out _ HC.out).mono ?_
               rintro r wz ⟨rfl, hb⟩
               have y3 := cell_kept (w := wr.drew) x3 hb
               have f1 := cell_kept (w := wr.drew) c1 hb
               have f2 := cell_kept (w := wr.drew) c2 hb
               have HC := Lib.hid (below_step HC.out hb)
               clear hb)
            | (go_at_call 64
               refine (HW1.out _).mono ?_
               rintro r wz ⟨rfl, hb⟩
               have z3 := cell_kept y3 hb
               have g1 := cell_kept f1 hb
               have g2 := cell_kept f2 hb
               have HC := Lib.hid (below_step HC.out hb)
               clear hb))
      · obtain rfl : v = false := by rw [← HV.out, all_not HD.out HU.out, Bool.false_and]
        go_wp2
        go_ret
        exact ⟨rfl, HC.out⟩
      · have HK1 := Lib.hid (all_take HD.out HK.out HU.out)
        go_wp2
        go_roundw
        case rel => exact ⟨k + 1, by omega, by go_num, HC, HK1⟩
        case measure => simp [intOf]; omega
    · have k1 : ¬ (k : Int) < (m : Int) := by omega
      have hk' := HK.out
      have hv' := HV.out
      rw [List.take_of_length_le (by rw [HN.out]; omega)] at hk'
      rw [hk', Bool.true_and] at hv'
      have HH1 := Lib.hid (HH.out _ HB.out)
      clear hk'
      by_cases g1 : X ≤ 30
      · by_cases g2 : m ≤ 40
        · obtain rfl : v = true := by rw [← hv']; simp [g1, g2]
          have g3 : (m : Int) ≤ 40 := by omega
          clear hv'
          go_wp2_with (go_at_call 65; refine HH1.out.mono ?_; rintro r wz ⟨rfl, hb⟩; have y3 := cell_kept x3 hb; have HC := Lib.hid (below_step HB.out hb); clear hb)
          go_ret
          exact ⟨rfl, HC.out⟩
        · obtain rfl : v = false := by rw [← hv']; simp [g2]
          have g3 : ¬ (m : Int) ≤ 40 := by omega
          clear hv'
          go_wp2_with (go_at_call 65; refine HH1.out.mono ?_; rintro r wz ⟨rfl, hb⟩; have y3 := cell_kept x3 hb; have HC := Lib.hid (below_step HB.out hb); clear hb)
          go_ret
          exact ⟨congrArg (fun x => Ending.returned (Value.bool x)) (show decide ((m : Int) ≤ 40) = false from decide_eq_false (by omega)), HC.out⟩
      · obtain rfl : v = false := by rw [← hv']; simp [g1]
        clear hv'
        go_wp2_with (go_at_call 65; refine HH1.out.mono ?_; rintro r wz ⟨rfl, hb⟩; have y3 := cell_kept x3 hb; have HC := Lib.hid (below_step HB.out hb); clear hb)
        go_ret
        exact ⟨rfl, HC.out⟩

theorem specValidBoard_any (e n j : Int) (A : Option Addr) (c : Nat) (P : List (Int × Int)) (B : Nat) (w : World) (h : Wires w B A P) (hB : B ≤ w.heap.size) (hn : P.length ≤ 1048576) :
    Calls Try.prog 16 #[.agg #[.int .i64 e, .int .i64 n, .int .i64 j, .slice A P.length c]] w fun r w' => r = .returned (.bool (boardB e n j P)) ∧ Below w.heap.size w w' := by
  have hbx := below_box w (.cells #[.int .i64 e, .int .i64 n, .int .i64 j, .slice A P.length c] 29)
  obtain ⟨c0, c1, c2, c3⟩ := board_cells w e n j (.slice A P.length c) 29
  have ho := l12Ok_any e n j A c P B w.heap.size 0 _ c0 c1 c2 c3 (h.below (hbx.mono hB)) (Nat.le_trans hB hbx.size) hn
  obtain ⟨m, hN⟩ : ∃ m, P.length = m := ⟨_, rfl⟩
  obtain ⟨v, hv⟩ : ∃ v, boardB e n j P = v := ⟨_, rfl⟩
  rw [hN] at ho hbx ⊢
  rw [hv] at ho ⊢
  have HO := Lib.hid ho
  have HX := Lib.hid hbx
  clear ho hbx c0 c1 c2 c3 h hN hv hn
  go_enter Try.func16, Try.ntmps16
  go_wp2_with (go_at_call 57; refine HO.out.mono ?_; rintro r w1 ⟨rfl, hb⟩; have HB := Lib.hid (below_step HX.out hb); clear hb)
  go_ret
  exact ⟨rfl, HB.out⟩

theorem hubs_any (e n j : Int) (v : Value) (w : World) :
    Calls Try.prog 75 #[.agg #[.int .i64 e, .int .i64 n, .int .i64 j, v]] w fun r w' => r = .returned (.int .i64 (hubV e n j)) ∧ Below w.heap.size w w' := by
  go_enter Try.func75, Try.ntmps75
  go_wp2
  go_ret
  exact ⟨rfl, below_box w _⟩

/-- the numbers of a valid board -/
def sizedB (e n j : Int) : Bool := inB e 1 20 && (inB n 1 20 && (inB j 0 30 && decide (e + n + j ≤ 30)))
theorem isSized_any (e n j : Int) (v : Value) (w : World) :
    Calls Try.prog 59 #[.agg #[.int .i64 e, .int .i64 n, .int .i64 j, v]] w fun r w' => r = .returned (.bool (sizedB e n j)) ∧ Below w.heap.size w w' := by
  have hi1 := fun W => isWidth_any e W
  have hi2 := fun W => isWidth_any n W
  have hh := fun W => hubs_any e n j v W
  have HB := Lib.hid (below_box w (.cells #[.int .i64 e, .int .i64 n, .int .i64 j, v] 29))
  unfold sizedB
  cases e1 : inB e 1 20
  · simp only [e1] at hi1
    rw [Bool.false_and]
    have HI1 := Lib.hid hi1
    clear hi1 hi2 hh e1
    go_enter Try.func59, Try.ntmps59
    go_wp2_with (go_at_call 96; refine (HI1.out _).mono ?_; rintro r w' ⟨rfl, rfl⟩)
    go_ret
    exact ⟨rfl, HB.out⟩
  cases e2 : inB n 1 20
  · simp only [e1] at hi1
    simp only [e2] at hi2
    rw [Bool.false_and, Bool.and_false]
    have HI1 := Lib.hid hi1
    have HI2 := Lib.hid hi2
    clear hi1 hi2 hh e1 e2
    go_enter Try.func59, Try.ntmps59
    go_wp2_with (go_at_call 96; first | (with_reducible refine (HI1.out _).mono ?_; rintro r w' ⟨rfl, rfl⟩) | (with_reducible refine (HI2.out _).mono ?_; rintro r w' ⟨rfl, rfl⟩))
    go_ret
    exact ⟨rfl, HB.out⟩
  rw [Bool.true_and, Bool.true_and]
  simp only [e1] at hi1
  simp only [e2] at hi2
  by_cases j0 : 0 ≤ j
  · by_cases j1 : j ≤ 30
    · have e3 : inB j 0 30 = true := by simp [inB, j0, j1]
      obtain ⟨hv, _⟩ := hubV_fit e1 e2 e3
      rw [hv] at hh
      rw [e3, Bool.true_and]
      obtain ⟨X, hX⟩ : ∃ X, e + n + j = X := ⟨_, rfl⟩
      rw [hX] at hh ⊢
      have HI1 := Lib.hid hi1
      have HI2 := Lib.hid hi2
      have HH := Lib.hid hh
      clear hi1 hi2 hh e1 e2 e3 hv hX
      by_cases g1 : X ≤ 30
      all_goals
        simp only [g1, decide_true, decide_false]
        go_enter Try.func59, Try.ntmps59
        go_wp2_with (first | (go_at_call 96; first | (with_reducible refine (HI1.out _).mono ?_; rintro r w' ⟨rfl, rfl⟩) | (with_reducible refine (HI2.out _).mono ?_; rintro r w' ⟨rfl, rfl⟩)) | (go_at_call 75; refine (HH.out _).mono ?_; rintro r w' ⟨rfl, hb⟩; have HB1 := Lib.hid (below_step HB.out hb); clear hb))
        go_ret
        first | exact ⟨rfl, HB1.out⟩ | exact ⟨congrArg (fun x => Ending.returned (Value.bool x)) (show decide (X ≤ 30) = false from decide_eq_false (by omega)), HB1.out⟩
    · have e3 : inB j 0 30 = false := by simp [inB, j1]
      rw [e3, Bool.false_and]
      have HI1 := Lib.hid hi1
      have HI2 := Lib.hid hi2
      clear hi1 hi2 hh e1 e2 e3
      go_enter Try.func59, Try.ntmps59
      go_wp2_with (go_at_call 96; first | (with_reducible refine (HI1.out _).mono ?_; rintro r w' ⟨rfl, rfl⟩) | (with_reducible refine (HI2.out _).mono ?_; rintro r w' ⟨rfl, rfl⟩))
      go_ret
      exact ⟨rfl, HB.out⟩
  · have e3 : inB j 0 30 = false := by simp [inB, j0]
    rw [e3, Bool.false_and]
    have HI1 := Lib.hid hi1
    have HI2 := Lib.hid hi2
    clear hi1 hi2 hh e1 e2 e3
    go_enter Try.func59, Try.ntmps59
    go_wp2_with (go_at_call 96; first | (with_reducible refine (HI1.out _).mono ?_; rintro r w' ⟨rfl, rfl⟩) | (with_reducible refine (HI2.out _).mono ?_; rintro r w' ⟨rfl, rfl⟩))
    go_ret
    exact ⟨rfl, HB.out⟩

/-- the wires of a board whose numbers fit -/
theorem isLoose_any (e n j : Int) (v : Value) (a b : Int) (w : World) :
    Calls Try.prog 61 #[.agg #[.int .i64 e, .int .i64 n, .int .i64 j, v], .agg #[.int .i64 a, .int .i64 b]] w fun r w' => r = .returned (.bool (!wireB (hubV e n j) (a, b))) ∧ Below w.heap.size w w' := by
  have hh := fun W => hubs_any e n j v W
  obtain ⟨H, hH⟩ : ∃ H, hubV e n j = H := ⟨_, rfl⟩
  rw [hH] at hh ⊢
  obtain ⟨u, hu⟩ : ∃ u, (!wireB H (a, b)) = u := ⟨_, rfl⟩
  rw [hu]
  have HH := Lib.hid hh
  have HB := Lib.hid ((below_box w (.cells #[.int .i64 e, .int .i64 n, .int .i64 j, v] 29)).alloc (by simp) (.cells #[.int .i64 a, .int .i64 b] 38))
  clear hh hH
  by_cases h1 : a < 0
  · obtain rfl : u = true := by rw [← hu, Bool.not_eq_true', Bool.eq_false_iff]; intro k; rw [wireB_iff] at k; have := k.1; simp only at this; omega
    clear hu
    go_enter Try.func61, Try.ntmps61
    go_wp2
    go_quiet (fail)
    go_wp2
    go_ret
    exact ⟨rfl, below_drewN HB.out _⟩
  by_cases h2 : a ≥ b
  · obtain rfl : u = true := by rw [← hu, Bool.not_eq_true', Bool.eq_false_iff]; intro k; rw [wireB_iff] at k; have := k.2.1; simp only at this; omega
    clear hu
    go_enter Try.func61, Try.ntmps61
    go_wp2
    go_quiet (fail)
    go_wp2
    go_ret
    exact ⟨rfl, below_drewN HB.out _⟩
  have eu : u = decide (b ≥ H) := by
    rw [← hu]
    by_cases h3 : b ≥ H
    · rw [decide_eq_true h3, Bool.not_eq_true', Bool.eq_false_iff]; intro k; rw [wireB_iff] at k; have := k.2.2; simp only at this; omega
    · rw [decide_eq_false h3, Bool.not_eq_false', wireB_iff]; exact ⟨by simp only; omega, by simp only; omega, by simp only; omega⟩
  have d1 : decide (a < 0) = false := decide_eq_false h1
  have d2 : decide (a ≥ b) = false := decide_eq_false h2
  rw [eu]
  clear hu eu
  obtain ⟨c0, c1, c2, c3⟩ := board_cells w e n j v 29
  obtain ⟨W1, hW1⟩ : ∃ W1, (w.alloc (.cells #[.int .i64 e, .int .i64 n, .int .i64 j, v] 29)).alloc (.cells #[.int .i64 a, .int .i64 b] 38) = W1 := ⟨_, rfl⟩
  have hb1 : Below (w.alloc (.cells #[.int .i64 e, .int .i64 n, .int .i64 j, v] 29)).heap.size (w.alloc (.cells #[.int .i64 e, .int .i64 n, .int .i64 j, v] 29)) W1 := by rw [← hW1]; exact below_box _ _
  have b0 := cell_kept c0 hb1
  have b1 := cell_kept c1 hb1
  have b2 := cell_kept c2 hb1
  have b3 := cell_kept c3 hb1
  have x0 : W1.cell? ⟨w.heap.size + 1, 0, none⟩ = some (.int .i64 a) := by rw [← hW1]; simp [go_sem]
  have x1 : W1.cell? ⟨w.heap.size + 1, 1, none⟩ = some (.int .i64 b) := by rw [← hW1]; simp [go_sem]
  rw [hW1] at HB
  have HC : Hid (Below w.heap.size w W1.drew) := HB.out.drew
  clear hb1 c0 c1 c2 c3
  go_enter Try.func61, Try.ntmps61
  go_wp2
  go_region_held3 (fun W => W.cell? ⟨w.heap.size, 0, none⟩ = some (.int .i64 e) ∧ W.cell? ⟨w.heap.size, 1, none⟩ = some (.int .i64 n) ∧ W.cell? ⟨w.heap.size, 2, none⟩ = some (.int .i64 j) ∧ W.cell? ⟨w.heap.size, 3, none⟩ = some v ∧ W.cell? ⟨w.heap.size + 1, 0, none⟩ = some (.int .i64 a) ∧ W.cell? ⟨w.heap.size + 1, 1, none⟩ = some (.int .i64 b))
    (first | exact ⟨b0, b1, b2, b3, x0, x1⟩ | exact ⟨f0, f1, f2, f3, y0, y1⟩)
    (first
      | (go_at_call 75
         refine (HH.out _).mono ?_
         rintro r wz ⟨rfl, hb⟩
         have f0 := cell_kept (w := W1.drew) b0 hb
         have f1 := cell_kept (w := W1.drew) b1 hb
         have f2 := cell_kept (w := W1.drew) b2 hb
         have f3 := cell_kept (w := W1.drew) b3 hb
         have y0 := cell_kept (w := W1.drew) x0 hb
         have y1 := cell_kept (w := W1.drew) x1 hb
         have HC := Lib.hid (below_step HC.out hb)
         clear hb))
  all_goals
    go_wp2
    go_ret
    exact ⟨rfl, HC.out⟩

theorem indexLoose_any (e n j : Int) (v : Value) (X : Int) (hX : hubV e n j = X) (A : Option Addr) (c : Nat) (P : List (Int × Int)) (B : Nat) (w : World) (h : Wires w B A P) (hB : B ≤ w.heap.size) (hn : P.length ≤ 1048576) :
    Calls Try.prog 97 #[.slice A P.length c, .func (.func 61) #[.agg #[.int .i64 e, .int .i64 n, .int .i64 j, v]] #[]] w fun r w' =>
      (∃ i : Int, r = .returned (.int .i64 i) ∧ decide (0 ≤ i) = !P.all (wireB X)) ∧ Below w.heap.size w w' := by
  have hl := fun a b W => isLoose_any e n j v a b W
  rw [hX] at hl
  obtain ⟨m, hN⟩ : ∃ m, P.length = m := ⟨_, rfl⟩
  rw [hN] at hn ⊢
  have H := Lib.hid h
  have HN := Lib.hid hN
  have HL := Lib.hid hl
  clear h hN hl hX
  go_enter Try.func97, Try.ntmps97
  go_wp2
  go_loopw [8] (fun i wr => ∃ k : Nat, k ≤ m ∧ i = .int .i64 k ∧ Hid (Below w.heap.size w wr) ∧ Hid ((P.take k).all (wireB X) = true)) (fun i _ => m - (intOf i).toNat)
  case atStart => exact ⟨0, Nat.zero_le _, rfl, Below.refl _ _, by show _ = _; simp⟩
  case round =>
    obtain ⟨k, hk, rfl, HB, HK⟩ := hrel
    have k0 : (0 : Int) ≤ (k : Int) := Int.natCast_nonneg _
    by_cases hlt : k < m
    · obtain ⟨d, hd⟩ : ∃ d, P[k]? = some d := ⟨P[k]'(by rw [HN.out]; exact hlt), List.getElem?_eq_getElem _⟩
      obtain ⟨b, off, rfl, hb, hcell⟩ := (H.out.below (HB.out.mono hB)) (by rw [HN.out]; omega)
      obtain ⟨c1, c2⟩ := hcell k d hd
      have k1 : (k : Int) < (m : Int) := by omega
      obtain ⟨u, hu⟩ : ∃ u, wireB X d = u := ⟨_, rfl⟩
      have hl1 := fun W => HL.out d.1 d.2 W
      have hu' : wireB X (d.1, d.2) = u := hu
      simp only [hu'] at hl1
      have HL1 := Lib.hid hl1
      have HD := Lib.hid hd
      have HU := Lib.hid hu
      obtain ⟨d1, d2⟩ := d
      simp only at c1 c2 HL1
      clear hcell hd hu hu' hl1 hb HL
      cases u
      · simp only [Bool.not_false] at HL1
        have HM := Lib.hid (all_not HD.out HU.out)
        go_wp2_with (go_at_call 61; refine (HL1.out _).mono ?_; rintro r w1 ⟨rfl, hb⟩; have HC := Lib.hid (below_step HB.out hb); clear hb)
        go_ret
        exact ⟨⟨_, rfl, by rw [HM.out]; simp⟩, HC.out⟩
      · simp only [Bool.not_true] at HL1
        have HK1 := Lib.hid (all_take HD.out HK.out HU.out)
        go_wp2_with (go_at_call 61; refine (HL1.out _).mono ?_; rintro r w1 ⟨rfl, hb⟩; have HC := Lib.hid (below_step HB.out hb); clear hb)
        go_roundw
        case rel => exact ⟨k + 1, by omega, by go_num, HC, HK1⟩
        case measure => simp [intOf]; omega
    · have k1 : ¬ (k : Int) < (m : Int) := by omega
      have HM : Hid (P.all (wireB X) = true) := by
        have := HK.out
        rwa [List.take_of_length_le (by rw [HN.out]; omega)] at this
      go_wp2
      go_ret
      exact ⟨⟨_, rfl, by rw [HM.out]; simp⟩, HB.out⟩

theorem containsLoose_any (e n j : Int) (v : Value) (X : Int) (hX : hubV e n j = X) (A : Option Addr) (c : Nat) (P : List (Int × Int)) (B : Nat) (w : World) (h : Wires w B A P) (hB : B ≤ w.heap.size) (hn : P.length ≤ 1048576) :
    Calls Try.prog 60 #[.slice A P.length c, .func (.func 61) #[.agg #[.int .i64 e, .int .i64 n, .int .i64 j, v]] #[]] w fun r w' =>
      r = .returned (.bool (!P.all (wireB X))) ∧ Below w.heap.size w w' := by
  have HI := Lib.hid (indexLoose_any e n j v X hX A c P B w h hB hn)
  obtain ⟨m, hN⟩ : ∃ m, P.length = m := ⟨_, rfl⟩
  obtain ⟨r0, hr0⟩ : ∃ r, (!P.all (wireB X)) = r := ⟨_, rfl⟩
  rw [hN, hr0] at HI ⊢
  clear h hN hn hr0 hX
  go_enter Try.func60, Try.ntmps60
  go_wp2_with fail
  refine HI.out.mono ?_
  rintro e w1 ⟨⟨r, rfl, hr⟩, hb⟩
  have HR := Lib.hid hr
  have HB := Lib.hid hb
  clear hr hb
  go_wp2
  go_ret
  exact ⟨by first | exact congrArg (fun x => Ending.returned (Value.bool x)) HR.out | (congr 2; rw [← HR.out]; simp), HB.out⟩

set_option maxHeartbeats 2000000 in
theorem implValidBoard_any (e n j : Int) (A : Option Addr) (c : Nat) (P : List (Int × Int)) (B : Nat) (w : World) (h : Wires w B A P) (hB : B ≤ w.heap.size) (hn : P.length ≤ 1048576) :
    Calls Try.prog 18 #[.agg #[.int .i64 e, .int .i64 n, .int .i64 j, .slice A P.length c]] w fun r w' => r = .returned (.bool (boardB e n j P)) ∧ Below w.heap.size w w' := by
  have hz := fun W => isSized_any e n j (.slice A P.length c) W
  have hc := fun (X : Int) (hX : hubV e n j = X) (W : World) (hW : Below w.heap.size w W) => containsLoose_any e n j (.slice A P.length c) X hX A c P B W (h.below (hW.mono hB)) (Nat.le_trans hB hW.size) hn
  have HB := Lib.hid (below_box w (.cells #[.int .i64 e, .int .i64 n, .int .i64 j, .slice A P.length c] 29))
  obtain ⟨c0, c1, c2, c3⟩ := board_cells w e n j (.slice A P.length c) 29
  have hbe : boardB e n j P = (sizedB e n j && (decide (P.length ≤ 40) && P.all (wireB (e + n + j)))) := by
    unfold boardB sizedB
    cases inB e 1 20 <;> cases inB n 1 20 <;> cases inB j 0 30 <;> simp
    cases P.all (wireB (e + n + j)) <;> cases decide (P.length ≤ 40) <;> simp
  rw [hbe]
  obtain ⟨s, hs⟩ : ∃ s, sizedB e n j = s := ⟨_, rfl⟩
  rw [hs] at hz ⊢
  cases s
  · rw [Bool.false_and]
    obtain ⟨m, hN⟩ : ∃ m, P.length = m := ⟨_, rfl⟩
    simp only [hN] at hz HB c0 c1 c2 c3 ⊢
    have HZ := Lib.hid hz
    clear hz hc h hN hn hbe hs
    go_enter Try.func18, Try.ntmps18
    go_wp2_with (go_at_call 59; refine (HZ.out _).mono ?_; rintro r w1 ⟨rfl, hb⟩; have HB1 := Lib.hid (below_step HB.out hb); clear hb)
    go_ret
    exact ⟨rfl, HB1.out⟩
  · have hfit : hubV e n j = e + n + j := by
      simp only [sizedB, Bool.and_eq_true] at hs
      exact (hubV_fit hs.1 hs.2.1 hs.2.2.1).1
    have hc1 := hc _ hfit
    rw [Bool.true_and]
    obtain ⟨m, hN⟩ : ∃ m, P.length = m := ⟨_, rfl⟩
    obtain ⟨t, ht⟩ : ∃ t, P.all (wireB (e + n + j)) = t := ⟨_, rfl⟩
    simp only [hN, ht] at hz HB c0 c1 c2 c3 hc1 hn ⊢
    have HZ := Lib.hid hz
    have HC := Lib.hid hc1
    clear hz hc hc1 h hN hbe hs ht hfit
    by_cases h40 : m ≤ 40
    · have g1 : (m : Int) ≤ 40 := by omega
      simp only [h40, decide_true, Bool.true_and]
      cases t
      all_goals
        simp only [Bool.not_false, Bool.not_true] at HC
        go_enter Try.func18, Try.ntmps18
        go_wp2_with fail
        refine (HZ.out _).mono ?_
        rintro r w1 ⟨rfl, hb⟩
        have HB1 := Lib.hid (below_step HB.out hb)
        have x0 := cell_kept c0 hb
        have x1 := cell_kept c1 hb
        have x2 := cell_kept c2 hb
        have x3 := cell_kept c3 hb
        clear hb
        go_wp2_with (go_at_call 60; refine (HC.out _ HB1.out).mono ?_; rintro r w1 ⟨rfl, hb⟩; have HB2 := Lib.hid (below_step HB1.out hb); clear hb)
        go_ret
        exact ⟨rfl, HB2.out⟩
    · have g1 : ¬ (m : Int) ≤ 40 := by omega
      have g2 : decide ((m : Int) ≤ 40) = false := decide_eq_false g1
      simp only [h40, decide_false, Bool.false_and]
      go_enter Try.func18, Try.ntmps18
      go_wp2_with fail
      refine (HZ.out _).mono ?_
      rintro r w1 ⟨rfl, hb⟩
      have HB1 := Lib.hid (below_step HB.out hb)
      have x0 := cell_kept c0 hb
      have x1 := cell_kept c1 hb
      have x2 := cell_kept c2 hb
      have x3 := cell_kept c3 hb
      clear hb
      go_wp2
      go_ret
      exact ⟨rfl, HB1.out⟩
end Go.Proofs.Ytpklmhffgbgakaa
