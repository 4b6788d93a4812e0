/- impl's method turn adds the digits of a number to wheels from one on, and its methods plus and around: contracts. -/
import Derived.Test.YtkiphejkgpfjjaaDoorCntRow
import Derived.Deep.QuietTactic
import Derived.BigQuiet
namespace Go.Proofs.YtkiphejkgpfjjaaDoor
open Go.ChangeShapes Go.WideShapes Go.ChangeAt Go.RowKit

/-- an addition, and nothing below has turned -/
def GivesAdd (rs : List Int) (n : Nat) (m : Int) (b : Bool) (w : World) (e : Ending) (w' : World) : Prop := e = .returned (.agg (addV rs n m b)) ∧ Below w.heap.size w w'
theorem addV_zero : addV (reg12 []) 0 0 false = #[Value.int .i8 0, Value.int .i8 0, Value.int .i8 0, Value.int .i8 0, Value.int .i8 0, Value.int .i8 0, Value.int .i8 0, Value.int .i8 0, Value.int .i8 0, Value.int .i8 0, Value.int .i8 0, Value.int .i8 0, Value.int .i64 0, Value.int .i64 0, Value.bool false] := by simp [addV, reg12]
theorem info_add : (Tryd.prog.info? 70).map (·.size) = some 15 := by kernel_rfl
set_option maxRecDepth 100000 in
theorem build_left (rs : List Int) (n : Nat) (b : Bool) (h : rs.length = 12) : Tryd.prog.built 70 [(0, .agg (regV rs n)), (2, .bool b)] = some (addV rs n 0 b) := by
  obtain ⟨a1, a2, a3, a4, a5, a6, a7, a8, a9, a10, a11, a12, rfl⟩ := list12 h
  kernel_rfl

theorem reg12_at {dn xs : List Int} {x : Int} (h : dn.length + xs.length < 12) : (reg12 (dn ++ x :: xs))[dn.length]?.getD 0 = x := by
  rw [reg12_get _ (by simp)]
  simp
theorem reg12_put {dn xs : List Int} {x y : Int} (h : dn.length + xs.length < 12) : (reg12 (dn ++ x :: xs)).set dn.length y = reg12 ((dn ++ [y]) ++ xs) := by
  simp only [reg12, List.append_assoc, List.cons_append, List.nil_append, List.length_append, List.length_cons]
  rw [List.set_append_right _ _ (Nat.le_refl _), Nat.sub_self, List.set_cons_zero]

set_option maxRecDepth 100000 in
set_option maxHeartbeats 4000000 in
theorem turn_end (dn dn' : List Int) (n n' : Nat) (c : Int) (w : World) (hd : dn.length = n) (hn : n ≤ 12) (hc : 0 ≤ c ∧ c ≤ 1) :
    Calls Tryd.prog 63 #[.agg (regV (reg12 dn) n), .agg (regV (reg12 dn') n'), .int .i64 n, .int .i8 c] w (GivesAdd (reg12 dn) n 0 (decide (0 < c)) w) := by
  have hl := reg12_length (xs := dn) (by omega)
  have hb := build_left (reg12 dn) n (decide (0 < c)) hl
  have R1 := RegRow.new w (reg12 dn) n
  have p12 := ((R1.later (below_box _ (.cells (regV (reg12 dn') n') 51))).later (below_box _ (.cells #[Value.int .i8 0, Value.int .i8 0, Value.int .i8 0, Value.int .i8 0, Value.int .i8 0, Value.int .i8 0, Value.int .i8 0, Value.int .i8 0, Value.int .i8 0, Value.int .i8 0, Value.int .i8 0, Value.int .i8 0, Value.int .i64 0, Value.int .i64 0, Value.bool false] 70))).count hl
  have R1' := (R1.later (below_box _ (.cells (regV (reg12 dn') n') 51))).later (below_box _ (.cells #[Value.int .i8 0, Value.int .i8 0, Value.int .i8 0, Value.int .i8 0, Value.int .i8 0, Value.int .i8 0, Value.int .i8 0, Value.int .i8 0, Value.int .i8 0, Value.int .i8 0, Value.int .i8 0, Value.int .i8 0, Value.int .i64 0, Value.int .i64 0, Value.bool false] 70))
  have e3 := below_boxed (below_boxed (below_box w (.cells (regV (reg12 dn) n) 51)) (.cells (regV (reg12 dn') n') 51)) (.cells #[Value.int .i8 0, Value.int .i8 0, Value.int .i8 0, Value.int .i8 0, Value.int .i8 0, Value.int .i8 0, Value.int .i8 0, Value.int .i8 0, Value.int .i8 0, Value.int .i8 0, Value.int .i8 0, Value.int .i8 0, Value.int .i64 0, Value.int .i64 0, Value.bool false] 70)
  have hi : (Tryd.prog.info? 51).map (·.size) = some (regV (reg12 dn) n).size := by rw [regV_size hl]; exact info_reg
  have hi2 : (Tryd.prog.info? 70).map (·.size) = some (addV (reg12 dn) n 0 (decide (0 < c))).size := by rw [addV_size hl]; exact info_add
  have hold : (#[Value.int .i8 0, Value.int .i8 0, Value.int .i8 0, Value.int .i8 0, Value.int .i8 0, Value.int .i8 0, Value.int .i8 0, Value.int .i8 0, Value.int .i8 0, Value.int .i8 0, Value.int .i8 0, Value.int .i8 0, Value.int .i64 0, Value.int .i64 0, Value.bool false] : Array Value).size = (addV (reg12 dn) n 0 (decide (0 < c))).size := by rw [addV_size hl]; rfl
  have hone : (addV (reg12 dn) n 0 (decide (0 < c))).all (·.oneCell') = true := add_one_cell
  unfold RegRow at R1'
  obtain ⟨v1, hv1⟩ : ∃ v, regV (reg12 dn) n = v := ⟨_, rfl⟩
  obtain ⟨v2, hv2⟩ : ∃ v, regV (reg12 dn') n' = v := ⟨_, rfl⟩
  obtain ⟨v3, hv3⟩ : ∃ v, addV (reg12 dn) n 0 (decide (0 < c)) = v := ⟨_, rfl⟩
  obtain ⟨b, hbb⟩ : ∃ b, decide (0 < c) = b := ⟨_, rfl⟩
  unfold GivesAdd
  rw [hv3] at hb hi2 hold hone ⊢
  simp only [hbb] at hb
  rw [hv1] at hb p12 R1' e3 hi ⊢
  rw [hv2] at p12 R1' e3 ⊢
  obtain ⟨W3, hW3⟩ : ∃ W, ((w.alloc (.cells v1 51)).alloc (.cells v2 51)).alloc (.cells #[Value.int .i8 0, Value.int .i8 0, Value.int .i8 0, Value.int .i8 0, Value.int .i8 0, Value.int .i8 0, Value.int .i8 0, Value.int .i8 0, Value.int .i8 0, Value.int .i8 0, Value.int .i8 0, Value.int .i8 0, Value.int .i64 0, Value.int .i64 0, Value.bool false] 70) = W := ⟨_, rfl⟩
  have R3 : W3.heap[w.heap.size + 2]? = some (.cells #[Value.int .i8 0, Value.int .i8 0, Value.int .i8 0, Value.int .i8 0, Value.int .i8 0, Value.int .i8 0, Value.int .i8 0, Value.int .i8 0, Value.int .i8 0, Value.int .i8 0, Value.int .i8 0, Value.int .i8 0, Value.int .i64 0, Value.int .i64 0, Value.bool false] 70 (0, 0)) := by
    rw [← hW3]
    have := heap_alloc_new ((w.alloc (.cells v1 51)).alloc (.cells v2 51)) (.cells #[Value.int .i8 0, Value.int .i8 0, Value.int .i8 0, Value.int .i8 0, Value.int .i8 0, Value.int .i8 0, Value.int .i8 0, Value.int .i8 0, Value.int .i8 0, Value.int .i8 0, Value.int .i8 0, Value.int .i8 0, Value.int .i64 0, Value.int .i64 0, Value.bool false] 70)
    simpa using this
  rw [hW3] at p12 R1' e3
  have HB := Lib.hid hb
  have H1 := Lib.hid R1'
  have H3 := Lib.hid R3
  have E3 := Lib.hid e3
  have HI := Lib.hid hi
  have HI2 := Lib.hid hi2
  have HO := Lib.hid hold
  have H1C := Lib.hid hone
  have HBB : Hid (decide (0 < c) = b) := hbb
  clear R1 R1' R3 e3 hi hi2 hold hone hv1 hv2 hv3 hl hd hbb hb
  go_enter Tryd.func63, Tryd.ntmps63
  go_upto_region 2 with (fail)
  have hbc := HBB.out
  go_wp2_with (first
    | (refine wpList_load_row rfl 51 (.tmp 4) rfl w.heap.size rfl _ _ _ _ H1.out Tryd.underlying51 rfl HI.out ?_)
    | (refine wpList_build_two rfl 70 0 2 (.tmp 15) (.tmp 17) rfl (.agg v1) (.bool b) rfl rfl v3 HB.out ?_)
    | (refine wpList_store_row rfl 70 (.tmp 8) (.tmp 18) rfl (w.heap.size + 2) v3 rfl rfl _ _ H3.out HI2.out HO.out H1C.out ?_))
  refine bodyPost_ret (v := .agg v3) (results_cell_row rfl _ _ (w.heap.size + 2) 70 v3 (0, 0) _ rfl ?_ Tryd.underlying70 rfl HI2.out) rfl ⟨rfl, ?_⟩
  · exact setRow_same _ H3.out
  · exact setRow_below E3.out (by omega) _

theorem addV_carry {rs : List Int} (hl : rs.length = 12) (n : Nat) (m m' : Int) (b : Bool) : (addV rs n m b).setIfInBounds 13 (.int .i64 m') = addV rs n m' b := by
  obtain ⟨a1, a2, a3, a4, a5, a6, a7, a8, a9, a10, a11, a12, rfl⟩ := list12 hl
  rfl

set_option maxRecDepth 100000 in
set_option maxHeartbeats 8000000 in
theorem turn_any : ∀ (xs ys dn dn' : List Int) (n n' k : Nat) (c : Int) (w : World), dn.length = k → dn'.length = k → xs.length = ys.length → k + xs.length = n → n ≤ 12 → wheelsB xs = true → wheelsB ys = true → (0 ≤ c ∧ c ≤ 1) →
    Calls Tryd.prog 63 #[.agg (regV (reg12 (dn ++ xs)) n), .agg (regV (reg12 (dn' ++ ys)) n'), .int .i64 k, .int .i8 c] w (GivesAdd (reg12 (dn ++ addL xs ys c)) n (addM xs ys c) (decide (0 < addO xs ys c)) w)
  | [], ys, dn, dn', n, n', k, c, w, hd, hd', hl, hk, hn, _, _, hc => by
    obtain rfl : ys = [] := List.length_eq_zero_iff.1 (by simpa using hl.symm)
    obtain rfl : k = n := by simpa using hk
    simp only [List.append_nil, addL, addM, addO]
    exact turn_end dn dn' k n' c w hd hn hc
  | _ :: _, [], _, _, _, _, _, _, _, _, _, hl, _, _, _, _, _ => by simp at hl
  | x :: xs, y :: ys, dn, dn', n, n', k, c, w, hd, hd', hl, hk, hn, hx, hy, hc => by
    rw [wheelsB_cons] at hx hy
    have hk12 : k + xs.length < 12 := by simp at hk; omega
    obtain ⟨s, hs⟩ : ∃ s, x + y + c = s := ⟨_, rfl⟩
    have ih := fun W => turn_any xs ys (dn ++ [s % 10]) (dn' ++ [y]) n n' (k + 1) (s / 10) W (by simp [hd]) (by simp [hd']) (by simpa using hl) (by simp at hk ⊢; omega) hn hx.2 hy.2 (by omega)
    have hll : xs.length = ys.length := by simpa using hl
    have hb2 := addM_bounds (xs := xs) (ys := ys) (c := s / 10) hx.2 hy.2 (by omega) (by omega)
    have hlX := reg12_length (xs := dn ++ x :: xs) (by simp; omega)
    have hlY := reg12_length (xs := dn' ++ y :: ys) (by simp; omega)
    have hlR := reg12_length (xs := (dn ++ [s % 10]) ++ addL xs ys (s / 10)) (by simp [addL_length _ hll]; omega)
    have e1 : addL (x :: xs) (y :: ys) c = s % 10 :: addL xs ys (s / 10) := by rw [addL, hs]
    have e2 : addM (x :: xs) (y :: ys) c = s / 10 + addM xs ys (s / 10) := by rw [addM, hs]
    have e3 : addO (x :: xs) (y :: ys) c = addO xs ys (s / 10) := by rw [addO, hs]
    have hax := reg12_at (dn := dn) (xs := xs) (x := x) (by rw [hd]; omega)
    have hay := reg12_at (dn := dn') (xs := ys) (x := y) (by rw [hd']; omega)
    have hput := reg12_put (dn := dn) (xs := xs) (x := x) (y := s % 10) (by rw [hd]; omega)
    rw [hd] at hax hput
    rw [hd'] at hay
    have eY : dn' ++ y :: ys = (dn' ++ [y]) ++ ys := by simp
    have eR : dn ++ s % 10 :: addL xs ys (s / 10) = (dn ++ [s % 10]) ++ addL xs ys (s / 10) := by simp
    rw [e1, e2, e3, eR]
    rw [eY] at hlY hay ⊢
    clear e1 e2 e3 eR eY hl
    have hkn : k < n := by simp at hk; omega
    -- the cells
    have R1a := RegRow.new w (reg12 (dn ++ x :: xs)) n
    have R2a := RegRow.new (w.alloc (.cells (regV (reg12 (dn ++ x :: xs)) n) 51)) (reg12 ((dn' ++ [y]) ++ ys)) n'
    have R1b := (R1a.later (below_box _ (.cells (regV (reg12 ((dn' ++ [y]) ++ ys)) n') 51))).later (below_box _ (.cells #[Value.int .i8 0, Value.int .i8 0, Value.int .i8 0, Value.int .i8 0, Value.int .i8 0, Value.int .i8 0, Value.int .i8 0, Value.int .i8 0, Value.int .i8 0, Value.int .i8 0, Value.int .i8 0, Value.int .i8 0, Value.int .i64 0, Value.int .i64 0, Value.bool false] 70))
    have R2b := R2a.later (below_box _ (.cells #[Value.int .i8 0, Value.int .i8 0, Value.int .i8 0, Value.int .i8 0, Value.int .i8 0, Value.int .i8 0, Value.int .i8 0, Value.int .i8 0, Value.int .i8 0, Value.int .i8 0, Value.int .i8 0, Value.int .i8 0, Value.int .i64 0, Value.int .i64 0, Value.bool false] 70))
    have E3 := below_boxed (below_boxed (below_box w (.cells (regV (reg12 (dn ++ x :: xs)) n) 51)) (.cells (regV (reg12 ((dn' ++ [y]) ++ ys)) n') 51)) (.cells #[Value.int .i8 0, Value.int .i8 0, Value.int .i8 0, Value.int .i8 0, Value.int .i8 0, Value.int .i8 0, Value.int .i8 0, Value.int .i8 0, Value.int .i8 0, Value.int .i8 0, Value.int .i8 0, Value.int .i8 0, Value.int .i64 0, Value.int .i64 0, Value.bool false] 70)
    have hiX : (Tryd.prog.info? 51).map (·.size) = some (regV (reg12 ((dn ++ [s % 10]) ++ xs)) n).size := by rw [regV_size (by rw [← hput, List.length_set]; exact hlX)]; exact info_reg
    have hiY : (Tryd.prog.info? 51).map (·.size) = some (regV (reg12 ((dn' ++ [y]) ++ ys)) n').size := by rw [regV_size hlY]; exact info_reg
    unfold GivesAdd at ih ⊢
    obtain ⟨rR, hrR⟩ : ∃ r, reg12 ((dn ++ [s % 10]) ++ addL xs ys (s / 10)) = r := ⟨_, rfl⟩
    obtain ⟨rX, hrX⟩ : ∃ r, reg12 (dn ++ x :: xs) = r := ⟨_, rfl⟩
    obtain ⟨rX', hrX'⟩ : ∃ r, reg12 ((dn ++ [s % 10]) ++ xs) = r := ⟨_, rfl⟩
    obtain ⟨rY, hrY⟩ : ∃ r, reg12 ((dn' ++ [y]) ++ ys) = r := ⟨_, rfl⟩
    obtain ⟨m, hm⟩ : ∃ m, addM xs ys (s / 10) = m := ⟨_, rfl⟩
    obtain ⟨b, hb⟩ : ∃ b, decide (0 < addO xs ys (s / 10)) = b := ⟨_, rfl⟩
    rw [hrX] at hlX hax hput R1a R2a R1b R2b E3 ⊢
    rw [hrY] at hlY hay R1b R2a R2b E3 hiY ⊢
    rw [hrX'] at hput hiX
    rw [hrR] at hlR ⊢
    simp only [hrX', hrY, hrR, hm, hb, Int.natCast_add, Int.natCast_one] at ih
    rw [hm] at hb2 ⊢
    rw [hb]
    obtain ⟨vY, hvY⟩ : ∃ v, regV rY n' = v := ⟨_, rfl⟩
    rw [hvY] at ih R1b R2a E3 hiY
    rw [hvY] at R2b
    obtain ⟨W3, hW3⟩ : ∃ W, ((w.alloc (.cells (regV rX n) 51)).alloc (.cells vY 51)).alloc (.cells #[Value.int .i8 0, Value.int .i8 0, Value.int .i8 0, Value.int .i8 0, Value.int .i8 0, Value.int .i8 0, Value.int .i8 0, Value.int .i8 0, Value.int .i8 0, Value.int .i8 0, Value.int .i8 0, Value.int .i8 0, Value.int .i64 0, Value.int .i64 0, Value.bool false] 70) = W := ⟨_, rfl⟩
    have R3 : W3.heap[w.heap.size + 2]? = some (.cells #[Value.int .i8 0, Value.int .i8 0, Value.int .i8 0, Value.int .i8 0, Value.int .i8 0, Value.int .i8 0, Value.int .i8 0, Value.int .i8 0, Value.int .i8 0, Value.int .i8 0, Value.int .i8 0, Value.int .i8 0, Value.int .i64 0, Value.int .i64 0, Value.bool false] 70 (0, 0)) := by
      rw [← hW3]
      have := heap_alloc_new ((w.alloc (.cells (regV rX n) 51)).alloc (.cells vY 51)) (.cells #[Value.int .i8 0, Value.int .i8 0, Value.int .i8 0, Value.int .i8 0, Value.int .i8 0, Value.int .i8 0, Value.int .i8 0, Value.int .i8 0, Value.int .i8 0, Value.int .i8 0, Value.int .i8 0, Value.int .i8 0, Value.int .i64 0, Value.int .i64 0, Value.bool false] 70)
      simpa using this
    rw [hW3] at R1b E3
    have R2c : RegRow W3 (w.heap.size + 1) rY n' := by
      have := R2b
      rw [show (w.alloc (.cells (regV rX n) 51)).heap.size = w.heap.size + 1 by simp] at this
      rw [← hW3]
      unfold RegRow at this ⊢
      rw [hvY] at this ⊢
      exact this
    have R2d : Hid (W3.heap[w.heap.size + 1]? = some (.cells vY 51 (0, 0))) := by
      have := R2c
      unfold RegRow at this
      rw [hvY] at this
      exact this
    have x12 := R1b.count hlX
    have x1 := R1b.cell (i := k) (by omega)
    have y1 := R2c.cell (i := k) (by omega)
    have z1 := R1b.frozen k
    rw [hax] at x1
    rw [hay] at y1
    have H1 := Lib.hid R1b
    have H3 := Lib.hid R3
    have HE3 := Lib.hid E3
    have HX := Lib.hid hlX
    have HP := Lib.hid hput
    have HIX := Lib.hid hiX
    have HIY := Lib.hid hiY
    have HR := Lib.hid hlR
    have IH := Lib.hid ih
    have HB2 := Lib.hid hb2
    have w1 : IntKind.i8.wrap (x + y) = x + y := IntWalk.i8_in _ (by omega)
    have w2 : IntKind.i8.wrap (x + y + c) = s := by rw [hs]; exact IntWalk.i8_in _ (by omega)
    have w3 : s.tmod 10 = s % 10 := Int.tmod_eq_emod_of_nonneg (by omega)
    have w4 : s.tdiv 10 = s / 10 := Int.tdiv_eq_ediv_of_nonneg (by omega)
    have w5 : IntKind.i8.wrap (s / 10) = s / 10 := IntWalk.i8_in _ (by omega)
    have w6 : IntKind.i64.wrap (s / 10) = s / 10 := IntWalk.i64_in _ (by omega)
    have w7 : IntKind.i64.wrap ((k : Int) + 1) = (k : Int) + 1 := IntWalk.i64_in _ (by omega)
    have w8 : IntKind.i64.wrap (m + s / 10) = s / 10 + m := by rw [Int.add_comm]; have := hb2; exact IntWalk.i64_in _ (by omega)
    have w9 : IntKind.i8.wrap (s % 10) = s % 10 := IntWalk.i8_in _ (by omega)
    have j0 : (0 : Int) ≤ (k : Int) := Int.natCast_nonneg _
    have j1 : (k : Int) < 12 := by omega
    have j2 : ¬ (k : Int) = (n : Int) := by omega
    have j3 : ((k : Int) == (n : Int)) = false := by simpa using j2
    clear R1a R2a R1b R2b R2c E3 hlX hlY hlR hax hay hput hiX hiY hrX hrX' hrY hrR hm hb ih hb2 R3 hd hd' hll hx hy hk hs hc
    go_enter Tryd.func63, Tryd.ntmps63
    go_wp2
    go_quiet (fail)
    go_upto_region 5 with (fail)
    have HX4 : Hid (((W3.drewN nq).setCell ⟨w.heap.size, k, none⟩ (.int .i8 (s % 10))).heap[w.heap.size]? = some (.cells (regV rX' n) 51 (0, 0))) := by
      have hr : RegRow (W3.drewN nq) w.heap.size rX n := H1.out
      have := hr.set (i := k) (by rw [HX.out]; omega) (s % 10)
      rw [HP.out] at this
      exact this
    have HY4 : Hid (((W3.drewN nq).setCell ⟨w.heap.size, k, none⟩ (.int .i8 (s % 10))).heap[w.heap.size + 1]? = some (.cells vY 51 (0, 0))) := (Below.heap_setCell (W3.drewN nq) _ _ _ (by show w.heap.size + 1 ≠ w.heap.size; omega)).trans R2d.out
    have HZ4 : Hid (((W3.drewN nq).setCell ⟨w.heap.size, k, none⟩ (.int .i8 (s % 10))).heap[w.heap.size + 2]? = some (.cells #[Value.int .i8 0, Value.int .i8 0, Value.int .i8 0, Value.int .i8 0, Value.int .i8 0, Value.int .i8 0, Value.int .i8 0, Value.int .i8 0, Value.int .i8 0, Value.int .i8 0, Value.int .i8 0, Value.int .i8 0, Value.int .i64 0, Value.int .i64 0, Value.bool false] 70 (0, 0))) := (Below.heap_setCell (W3.drewN nq) _ _ _ (by show w.heap.size + 2 ≠ w.heap.size; omega)).trans H3.out
    have HE4 : Hid (Below w.heap.size w ((W3.drewN nq).setCell ⟨w.heap.size, k, none⟩ (.int .i8 (s % 10)))) := (below_drewN HE3.out nq).setCell (Nat.le_refl _) _
    generalize (W3.drewN nq).setCell ⟨w.heap.size, k, none⟩ (.int .i8 (s % 10)) = w4 at *
    clear x12 x1 y1 z1 H1 H3 R2d HE3 hW3 HP
    go_upto_region 6 with (first
      | (refine wpList_load_row rfl 51 (.tmp 4) rfl w.heap.size rfl _ _ _ _ HX4.out Tryd.underlying51 rfl HIX.out ?_)
      | (refine wpList_load_row rfl 51 (.tmp 5) rfl (w.heap.size + 1) rfl _ _ _ _ HY4.out Tryd.underlying51 rfl HIY.out ?_)
      | (go_at_call 63; refine (IH.out _).mono ?_; rintro e w5 ⟨rfl, hb5⟩; have HZ5 := Lib.hid ((hb5.block (w.heap.size + 2) (Array.getElem?_eq_some_iff.1 HZ4.out).1).trans HZ4.out); have HE5 := Lib.hid (below_step HE4.out hb5); have HS5 : Hid (w.heap.size + 2 < w5.heap.size) := Nat.lt_of_lt_of_le (Array.getElem?_eq_some_iff.1 HZ4.out).1 hb5.size; clear hb5)
      | (refine wpList_store_row rfl 70 (.tmp 10) (.tmp 42) rfl w5.heap.size (addV rR n m b) rfl rfl _ _ (heap_alloc_new w5 _) (by rw [addV_size HR.out]; exact info_add) (by rw [addV_size HR.out]; rfl) add_one_cell ?_))
    have HA6 : Hid (((w5.alloc (.cells #[Value.int .i8 0, Value.int .i8 0, Value.int .i8 0, Value.int .i8 0, Value.int .i8 0, Value.int .i8 0, Value.int .i8 0, Value.int .i8 0, Value.int .i8 0, Value.int .i8 0, Value.int .i8 0, Value.int .i8 0, Value.int .i64 0, Value.int .i64 0, Value.bool false] 70)).setRow w5.heap.size (addV rR n m b)).heap[w5.heap.size]? = some (.cells (addV rR n m b) 70 (0, 0))) := setRow_same _ (heap_alloc_new w5 _)
    have HZ6 : Hid (((w5.alloc (.cells #[Value.int .i8 0, Value.int .i8 0, Value.int .i8 0, Value.int .i8 0, Value.int .i8 0, Value.int .i8 0, Value.int .i8 0, Value.int .i8 0, Value.int .i8 0, Value.int .i8 0, Value.int .i8 0, Value.int .i8 0, Value.int .i64 0, Value.int .i64 0, Value.bool false] 70)).setRow w5.heap.size (addV rR n m b)).heap[w.heap.size + 2]? = some (.cells #[Value.int .i8 0, Value.int .i8 0, Value.int .i8 0, Value.int .i8 0, Value.int .i8 0, Value.int .i8 0, Value.int .i8 0, Value.int .i8 0, Value.int .i8 0, Value.int .i8 0, Value.int .i8 0, Value.int .i8 0, Value.int .i64 0, Value.int .i64 0, Value.bool false] 70 (0, 0))) := (setRow_heap_other _ (Nat.ne_of_lt HS5.out)).trans ((Below.heap_alloc w5 _ _ HS5.out).trans HZ5.out)
    have HE6 : Hid (Below w.heap.size w ((w5.alloc (.cells #[Value.int .i8 0, Value.int .i8 0, Value.int .i8 0, Value.int .i8 0, Value.int .i8 0, Value.int .i8 0, Value.int .i8 0, Value.int .i8 0, Value.int .i8 0, Value.int .i8 0, Value.int .i8 0, Value.int .i8 0, Value.int .i64 0, Value.int .i64 0, Value.bool false] 70)).setRow w5.heap.size (addV rR n m b))) := setRow_below (below_boxed HE5.out _) (by have := HS5.out; omega) _
    generalize (w5.alloc (.cells #[Value.int .i8 0, Value.int .i8 0, Value.int .i8 0, Value.int .i8 0, Value.int .i8 0, Value.int .i8 0, Value.int .i8 0, Value.int .i8 0, Value.int .i8 0, Value.int .i8 0, Value.int .i8 0, Value.int .i8 0, Value.int .i64 0, Value.int .i64 0, Value.bool false] 70)).setRow w5.heap.size (addV rR n m b) = w6 at *
    have c13 : w6.cell? ⟨w5.heap.size, 13, none⟩ = some (.int .i64 m) := by
      rw [cell_of_row w6 _ 13 _ _ _ HA6.out]
      simp [addV, HR.out]
    have f13 := frozen_of_row w6 w5.heap.size 13 _ _ HA6.out
    have HA7 : Hid ((w6.setCell ⟨w5.heap.size, 13, none⟩ (.int .i64 (s / 10 + m))).heap[w5.heap.size]? = some (.cells (addV rR n (s / 10 + m) b) 70 (0, 0))) := by
      have := heap_setCell_same w6 w5.heap.size 13 _ _ (.int .i64 (s / 10 + m)) HA6.out
      rw [addV_carry HR.out] at this
      exact this
    have HZ7 : Hid ((w6.setCell ⟨w5.heap.size, 13, none⟩ (.int .i64 (s / 10 + m))).heap[w.heap.size + 2]? = some (.cells #[Value.int .i8 0, Value.int .i8 0, Value.int .i8 0, Value.int .i8 0, Value.int .i8 0, Value.int .i8 0, Value.int .i8 0, Value.int .i8 0, Value.int .i8 0, Value.int .i8 0, Value.int .i8 0, Value.int .i8 0, Value.int .i64 0, Value.int .i64 0, Value.bool false] 70 (0, 0))) := (Below.heap_setCell w6 _ _ _ (Nat.ne_of_lt HS5.out)).trans HZ6.out
    have HE7 : Hid (Below w.heap.size w (w6.setCell ⟨w5.heap.size, 13, none⟩ (.int .i64 (s / 10 + m)))) := HE6.out.setCell (by have := HS5.out; show w.heap.size ≤ w5.heap.size; omega) _
    have hi7 : (Tryd.prog.info? 70).map (·.size) = some (addV rR n (s / 10 + m) b).size := by rw [addV_size HR.out]; exact info_add
    have HI7 := Lib.hid hi7
    have hold7 : (#[Value.int .i8 0, Value.int .i8 0, Value.int .i8 0, Value.int .i8 0, Value.int .i8 0, Value.int .i8 0, Value.int .i8 0, Value.int .i8 0, Value.int .i8 0, Value.int .i8 0, Value.int .i8 0, Value.int .i8 0, Value.int .i64 0, Value.int .i64 0, Value.bool false] : Array Value).size = (addV rR n (s / 10 + m) b).size := by rw [addV_size HR.out]; rfl
    have HO7 := Lib.hid hold7
    clear hi7 hold7 HZ5 HE5 HX4 HY4 HZ4 HE4 HA6 HZ6 HE6 IH
    go_upto_region 7 with (fail)
    go_wp2_with (first
      | (refine wpList_load_row rfl 70 (.tmp 10) rfl w5.heap.size rfl _ _ _ _ HA7.out Tryd.underlying70 rfl HI7.out ?_)
      | (refine wpList_store_row rfl 70 (.tmp 8) (.tmp 49) rfl (w.heap.size + 2) (addV rR n (s / 10 + m) b) rfl rfl _ _ HZ7.out HI7.out HO7.out add_one_cell ?_))
    refine bodyPost_ret (v := .agg (addV rR n (s / 10 + m) b)) (results_cell_row rfl _ _ (w.heap.size + 2) 70 _ (0, 0) _ rfl ?_ Tryd.underlying70 rfl HI7.out) rfl ⟨rfl, ?_⟩
    · exact setRow_same _ HZ7.out
    · exact setRow_below HE7.out (by omega) _

theorem zero_reg : regV (reg12 ([] ++ [])) 0 = regV (reg12 []) 0 := rfl
theorem reg12_zeros (n : Nat) (h : n ≤ 12) : reg12 (List.replicate n 0) = reg12 [] := by
  simp only [reg12, List.length_replicate, List.replicate_append_replicate, List.length_nil, List.nil_append]
  congr 1
  omega
theorem wheels_zeros : ∀ n, wheelsB (List.replicate n 0) = true
  | 0 => rfl
  | n + 1 => by rw [List.replicate_succ, wheelsB_cons]; exact ⟨by omega, wheels_zeros n⟩

set_option maxRecDepth 100000 in
set_option maxHeartbeats 4000000 in
theorem plus_any (xs ys : List Int) (n n' : Nat) (w : World) (hxn : xs.length = n) (hl : xs.length = ys.length) (hn : n ≤ 12) (hx : wheelsB xs = true) (hy : wheelsB ys = true) :
    Calls Tryd.prog 41 #[.agg (regV (reg12 xs) n), .agg (regV (reg12 ys) n')] w (GivesAdd (reg12 (addL xs ys 0)) n (addM xs ys 0) (decide (0 < addO xs ys 0)) w) := by
  have ht := fun W => turn_any xs ys [] [] n n' 0 0 W rfl rfl hl (by simpa using hxn) hn hx hy (by omega)
  simp only [List.nil_append, Int.natCast_zero] at ht
  have hlX := reg12_length (xs := xs) (by omega)
  have hlY := reg12_length (xs := ys) (by omega)
  have hlR := reg12_length (xs := addL xs ys 0) (by rw [addL_length _ hl]; omega)
  have hiX : (Tryd.prog.info? 51).map (·.size) = some (regV (reg12 xs) n).size := by rw [regV_size hlX]; exact info_reg
  have hiY : (Tryd.prog.info? 51).map (·.size) = some (regV (reg12 ys) n').size := by rw [regV_size hlY]; exact info_reg
  unfold GivesAdd at ht ⊢
  obtain ⟨rR, hrR⟩ : ∃ r, reg12 (addL xs ys 0) = r := ⟨_, rfl⟩
  obtain ⟨m, hm⟩ : ∃ m, addM xs ys 0 = m := ⟨_, rfl⟩
  obtain ⟨b, hb⟩ : ∃ b, decide (0 < addO xs ys 0) = b := ⟨_, rfl⟩
  obtain ⟨vX, hvX⟩ : ∃ v, regV (reg12 xs) n = v := ⟨_, rfl⟩
  obtain ⟨vY, hvY⟩ : ∃ v, regV (reg12 ys) n' = v := ⟨_, rfl⟩
  rw [hrR] at hlR ⊢
  simp only [hvX, hvY, hrR, hm, hb] at ht
  rw [hm, hb, hvX, hvY]
  rw [hvX] at hiX
  rw [hvY] at hiY
  have hi7 : (Tryd.prog.info? 70).map (·.size) = some (addV rR n m b).size := by rw [addV_size hlR]; exact info_add
  have hold7 : (#[Value.int .i8 0, Value.int .i8 0, Value.int .i8 0, Value.int .i8 0, Value.int .i8 0, Value.int .i8 0, Value.int .i8 0, Value.int .i8 0, Value.int .i8 0, Value.int .i8 0, Value.int .i8 0, Value.int .i8 0, Value.int .i64 0, Value.int .i64 0, Value.bool false] : Array Value).size = (addV rR n m b).size := by rw [addV_size hlR]; rfl
  have E3 := below_boxed (below_boxed (below_box w (.cells vX 51)) (.cells vY 51)) (.cells #[Value.int .i8 0, Value.int .i8 0, Value.int .i8 0, Value.int .i8 0, Value.int .i8 0, Value.int .i8 0, Value.int .i8 0, Value.int .i8 0, Value.int .i8 0, Value.int .i8 0, Value.int .i8 0, Value.int .i8 0, Value.int .i64 0, Value.int .i64 0, Value.bool false] 70)
  have h1 : (((w.alloc (.cells vX 51)).alloc (.cells vY 51)).alloc (.cells #[Value.int .i8 0, Value.int .i8 0, Value.int .i8 0, Value.int .i8 0, Value.int .i8 0, Value.int .i8 0, Value.int .i8 0, Value.int .i8 0, Value.int .i8 0, Value.int .i8 0, Value.int .i8 0, Value.int .i8 0, Value.int .i64 0, Value.int .i64 0, Value.bool false] 70)).heap[w.heap.size]? = some (.cells vX 51 (0, 0)) := by
    rw [Below.heap_alloc _ _ _ (by simp; omega), Below.heap_alloc _ _ _ (by simp)]
    exact heap_alloc_new w _
  have h2 : (((w.alloc (.cells vX 51)).alloc (.cells vY 51)).alloc (.cells #[Value.int .i8 0, Value.int .i8 0, Value.int .i8 0, Value.int .i8 0, Value.int .i8 0, Value.int .i8 0, Value.int .i8 0, Value.int .i8 0, Value.int .i8 0, Value.int .i8 0, Value.int .i8 0, Value.int .i8 0, Value.int .i64 0, Value.int .i64 0, Value.bool false] 70)).heap[w.heap.size + 1]? = some (.cells vY 51 (0, 0)) := by
    rw [Below.heap_alloc _ _ _ (by simp)]
    have := heap_alloc_new (w.alloc (.cells vX 51)) (.cells vY 51)
    simpa using this
  have h3 : (((w.alloc (.cells vX 51)).alloc (.cells vY 51)).alloc (.cells #[Value.int .i8 0, Value.int .i8 0, Value.int .i8 0, Value.int .i8 0, Value.int .i8 0, Value.int .i8 0, Value.int .i8 0, Value.int .i8 0, Value.int .i8 0, Value.int .i8 0, Value.int .i8 0, Value.int .i8 0, Value.int .i64 0, Value.int .i64 0, Value.bool false] 70)).heap[w.heap.size + 2]? = some (.cells #[Value.int .i8 0, Value.int .i8 0, Value.int .i8 0, Value.int .i8 0, Value.int .i8 0, Value.int .i8 0, Value.int .i8 0, Value.int .i8 0, Value.int .i8 0, Value.int .i8 0, Value.int .i8 0, Value.int .i8 0, Value.int .i64 0, Value.int .i64 0, Value.bool false] 70 (0, 0)) := by
    have := heap_alloc_new ((w.alloc (.cells vX 51)).alloc (.cells vY 51)) (.cells #[Value.int .i8 0, Value.int .i8 0, Value.int .i8 0, Value.int .i8 0, Value.int .i8 0, Value.int .i8 0, Value.int .i8 0, Value.int .i8 0, Value.int .i8 0, Value.int .i8 0, Value.int .i8 0, Value.int .i8 0, Value.int .i64 0, Value.int .i64 0, Value.bool false] 70)
    simpa using this
  obtain ⟨W3, hW3⟩ : ∃ W, ((w.alloc (.cells vX 51)).alloc (.cells vY 51)).alloc (.cells #[Value.int .i8 0, Value.int .i8 0, Value.int .i8 0, Value.int .i8 0, Value.int .i8 0, Value.int .i8 0, Value.int .i8 0, Value.int .i8 0, Value.int .i8 0, Value.int .i8 0, Value.int .i8 0, Value.int .i8 0, Value.int .i64 0, Value.int .i64 0, Value.bool false] 70) = W := ⟨_, rfl⟩
  rw [hW3] at h1 h2 h3 E3
  have H1 := Lib.hid h1
  have H2 := Lib.hid h2
  have H3 := Lib.hid h3
  have HE3 := Lib.hid E3
  have HT := Lib.hid ht
  have HIX := Lib.hid hiX
  have HIY := Lib.hid hiY
  have HI7 := Lib.hid hi7
  have HO7 := Lib.hid hold7
  clear h1 h2 h3 E3 ht hiX hiY hi7 hold7 hrR hm hb hvX hvY hlX hlY hlR hx hy hl hxn
  go_enter Tryd.func41, Tryd.ntmps41
  go_wp2_with (first
      | (refine wpList_load_row rfl 51 (.tmp 2) rfl w.heap.size rfl _ _ _ _ H1.out Tryd.underlying51 rfl HIX.out ?_)
      | (refine wpList_load_row rfl 51 (.tmp 3) rfl (w.heap.size + 1) rfl _ _ _ _ H2.out Tryd.underlying51 rfl HIY.out ?_)
      | (go_at_call 63; refine (HT.out _).mono ?_; rintro e w5 ⟨rfl, hb5⟩; have HZ5 := Lib.hid ((hb5.block (w.heap.size + 2) (Array.getElem?_eq_some_iff.1 H3.out).1).trans H3.out); have HE5 := Lib.hid (below_step HE3.out hb5); clear hb5)
      | (refine wpList_store_row rfl 70 (.tmp 4) (.tmp 7) rfl (w.heap.size + 2) (addV rR n m b) rfl rfl _ _ HZ5.out HI7.out HO7.out add_one_cell ?_))
  refine bodyPost_ret (v := .agg (addV rR n m b)) (results_cell_row rfl _ _ (w.heap.size + 2) 70 _ (0, 0) _ rfl ?_ Tryd.underlying70 rfl HI7.out) rfl ⟨rfl, ?_⟩
  · exact setRow_same _ HZ5.out
  · exact setRow_below HE5.out (by omega) _

theorem addV_left {rs : List Int} (hl : rs.length = 12) (n : Nat) (m : Int) (b : Bool) : (addV rs n m b)[14]? = some (.bool b) := by
  obtain ⟨a1, a2, a3, a4, a5, a6, a7, a8, a9, a10, a11, a12, rfl⟩ := list12 hl
  rfl
theorem addV_put {rs rs' : List Int} (hl : rs.length = 12) (hl' : rs'.length = 12) (n : Nat) (m : Int) (b : Bool) : ((regV rs' n).toList ++ (addV rs n m b).toList.drop (regV rs' n).size).toArray = addV rs' n m b := by
  obtain ⟨a1, a2, a3, a4, a5, a6, a7, a8, a9, a10, a11, a12, rfl⟩ := list12 hl
  obtain ⟨b1, b2, b3, b4, b5, b6, b7, b8, b9, b10, b11, b12, rfl⟩ := list12 hl'
  rfl
set_option maxRecDepth 100000 in
theorem field_reg {rs : List Int} (hl : rs.length = 12) (n : Nat) (m : Int) (b : Bool) (W : World) : (Instr.field 70 (.agg (addV rs n m b)) 0).run Tryd.prog W = .ok (.agg (regV rs n)) W := by
  obtain ⟨a1, a2, a3, a4, a5, a6, a7, a8, a9, a10, a11, a12, rfl⟩ := list12 hl
  kernel_rfl
set_option maxRecDepth 100000 in
theorem field_carries {rs : List Int} (hl : rs.length = 12) (n : Nat) (m : Int) (b : Bool) (W : World) : (Instr.field 70 (.agg (addV rs n m b)) 1).run Tryd.prog W = .ok (.int .i64 m) W := by
  obtain ⟨a1, a2, a3, a4, a5, a6, a7, a8, a9, a10, a11, a12, rfl⟩ := list12 hl
  kernel_rfl

set_option maxRecDepth 100000 in
set_option maxHeartbeats 4000000 in
theorem around_any (xs ys : List Int) (n n' : Nat) (w : World) (hxn : xs.length = n) (hl : xs.length = ys.length) (hn : n ≤ 12) (hx : wheelsB xs = true) (hy : wheelsB ys = true) :
    Calls Tryd.prog 43 #[.agg (regV (reg12 xs) n), .agg (regV (reg12 ys) n')] w (GivesAdd (reg12 (aroundL xs ys)) n (addM xs ys 0) (decide (0 < addO xs ys 0)) w) := by
  have hp := fun W => plus_any xs ys n n' W hxn hl hn hx hy
  have hlz : (addL xs ys 0).length = n := by rw [addL_length _ hl, hxn]
  have ht := fun W => turn_any (addL xs ys 0) (List.replicate n 0) [] [] n 0 0 1 W rfl rfl (by rw [hlz, List.length_replicate]) (by omega) hn addL_wheels (wheels_zeros n) (by omega)
  simp only [List.nil_append, Int.natCast_zero, reg12_zeros n hn, regV_zero, Int.natCast_zero] at ht
  have hbo := addO_bounds (xs := xs) (ys := ys) (c := 0) hx hy (by omega) (by omega)
  have har1 : decide (0 < addO xs ys 0) = true → aroundL xs ys = addL (addL xs ys 0) (List.replicate n 0) 1 := fun e => by
    have h1 : addO xs ys 0 = 1 := by have := of_decide_eq_true e; omega
    have h2 := add_one (addL xs ys 0)
    rw [hlz] at h2
    rw [aroundL, if_pos h1, ← h2, hxn]
  have har0 : decide (0 < addO xs ys 0) = false → aroundL xs ys = addL xs ys 0 := fun e => by
    rw [aroundL, if_neg (by have := of_decide_eq_false e; omega)]
  have hlX := reg12_length (xs := xs) (by omega)
  have hlY := reg12_length (xs := ys) (by omega)
  have hlR := reg12_length (xs := addL xs ys 0) (by omega)
  have hlS := reg12_length (xs := addL (addL xs ys 0) (List.replicate n 0) 1) (by rw [addL_length _ (by rw [hlz, List.length_replicate])]; omega)
  have hiX : (Tryd.prog.info? 51).map (·.size) = some (regV (reg12 xs) n).size := by rw [regV_size hlX]; exact info_reg
  have hiY : (Tryd.prog.info? 51).map (·.size) = some (regV (reg12 ys) n').size := by rw [regV_size hlY]; exact info_reg
  unfold GivesAdd at ht hp ⊢
  obtain ⟨rR, hrR⟩ : ∃ r, reg12 (addL xs ys 0) = r := ⟨_, rfl⟩
  obtain ⟨rS, hrS⟩ : ∃ r, reg12 (addL (addL xs ys 0) (List.replicate n 0) 1) = r := ⟨_, rfl⟩
  obtain ⟨m, hm⟩ : ∃ m, addM xs ys 0 = m := ⟨_, rfl⟩
  obtain ⟨m2, hm2⟩ : ∃ m, addM (addL xs ys 0) (List.replicate n 0) 1 = m := ⟨_, rfl⟩
  obtain ⟨b2, hb2⟩ : ∃ b, decide (0 < addO (addL xs ys 0) (List.replicate n 0) 1) = b := ⟨_, rfl⟩
  obtain ⟨b, hb⟩ : ∃ b, decide (0 < addO xs ys 0) = b := ⟨_, rfl⟩
  obtain ⟨vX, hvX⟩ : ∃ v, regV (reg12 xs) n = v := ⟨_, rfl⟩
  obtain ⟨vY, hvY⟩ : ∃ v, regV (reg12 ys) n' = v := ⟨_, rfl⟩
  rw [hrR] at hlR
  rw [hrS] at hlS
  simp only [hrR, hrS, hm2, hb2] at ht
  simp only [hvX, hvY, hrR, hm, hb] at hp
  rw [hb] at har1 har0
  rw [hm, hb, hvX, hvY]
  rw [hvX] at hiX
  rw [hvY] at hiY
  have hi7 : (Tryd.prog.info? 70).map (·.size) = some (addV rR n m b).size := by rw [addV_size hlR]; exact info_add
  have hold7 : (#[Value.int .i8 0, Value.int .i8 0, Value.int .i8 0, Value.int .i8 0, Value.int .i8 0, Value.int .i8 0, Value.int .i8 0, Value.int .i8 0, Value.int .i8 0, Value.int .i8 0, Value.int .i8 0, Value.int .i8 0, Value.int .i64 0, Value.int .i64 0, Value.bool false] : Array Value).size = (addV rR n m b).size := by rw [addV_size hlR]; rfl
  have hi8 : (Tryd.prog.info? 51).map (·.size) = some (regV rR n).size := by rw [regV_size hlR]; exact info_reg
  have hi9 : (Tryd.prog.info? 51).map (·.size) = some (regV rS n).size := by rw [regV_size hlS]; exact info_reg
  have hi10 : (Tryd.prog.info? 70).map (·.size) = some (addV rS n m b).size := by rw [addV_size hlS]; exact info_add
  have hold10 : (#[Value.int .i8 0, Value.int .i8 0, Value.int .i8 0, Value.int .i8 0, Value.int .i8 0, Value.int .i8 0, Value.int .i8 0, Value.int .i8 0, Value.int .i8 0, Value.int .i8 0, Value.int .i8 0, Value.int .i8 0, Value.int .i64 0, Value.int .i64 0, Value.bool false] : Array Value).size = (addV rS n m b).size := by rw [addV_size hlS]; rfl
  have E3 := below_boxed (below_boxed (below_box w (.cells vX 51)) (.cells vY 51)) (.cells #[Value.int .i8 0, Value.int .i8 0, Value.int .i8 0, Value.int .i8 0, Value.int .i8 0, Value.int .i8 0, Value.int .i8 0, Value.int .i8 0, Value.int .i8 0, Value.int .i8 0, Value.int .i8 0, Value.int .i8 0, Value.int .i64 0, Value.int .i64 0, Value.bool false] 70)
  have h1 : (((w.alloc (.cells vX 51)).alloc (.cells vY 51)).alloc (.cells #[Value.int .i8 0, Value.int .i8 0, Value.int .i8 0, Value.int .i8 0, Value.int .i8 0, Value.int .i8 0, Value.int .i8 0, Value.int .i8 0, Value.int .i8 0, Value.int .i8 0, Value.int .i8 0, Value.int .i8 0, Value.int .i64 0, Value.int .i64 0, Value.bool false] 70)).heap[w.heap.size]? = some (.cells vX 51 (0, 0)) := by
    rw [Below.heap_alloc _ _ _ (by simp; omega), Below.heap_alloc _ _ _ (by simp)]
    exact heap_alloc_new w _
  have h2 : (((w.alloc (.cells vX 51)).alloc (.cells vY 51)).alloc (.cells #[Value.int .i8 0, Value.int .i8 0, Value.int .i8 0, Value.int .i8 0, Value.int .i8 0, Value.int .i8 0, Value.int .i8 0, Value.int .i8 0, Value.int .i8 0, Value.int .i8 0, Value.int .i8 0, Value.int .i8 0, Value.int .i64 0, Value.int .i64 0, Value.bool false] 70)).heap[w.heap.size + 1]? = some (.cells vY 51 (0, 0)) := by
    rw [Below.heap_alloc _ _ _ (by simp)]
    have := heap_alloc_new (w.alloc (.cells vX 51)) (.cells vY 51)
    simpa using this
  have h3 : (((w.alloc (.cells vX 51)).alloc (.cells vY 51)).alloc (.cells #[Value.int .i8 0, Value.int .i8 0, Value.int .i8 0, Value.int .i8 0, Value.int .i8 0, Value.int .i8 0, Value.int .i8 0, Value.int .i8 0, Value.int .i8 0, Value.int .i8 0, Value.int .i8 0, Value.int .i8 0, Value.int .i64 0, Value.int .i64 0, Value.bool false] 70)).heap[w.heap.size + 2]? = some (.cells #[Value.int .i8 0, Value.int .i8 0, Value.int .i8 0, Value.int .i8 0, Value.int .i8 0, Value.int .i8 0, Value.int .i8 0, Value.int .i8 0, Value.int .i8 0, Value.int .i8 0, Value.int .i8 0, Value.int .i8 0, Value.int .i64 0, Value.int .i64 0, Value.bool false] 70 (0, 0)) := by
    have := heap_alloc_new ((w.alloc (.cells vX 51)).alloc (.cells vY 51)) (.cells #[Value.int .i8 0, Value.int .i8 0, Value.int .i8 0, Value.int .i8 0, Value.int .i8 0, Value.int .i8 0, Value.int .i8 0, Value.int .i8 0, Value.int .i8 0, Value.int .i8 0, Value.int .i8 0, Value.int .i8 0, Value.int .i64 0, Value.int .i64 0, Value.bool false] 70)
    simpa using this
  obtain ⟨W3, hW3⟩ : ∃ W, ((w.alloc (.cells vX 51)).alloc (.cells vY 51)).alloc (.cells #[Value.int .i8 0, Value.int .i8 0, Value.int .i8 0, Value.int .i8 0, Value.int .i8 0, Value.int .i8 0, Value.int .i8 0, Value.int .i8 0, Value.int .i8 0, Value.int .i8 0, Value.int .i8 0, Value.int .i8 0, Value.int .i64 0, Value.int .i64 0, Value.bool false] 70) = W := ⟨_, rfl⟩
  rw [hW3] at h1 h2 h3 E3
  have H1 := Lib.hid h1
  have H2 := Lib.hid h2
  have H3 := Lib.hid h3
  have HE3 := Lib.hid E3
  have HT := Lib.hid ht
  have HPL := Lib.hid hp
  have HIX := Lib.hid hiX
  have HIY := Lib.hid hiY
  have HI7 := Lib.hid hi7
  have HO7 := Lib.hid hold7
  have HI8 := Lib.hid hi8
  have HI9 := Lib.hid hi9
  have HI10 := Lib.hid hi10
  have HO10 := Lib.hid hold10
  have HLR := Lib.hid hlR
  have HLS := Lib.hid hlS
  have HA1 : Hid (b = true → reg12 (aroundL xs ys) = rS) := fun e => by rw [har1 e, hrS]
  have HA0 : Hid (b = false → reg12 (aroundL xs ys) = rR) := fun e => by rw [har0 e, hrR]
  obtain ⟨rA, hrA⟩ : ∃ r, reg12 (aroundL xs ys) = r := ⟨_, rfl⟩
  rw [hrA] at HA1 HA0 ⊢
  clear h1 h2 h3 E3 ht hp hiX hiY hi7 hold7 hrR hrS hm hb hvX hvY hlX hlY hlR hlS hx hy hl hxn hi8 hi9 hi10 hold10 hm2 hb2 har1 har0 hbo hlz hrA
  go_enter Tryd.func43, Tryd.ntmps43
  go_upto_region 2 with (first
      | (refine wpList_load_row rfl 51 (.tmp 2) rfl w.heap.size rfl _ _ _ _ H1.out Tryd.underlying51 rfl HIX.out ?_)
      | (refine wpList_load_row rfl 51 (.tmp 3) rfl (w.heap.size + 1) rfl _ _ _ _ H2.out Tryd.underlying51 rfl HIY.out ?_)
      | (go_at_call 41; refine (HPL.out _).mono ?_; rintro e w5 ⟨rfl, hb5⟩; have HZ5 := Lib.hid ((hb5.block (w.heap.size + 2) (Array.getElem?_eq_some_iff.1 H3.out).1).trans H3.out); have HE5 := Lib.hid (below_step HE3.out hb5); have HS5 : Hid (w.heap.size + 2 < w5.heap.size) := Nat.lt_of_lt_of_le (Array.getElem?_eq_some_iff.1 H3.out).1 hb5.size; clear hb5)
      | (refine wpList_store_row rfl 70 (.tmp 5) (.tmp 8) rfl w5.heap.size (addV rR n m b) rfl rfl _ _ (heap_alloc_new w5 _) HI7.out HO7.out add_one_cell ?_))
  have HA6 : Hid (((w5.alloc (.cells #[Value.int .i8 0, Value.int .i8 0, Value.int .i8 0, Value.int .i8 0, Value.int .i8 0, Value.int .i8 0, Value.int .i8 0, Value.int .i8 0, Value.int .i8 0, Value.int .i8 0, Value.int .i8 0, Value.int .i8 0, Value.int .i64 0, Value.int .i64 0, Value.bool false] 70)).setRow w5.heap.size (addV rR n m b)).heap[w5.heap.size]? = some (.cells (addV rR n m b) 70 (0, 0))) := setRow_same _ (heap_alloc_new w5 _)
  have HZ6 : Hid (((w5.alloc (.cells #[Value.int .i8 0, Value.int .i8 0, Value.int .i8 0, Value.int .i8 0, Value.int .i8 0, Value.int .i8 0, Value.int .i8 0, Value.int .i8 0, Value.int .i8 0, Value.int .i8 0, Value.int .i8 0, Value.int .i8 0, Value.int .i64 0, Value.int .i64 0, Value.bool false] 70)).setRow w5.heap.size (addV rR n m b)).heap[w.heap.size + 2]? = some (.cells #[Value.int .i8 0, Value.int .i8 0, Value.int .i8 0, Value.int .i8 0, Value.int .i8 0, Value.int .i8 0, Value.int .i8 0, Value.int .i8 0, Value.int .i8 0, Value.int .i8 0, Value.int .i8 0, Value.int .i8 0, Value.int .i64 0, Value.int .i64 0, Value.bool false] 70 (0, 0))) := (setRow_heap_other _ (Nat.ne_of_lt HS5.out)).trans ((Below.heap_alloc w5 _ _ HS5.out).trans HZ5.out)
  have HE6 : Hid (Below w.heap.size w ((w5.alloc (.cells #[Value.int .i8 0, Value.int .i8 0, Value.int .i8 0, Value.int .i8 0, Value.int .i8 0, Value.int .i8 0, Value.int .i8 0, Value.int .i8 0, Value.int .i8 0, Value.int .i8 0, Value.int .i8 0, Value.int .i8 0, Value.int .i64 0, Value.int .i64 0, Value.bool false] 70)).setRow w5.heap.size (addV rR n m b))) := setRow_below (below_boxed HE5.out _) (by have := HS5.out; omega) _
  generalize (w5.alloc (.cells #[Value.int .i8 0, Value.int .i8 0, Value.int .i8 0, Value.int .i8 0, Value.int .i8 0, Value.int .i8 0, Value.int .i8 0, Value.int .i8 0, Value.int .i8 0, Value.int .i8 0, Value.int .i8 0, Value.int .i8 0, Value.int .i64 0, Value.int .i64 0, Value.bool false] 70)).setRow w5.heap.size (addV rR n m b) = w6 at *
  have c14 : w6.cell? ⟨w5.heap.size, 14, none⟩ = some (.bool b) := by
    rw [cell_of_row w6 _ 14 _ _ _ HA6.out]
    exact addV_left HLR.out n m b
  clear HZ5 HE5 H1 H2 H3 HE3 HPL
  cases b
  · obtain rfl : rA = rR := HA0.out rfl
    go_upto_region 4 with (fail)
    go_wp2_with (first
      | (refine wpList_load_row rfl 70 (.tmp 5) rfl w5.heap.size rfl _ _ _ _ HA6.out Tryd.underlying70 rfl HI7.out ?_)
      | (refine wpList_store_row rfl 70 (.tmp 4) (.tmp 17) rfl (w.heap.size + 2) (addV rA n m false) rfl rfl _ _ HZ6.out HI7.out HO7.out add_one_cell ?_))
    refine bodyPost_ret (v := .agg (addV rA n m false)) (results_cell_row rfl _ _ (w.heap.size + 2) 70 _ (0, 0) _ rfl ?_ Tryd.underlying70 rfl HI7.out) rfl ⟨rfl, ?_⟩
    · exact setRow_same _ HZ6.out
    · exact setRow_below HE6.out (by omega) _
  · obtain rfl : rA = rS := HA1.out rfl
    have hfd := fun W => field_reg HLS.out n m2 b2 W
    go_upto_region 4 with (first
      | (refine wpList_load_part rfl 51 (.tmp 11) rfl w5.heap.size rfl _ _ (regV rR n) _ _ HA6.out Tryd.underlying51 rfl HI8.out (addV_part rR n m true) ?_)
      | (go_at_call 63; refine (HT.out _).mono ?_; rintro e w7 ⟨rfl, hb7⟩; have HZ7 := Lib.hid ((hb7.block (w.heap.size + 2) (Array.getElem?_eq_some_iff.1 HZ6.out).1).trans HZ6.out); have HA7 := Lib.hid ((hb7.block w5.heap.size (Array.getElem?_eq_some_iff.1 HA6.out).1).trans HA6.out); have HE7 := Lib.hid (below_step HE6.out hb7); clear hb7)
      | (refine wpList_store_part rfl 51 (.tmp 16) (.tmp 15) rfl w5.heap.size (regV rA n) rfl rfl _ _ (addV rA n m true) HA7.out HI9.out (by rw [regV_size HLS.out, addV_size HLR.out]; omega) reg_one (addV_put HLR.out HLS.out n m true) ?_))
    have HA8 := Lib.hid (setRow_same (addV rA n m true) HA7.out)
    have HZ8 := Lib.hid ((setRow_heap_other (addV rA n m true) (Nat.ne_of_lt HS5.out)).trans HZ7.out)
    have HE8 := Lib.hid (setRow_below HE7.out (g := w5.heap.size) (by have := HS5.out; omega) (addV rA n m true))
    clear hfd c14
    go_wp2_with (first
      | (refine wpList_load_row rfl 70 (.tmp 5) rfl w5.heap.size rfl _ _ _ _ HA8.out Tryd.underlying70 rfl HI10.out ?_)
      | (refine wpList_store_row rfl 70 (.tmp 4) (.tmp 17) rfl (w.heap.size + 2) (addV rA n m true) rfl rfl _ _ HZ8.out HI10.out HO10.out add_one_cell ?_))
    refine bodyPost_ret (v := .agg (addV rA n m true)) (results_cell_row rfl _ _ (w.heap.size + 2) 70 _ (0, 0) _ rfl ?_ Tryd.underlying70 rfl HI10.out) rfl ⟨rfl, ?_⟩
    · exact setRow_same _ HZ8.out
    · exact setRow_below HE8.out (by omega) _

end Go.Proofs.YtkiphejkgpfjjaaDoor
