/- spec.OpenEntries and impl.OpenEntries answer the entries that are joined with no exit: contracts. -/
import Derived.Test.YtpklmhffgbgakaaSources
namespace Go.Proofs.Ytpklmhffgbgakaa
open Go.ChangeShapes Go.WideShapes Go.ChangeAt Go.RowKit Go.Maps Go.WideMaps

/-- whether an entry has no exit -/
def openQ (R : List Int) (E : Nat) (k : Nat) : Bool := (withR R ((E : Int) + (k : Int)) E).length == 0
def openC (e n j : Int) (P : List (Int × Int)) : Int := if boardB e n j P = true then 0 else 1
def openA (e n j : Int) (P : List (Int × Int)) : List Int := if boardB e n j P = true then selTo (openQ (rootsB e n j P) e.toNat) n.toNat else []
theorem openA_length (e n j : Int) (P : List (Int × Int)) : (openA e n j P).length ≤ 1048576 := by
  unfold openA
  by_cases h : boardB e n j P = true
  · rw [if_pos h]
    have := selTo_length (openQ (rootsB e n j P) e.toNat) n.toNat
    obtain ⟨E, N, J, rfl, rfl, _, _, _, _, hN, _⟩ := board_facts h
    have : ((N : Int)).toNat = N := by simp
    omega
  · rw [if_neg h]
    simp

theorem wbox_new (w : World) (e n j : Int) (sl f sp : Value) : Wbox (w.alloc (.cells #[.int .i64 e, .int .i64 n, .int .i64 j, sl, f, sp] 87)) w.heap.size e n j sl f sp := heap_alloc_new w _

set_option maxRecDepth 100000 in
set_option maxHeartbeats 2000000 in
theorem specOpen_any (e n j : Int) (A : Option Addr) (c : Nat) (P : List (Int × Int)) (B : Nat) (w : World) (h : Wires w B A P) (hB : B ≤ w.heap.size) (hn : P.length ≤ 1048576) :
    Calls Try.prog 43 #[.agg #[.int .i64 e, .int .i64 n, .int .i64 j, .slice A P.length c]] w (GivesIC (openA e n j P) (openC e n j P) w) := by
  obtain ⟨i0, hi0, hz0, hz1, hz2⟩ := info_parts info_int64
  have hbx := below_box w (.cells #[.int .i64 e, .int .i64 n, .int .i64 j, .slice A P.length c] 29)
  obtain ⟨c0, c1, c2, c3⟩ := board_cells w e n j (.slice A P.length c) 29
  have hval := l12Ok_any e n j A c P B w.heap.size 0 _ c0 c1 c2 c3 (h.below (hbx.mono hB)) (Nat.le_trans hB hbx.size) hn
  unfold openA openC
  cases hb : boardB e n j P
  · rw [hb] at hval
    simp only [Bool.false_eq_true, if_false]
    obtain ⟨m, hN⟩ : ∃ m, P.length = m := ⟨_, rfl⟩
    rw [hN] at hval hbx ⊢
    have HC := Lib.hid hval
    have HX := Lib.hid hbx
    clear hval hbx c0 c1 c2 c3 h hN hn hb
    go_enter Try.func43, Try.ntmps43
    go_wp2_with (go_at_call 57; refine HC.out.mono ?_; rintro r w1 ⟨rfl, hb⟩; have HB := Lib.hid (below_step HX.out hb); clear hb)
    go_ret2
    exact ⟨none, 0, rfl, HB.out, IAt.nil (Nat.le_refl _)⟩
  · rw [hb] at hval
    simp only [if_true]
    obtain ⟨E, N, J, rfl, rfl, rfl, hE1, hE2, hN1, hN2, hH, hP40, hv, hhub⟩ := board_facts hb
    rw [rootsB_nat]
    have hto : ((E : Int)).toNat = E := by simp
    have hto2 : ((N : Int)).toNat = N := by simp
    rw [hto, hto2]
    have hr := fun (W : World) (hW : Below (w.alloc (.cells #[.int .i64 E, .int .i64 N, .int .i64 J, .slice A P.length c] 29)).heap.size (w.alloc (.cells #[.int .i64 E, .int .i64 N, .int .i64 J, .slice A P.length c] 29)) W) =>
      l12Roots_any E N J (E + N + J) hhub A c P B w.heap.size 0 W (cell_kept c0 hW) (cell_kept c1 hW) (cell_kept c2 hW) (cell_kept c3 hW) (h.below ((below_step hbx hW).mono hB)) (Nat.le_trans hB (below_step hbx hW).size) hP40 (by omega) (by omega) hv
    have hlR : (rootsW (startR (E + N + J)) P).length = E + N + J := by rw [rootsW_length, startR_length]
    obtain ⟨R, hR⟩ : ∃ R, rootsW (startR (E + N + J)) P = R := ⟨_, rfl⟩
    rw [hR] at hlR ⊢
    simp only [hR] at hr
    unfold GivesInts at hr
    obtain ⟨H, hHH⟩ : ∃ H, E + N + J = H := ⟨_, rfl⟩
    rw [hHH] at hlR
    rw [hlR] at hr
    have hwt := fun (g cap : Nat) (ex : List Value) (k : Nat) (hk : k < N) (W : World) (hrow : Row W g R ex) => l12With_any (some ⟨g, 0, none⟩) cap R (E + k) E (g + 1) W hrow.ints hrow.lt (by rw [hlR]; omega) (by rw [hlR]; omega) (by rw [hlR]; omega)
    simp only [Int.natCast_add, hlR] at hwt
    unfold GivesN at hwt
    obtain ⟨m, hN⟩ : ∃ m, P.length = m := ⟨_, rfl⟩
    simp only [hN] at hval hbx hr c0 c1 c2 c3 ⊢
    have k1 : (0 : Int) ≤ (E : Int) := Int.natCast_nonneg _
    have k2 : (E : Int) ≤ 20 := by omega
    have HC := Lib.hid hval
    have HX := Lib.hid hbx
    have HRT := Lib.hid hr
    have HWT := Lib.hid hwt
    clear hval hbx hr hwt h hN hn hb hto hto2 hlR hR hv hhub hP40 hHH hH
    go_enter Try.func43, Try.ntmps43
    go_wp2_with fail
    refine HC.out.mono ?_
    rintro r w1 ⟨rfl, hb⟩
    have HB := Lib.hid hb
    have x0 := cell_kept c0 hb
    have x1 := cell_kept c1 hb
    clear hb c0 c1 c2 c3
    go_wp2_with fail
    refine (HRT.out _ HB.out).mono ?_
    rintro r w2 ⟨g, cap, ex, rfl, hg, hb, hrow⟩
    have HROW := Lib.hid hrow
    have y0 := cell_kept x0 hb
    have y1 := cell_kept x1 hb
    have HB2 := Lib.hid (below_step HX.out (below_step HB.out hb))
    have HE := Lib.hid (empty_owned w2)
    clear hb hrow x0 x1 hg
    go_wp2
    go_loopw [5, 6] (fun v i wr => ∃ k : Nat, ∃ vv : Value, k ≤ N ∧ i = .int .i64 k ∧ vv = v ∧ Hid (wr.ownsRow w2.heap.size 2 1 v (selTo (openQ R E) k).length ((selTo (openQ R E) k).map (Value.int .i64))) ∧ Hid (Below w2.heap.size w2 wr)) (fun _ i _ => N - (intOf i).toNat)
    case atStart => exact ⟨0, _, Nat.zero_le _, rfl, rfl, HE, below_box w2 _⟩
    case round =>
      obtain ⟨k, vv, hk, rfl, rfl, HW, HBR⟩ := hrel
      have k0 : (0 : Int) ≤ (k : Int) := Int.natCast_nonneg _
      have z0 := cell_kept y0 HBR.out
      have z1 := cell_kept y1 HBR.out
      by_cases hlt : k < N
      · have k3 : (k : Int) < (N : Int) := by omega
        have k4 : (k : Int) < 20 := by omega
        have hwt := HWT.out g cap ex k hlt wr (HROW.out.later HBR.out)
        have hlen := selTo_length (openQ R E) k
        have hq : openQ R E k = ((withR R ((E : Int) + (k : Int)) E).length == 0) := rfl
        obtain ⟨L, hL⟩ : ∃ L, withR R ((E : Int) + (k : Int)) E = L := ⟨_, rfl⟩
        rw [hL] at hwt hq
        obtain ⟨l, hl⟩ : ∃ l, L.length = l := ⟨_, rfl⟩
        rw [hl] at hwt hq
        have HWT1 := Lib.hid hwt
        have HOQ := Lib.hid hq
        clear hwt hL hl hq HWT
        rcases Nat.eq_zero_or_pos l with h0 | h0
        · subst h0
          have HI := Lib.hid (selTo_yes (openQ R E) k (by rw [HOQ.out]; rfl))
          obtain ⟨ys, hy⟩ : ∃ ys, selTo (openQ R E) k = ys := ⟨_, rfl⟩
          rw [hy] at HW HI hlen
          clear hy HOQ
          go_wp2_with fail
          refine HWT1.out.mono ?_
          rintro r w3 ⟨A3, cap3, rfl, hb, _⟩
          have HB3 := Lib.hid (below_step HBR.out hb)
          have HW3 : Hid (w3.ownsRow w2.heap.size 2 1 vv ys.length (ys.map (Value.int .i64))) := own_moved HW.out (fun i _ hi => hb.block i hi)
          have hw3 : w2.heap.size ≤ w3.heap.size := HB3.out.size
          clear hb z0 z1
          go_wp2_with (at_builtin; refine wpList_append_own _ rfl _ _ 44 rfl w2.heap.size 2 i0 (.int .i64 0) 1 8 Try.underlying44 hi0 hz0 hz1 hz2 rfl (by decide) _ _ _ rfl (HW3.out.alloc _) ⟨w3.heap.size, 0, none⟩ 1 1 [.int .i64 k] rfl rfl (one_newsB w3 k) (one_onesB k) ?c3 ?c4 ?c5 ?_; rotate_left 3; intro v' w9 hown hgrow _; obtain ⟨ho, hbb⟩ := own_more hown hgrow HW3.out HB3.out (Nat.le_refl _) hw3; have HW9 := Lib.hid ho; have HB9 := Lib.hid hbb; clear hown hgrow ho hbb)
          case c3 => unfold maxLen; omega
          case c4 => omega
          case c5 => simp; omega
          go_roundw
          case rel => exact ⟨k + 1, _, by omega, by go_num, rfl, by rw [HI.out]; exact HW9, HB9⟩
          case measure => simp [intOf]; omega
        · have HI := Lib.hid (selTo_no (openQ R E) k (by rw [HOQ.out]; simp; omega))
          have g0 : ((l : Int) == 0) = false := by simp; omega
          clear HOQ
          go_wp2_with fail
          refine HWT1.out.mono ?_
          rintro r w3 ⟨A3, cap3, rfl, hb, _⟩
          have HB3 := Lib.hid (below_step HBR.out hb)
          have HW3 : Hid (w3.ownsRow w2.heap.size 2 1 vv (selTo (openQ R E) k).length ((selTo (openQ R E) k).map (Value.int .i64))) := own_moved HW.out (fun i _ hi => hb.block i hi)
          clear hb z0 z1
          go_wp2
          go_roundw
          case rel => exact ⟨k + 1, _, by omega, by go_num, rfl, by rw [HI.out]; exact HW3, HB3⟩
          case measure => simp [intOf]; omega
      · obtain rfl : k = N := by omega
        have k3 : ¬ (k : Int) < (k : Int) := by omega
        have HG := Lib.hid (gives_nn (W := w) HW.out (below_step HB2.out HBR.out) HB2.out.size)
        clear HW HWT
        go_wp2
        go_ret2
        obtain ⟨A9, cap9, hv9, hb9, hi9⟩ := HG.out
        have hv9 := Ending.returned.inj hv9
        exact ⟨A9, cap9, by rw [← hv9]; rfl, hb9, hi9⟩

set_option maxRecDepth 100000 in
set_option maxHeartbeats 2000000 in
theorem implOpen_any (e n j : Int) (A : Option Addr) (c : Nat) (P : List (Int × Int)) (B : Nat) (w : World) (h : Wires w B A P) (hB : B ≤ w.heap.size) (hn : P.length ≤ 1048576) :
    Calls Try.prog 44 #[.agg #[.int .i64 e, .int .i64 n, .int .i64 j, .slice A P.length c]] w (GivesIC (openA e n j P) (openC e n j P) w) := by
  obtain ⟨i0, hi0, hz0, hz1, hz2⟩ := info_parts info_int64
  have hbx := below_box w (.cells #[.int .i64 e, .int .i64 n, .int .i64 j, .slice A P.length c] 29)
  obtain ⟨c0, c1, c2, c3⟩ := board_cells w e n j (.slice A P.length c) 29
  have hval := implValidBoard_any e n j A c P B _ (h.below (hbx.mono hB)) (Nat.le_trans hB hbx.size) hn
  unfold openA openC
  cases hb : boardB e n j P
  · rw [hb] at hval
    simp only [Bool.false_eq_true, if_false]
    obtain ⟨m, hN⟩ : ∃ m, P.length = m := ⟨_, rfl⟩
    rw [hN] at hval hbx ⊢
    have HC := Lib.hid hval
    have HX := Lib.hid hbx
    clear hval hbx c0 c1 c2 c3 h hN hn hb
    go_enter Try.func44, Try.ntmps44
    go_wp2_with (go_at_call 18; refine HC.out.mono ?_; rintro r w1 ⟨rfl, hb⟩; have HB := Lib.hid (below_step HX.out hb); clear hb)
    go_ret2
    exact ⟨none, 0, rfl, HB.out, IAt.nil (Nat.le_refl _)⟩
  · rw [hb] at hval
    simp only [if_true]
    obtain ⟨E, N, J, rfl, rfl, rfl, hE1, hE2, hN1, hN2, hH, hP40, hv, hhub⟩ := board_facts hb
    rw [rootsB_nat]
    have hto : ((E : Int)).toNat = E := by simp
    have hto2 : ((N : Int)).toNat = N := by simp
    rw [hto, hto2]
    have hwi := fun (W : World) (hW : Below w.heap.size w W) => wiring_ok (E := E) (N := N) (J := J) (A := A) (c := c) (w := W) (h.below (hW.mono hB)) (Nat.le_trans hB hW.size) hP40 hH hv
    have hok := roots_ok hv
    have hlR : (rootsW (startR (E + N + J)) P).length = E + N + J := by rw [rootsW_length, startR_length]
    obtain ⟨R, hR⟩ : ∃ R, rootsW (startR (E + N + J)) P = R := ⟨_, rfl⟩
    rw [hR] at hlR hok ⊢
    simp only [hR] at hwi
    have hso := fun (sl sp : Value) (b m k : Nat) (hk : k < N) (W : World) (hF : Forest W b m R) => sourcesOf_any E N J sl sp b m R k W hF hok (by omega) (by omega) (by omega)
    unfold GivesN at hso
    unfold GivesWiring at hwi
    obtain ⟨m, hN⟩ : ∃ m, P.length = m := ⟨_, rfl⟩
    obtain ⟨Z, hZ⟩ : ∃ Z, spareW (startR (E + N + J)) P P.length = Z := ⟨_, rfl⟩
    simp only [hZ] at hwi
    simp only [hN] at hval hbx hwi c0 c1 c2 c3 ⊢
    obtain ⟨z, hz⟩ : ∃ z, Z.length = z := ⟨_, rfl⟩
    simp only [hz] at hwi
    have HC := Lib.hid hval
    have HX := Lib.hid hbx
    have HWI := Lib.hid hwi
    have HSO := Lib.hid hso
    clear hval hbx hwi hso h hN hn hb hto hto2 hlR hR hv hhub hP40 hZ hok hz hH
    go_enter Try.func44, Try.ntmps44
    go_wp2_with fail
    refine HC.out.mono ?_
    rintro r w1 ⟨rfl, hb⟩
    have HB := Lib.hid (below_step HX.out hb)
    have x0 := cell_kept c0 hb
    have x1 := cell_kept c1 hb
    have x2 := cell_kept c2 hb
    have x3 := cell_kept c3 hb
    clear hb c0 c1 c2 c3
    go_wp2_with fail
    refine (HWI.out _ HB.out).mono ?_
    rintro r w2 ⟨mb, fm, A2, cap2, rfl, hmb, hb, hF, hI⟩
    have HB2 := Lib.hid (below_step HB.out hb)
    have hbx2 := below_box w2 (.cells #[.int .i64 E, .int .i64 N, .int .i64 J, .slice A m c, .map (some mb), .slice A2 z cap2] 87)
    have hwb := wbox_new w2 E N J (.slice A m c) (.map (some mb)) (.slice A2 z cap2)
    have hF3 := hF.later hbx2
    obtain ⟨w3, hw3⟩ : ∃ W, w2.alloc (.cells #[.int .i64 E, .int .i64 N, .int .i64 J, .slice A m c, .map (some mb), .slice A2 z cap2] 87) = W := ⟨_, rfl⟩
    rw [hw3] at hbx2 hwb hF3
    have HF3 := Lib.hid hF3
    have HWB := Lib.hid hwb
    obtain ⟨v0, v1, v2, v3, v4, v5⟩ := hwb.cells
    have HB3 := Lib.hid (below_step HB2.out hbx2)
    clear hb hF hI hmb x0 x1 x2 x3 hbx2 hwb hF3
    go_wp2
    go_loopw [5, 15] (fun v i wr => ∃ k : Nat, ∃ vv : Value, k ≤ N ∧ i = .int .i64 k ∧ vv = v ∧ Hid (wr.ownsRow w3.heap.size 2 1 v (selTo (openQ R E) k).length ((selTo (openQ R E) k).map (Value.int .i64))) ∧ Hid (Below w3.heap.size w3 wr)) (fun _ i _ => N - (intOf i).toNat)
    case atStart => exact ⟨0, _, Nat.zero_le _, rfl, rfl, nil_owned _ _, Below.refl _ _⟩
    case round =>
      obtain ⟨k, vv, hk, rfl, rfl, HW, HBR⟩ := hrel
      have k0 : (0 : Int) ≤ (k : Int) := Int.natCast_nonneg _
      obtain ⟨y0, y1, y2, y3, y4, y5⟩ := (HWB.out.later HBR.out).cells
      by_cases hlt : k < N
      · have k3 : (k : Int) < (N : Int) := by omega
        have hso := HSO.out (.slice A m c) (.slice A2 z cap2) mb fm k hlt wr (HF3.out.later HBR.out)
        have hlen := selTo_length (openQ R E) k
        have hq : openQ R E k = ((withR R ((E : Int) + (k : Int)) E).length == 0) := rfl
        obtain ⟨L, hL⟩ : ∃ L, withR R ((E : Int) + (k : Int)) E = L := ⟨_, rfl⟩
        rw [hL] at hso hq
        obtain ⟨l, hl⟩ : ∃ l, L.length = l := ⟨_, rfl⟩
        rw [hl] at hso hq
        have HSO1 := Lib.hid hso
        have HOQ := Lib.hid hq
        clear hso hL hl hq HSO
        rcases Nat.eq_zero_or_pos l with h0 | h0
        · subst h0
          have HI := Lib.hid (selTo_yes (openQ R E) k (by rw [HOQ.out]; rfl))
          obtain ⟨ys, hy⟩ : ∃ ys, selTo (openQ R E) k = ys := ⟨_, rfl⟩
          rw [hy] at HW HI hlen
          clear hy HOQ
          go_wp2_with fail
          refine HSO1.out.mono ?_
          rintro r w4 ⟨A3, cap3, rfl, hb, _⟩
          have HB4 := Lib.hid (below_step HBR.out hb)
          have HW4 : Hid (w4.ownsRow w3.heap.size 2 1 vv ys.length (ys.map (Value.int .i64))) := own_moved HW.out (fun i _ hi => hb.block i hi)
          have hw4 : w3.heap.size ≤ w4.heap.size := HB4.out.size
          clear hb y0 y1 y2 y3 y4 y5
          go_wp2_with (at_builtin; refine wpList_append_own _ rfl _ _ 44 rfl w3.heap.size 2 i0 (.int .i64 0) 1 8 Try.underlying44 hi0 hz0 hz1 hz2 rfl (by decide) _ _ _ rfl (HW4.out.alloc _) ⟨w4.heap.size, 0, none⟩ 1 1 [.int .i64 k] rfl rfl (one_newsB w4 k) (one_onesB k) ?c3 ?c4 ?c5 ?_; rotate_left 3; intro v' w9 hown hgrow _; obtain ⟨ho, hbb⟩ := own_more hown hgrow HW4.out HB4.out (Nat.le_refl _) hw4; have HW9 := Lib.hid ho; have HB9 := Lib.hid hbb; clear hown hgrow ho hbb)
          case c3 => unfold maxLen; omega
          case c4 => omega
          case c5 => simp; omega
          go_roundw
          case rel => exact ⟨k + 1, _, by omega, by go_num, rfl, by rw [HI.out]; exact HW9, HB9⟩
          case measure => simp [intOf]; omega
        · have HI := Lib.hid (selTo_no (openQ R E) k (by rw [HOQ.out]; simp; omega))
          have g0 : ((l : Int) == 0) = false := by simp; omega
          clear HOQ
          go_wp2_with fail
          refine HSO1.out.mono ?_
          rintro r w4 ⟨A3, cap3, rfl, hb, _⟩
          have HB4 := Lib.hid (below_step HBR.out hb)
          have HW4 : Hid (w4.ownsRow w3.heap.size 2 1 vv (selTo (openQ R E) k).length ((selTo (openQ R E) k).map (Value.int .i64))) := own_moved HW.out (fun i _ hi => hb.block i hi)
          clear hb y0 y1 y2 y3 y4 y5
          go_wp2
          go_roundw
          case rel => exact ⟨k + 1, _, by omega, by go_num, rfl, by rw [HI.out]; exact HW4, HB4⟩
          case measure => simp [intOf]; omega
      · obtain rfl : k = N := by omega
        have k3 : ¬ (k : Int) < (k : Int) := by omega
        have HG := Lib.hid (gives_nn (W := w) HW.out (below_step HB3.out HBR.out) HB3.out.size)
        clear HW HSO
        go_wp2
        go_ret2
        obtain ⟨A9, cap9, hv9, hb9, hi9⟩ := HG.out
        have hv9 := Ending.returned.inj hv9
        exact ⟨A9, cap9, by rw [← hv9]; rfl, hb9, hi9⟩
end Go.Proofs.Ytpklmhffgbgakaa
