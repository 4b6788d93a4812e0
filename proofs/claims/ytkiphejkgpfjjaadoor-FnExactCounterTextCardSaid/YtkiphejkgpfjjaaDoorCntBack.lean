/- slices.Backward over the digits of a register: what it yields; impl's number, spec.NumberShown and impl.NumberShown: contracts. -/
import Derived.Test.YtkiphejkgpfjjaaDoorCntCompl
import Derived.RangeFuncNested
import Derived.RangeFuncBound
import Derived.RangeFuncCalls
import Derived.RangeFuncLeaves
import Derived.Shelf.Abstract
import Derived.Shelf.RegionOpen
import Derived.WalkKit
import Derived.OwnWalkIn
import Derived.TacticsInMore
import Derived.LoopNIn
import Derived.LoopIn
import Derived.Maps.AppendAt
import Derived.RangeFuncBox
import Derived.OwnWalk
namespace Go.Proofs.YtkiphejkgpfjjaaDoor
open Go.ChangeShapes Go.WideShapes Go.ChangeAt Go.RowKit

attribute [local go_sem] Oper.semAt_some

/-- what a round keeps: what lay below n₀, and the box of the slice -/
def KpI (n₀ Bs : Nat) (v : Value) (W W' : World) : Prop := Below n₀ W W' ∧ (Boxed W Bs 109 v → Boxed W' Bs 109 v)
theorem kpI_t {n₀ Bs : Nat} {v : Value} {A B C : World} (h : KpI n₀ Bs v A B) (k : KpI n₀ Bs v B C) : KpI n₀ Bs v A C := ⟨h.1.trans k.1, fun hb => k.2 (h.2 hb)⟩
theorem kpI_b {n₀ Bs : Nat} {v : Value} {w : World} (hn : n₀ ≤ w.heap.size) (hs : Bs < w.heap.size) (W : World) (l : Nat) (o o' : Obj) (hl : w.heap.size ≤ l) (h : W.heap[l]? = some o) (_ : o.isCells = false) (_ : o.isWalk = false) : KpI n₀ Bs v W (W.putObj l o') :=
  ⟨(Below.refl n₀ W).grown (grownBy_putObj' W l o') (by have := (Array.getElem?_eq_some_iff.1 h).1; omega) (fun k e => by cases e; omega), fun hb => hb.kept (grownBy_putObj' W l o') (by simp; omega)⟩
theorem boxed_laterI {W W' : World} {B : Nat} {t : TypeId} {v : Value} (h : Boxed W B t v) (hb : Below W.heap.size W W') : Boxed W' B t v := (hb.block B h.lt).trans h

theorem backward_any (A : Option Addr) (n c : Nat) (w : World) :
    Calls Tryd.prog 66 #[.slice A n c] w fun e w' => e = .returned (.func (.func 79) #[] #[.pointer (some ⟨w.heap.size, 0, none⟩)]) ∧ w' = w.alloc (.cells #[.slice A n c] 109) := by
  go_enter Tryd.func66, Tryd.ntmps66
  go_wp2
  go_ret
  exact ⟨rfl, rfl⟩

/-- the digit that comes in the t-th round, with its place -/
def backE (n : Nat) (xs : List Int) (t : Nat) : Array Value := #[.int .i64 ((n : Int) - 1 - t), .int .i8 (xs[n - 1 - t]?.getD 0)]

set_option maxRecDepth 100000 in
set_option maxHeartbeats 4000000 in
theorem back_stops {xs : List Int} {n c g n₀ : Nat} {w0 : World} (hn : xs.length = n) (h12 : n ≤ 12) (hg : g < n₀) (hc : ∀ k, k < n → w0.cell? ⟨g, k, none⟩ = some (.int .i8 (xs[k]?.getD 0))) (w : World) (hw : Below n₀ w0 w) (hn0 : n₀ ≤ w.heap.size) (Bs : Nat) (hb : Boxed w Bs 109 (.slice (some ⟨g, 0, none⟩) n c)) :
    SeqStopsK Fence.wide 5 Tryd.prog 79 #[.pointer (some ⟨Bs, 0, none⟩)] (backE n xs) (KpI n₀ Bs (.slice (some ⟨g, 0, none⟩) n c)) (fun ys => ys = List.range n) (fun _ => True) n w := fun l J Jx W hW hJ hJx hY h0 => by
  have HE := Lib.hid hc
  have HG := Lib.hid hg
  have HBW := Lib.hid (hw.trans (hW.mono hn0))
  have HBX := Lib.hid (boxed_laterI hb hW)
  have HJ := Lib.hid hJ
  have HY : Hid (∀ pre x W1, J pre W1 → pre.length < n → YieldAt Fence.wide (5 - 1) Tryd.prog l #[.int .i64 ((n : Int) - 1 - (x : Nat)), .int .i8 (xs[n - 1 - x]?.getD 0)] W1 fun e W' => (e = .returned (.bool true) ∧ J (pre ++ [x]) W' ∧ KpI n₀ Bs (.slice (some ⟨g, 0, none⟩) n c) W1 W') ∨ (e = .returned (.bool false) ∧ Jx (pre ++ [x]) W')) := hY
  have y0 := HBX.out.cell
  have w1 : IntKind.i64.wrap ((n : Int) - 1) = (n : Int) - 1 := IntWalk.i64_in _ (by omega)
  clear hc hg hw hb hW hJ hJx hY hn
  refine callsIn_of_wp Tryd.func79 rfl trivial ?_ rfl
  simp only [Tryd.ntmps79, List.size_toArray, List.length_cons, List.length_nil, Nat.reduceAdd, Nat.reduceSub, Array.replicate_succ, Array.replicate_zero, List.push_toArray, List.append_toArray, List.nil_append, List.cons_append]
  gi_wp2
  clear y0 w1
  gi_loopw [3] (fun x wr => ∃ t : Nat, t ≤ n ∧ x = .int .i64 ((n : Int) - 1 - t) ∧ J (List.range t) wr ∧ Hid (Below n₀ w0 wr) ∧ Hid (Boxed wr Bs 109 (.slice (some ⟨g, 0, none⟩) n c))) (fun x _ => (intOf x + 1).toNat)
  case atStart => exact ⟨0, Nat.zero_le _, by simp, h0, HBW, HBX⟩
  case round =>
    obtain ⟨t, ht, rfl, hJt, HB, HX⟩ := hrel
    by_cases hlt : t < n
    · obtain ⟨k, hk⟩ : ∃ k : Nat, n - 1 - t = k := ⟨_, rfl⟩
      have hki : (n : Int) - 1 - (t : Int) = (k : Int) := by omega
      have x0 := HE.out k (by omega)
      have x1 : wr.cell? ⟨g, k, none⟩ = _ := (HB.out.cell (p := ⟨g, k, none⟩) HG.out).trans x0
      obtain ⟨fn, tmps, assign, body, hy, hR⟩ := HY.out _ t _ hJt (by simp; omega)
      rw [hk, hki] at hy
      obtain ⟨d, hd⟩ : ∃ d, xs[k]?.getD 0 = d := ⟨_, rfl⟩
      rw [hd] at x1 hy
      have y1 := HX.out.cell
      have j0 : (0 : Int) ≤ (k : Int) := Int.natCast_nonneg _
      have j1 : (k : Int) < (n : Int) := by omega
      have w2 : IntKind.i64.wrap ((k : Int) - 1) = (k : Int) - 1 := IntWalk.i64_in _ (by omega)
      rw [hki]
      clear x0 hd
      gi_wp2
      refine hR.mono ?_
      rintro e W3 (⟨rfl, hJ3, hk3⟩ | ⟨rfl, hJx3⟩)
      · have hB3 := Lib.hid (HB.out.trans hk3.1)
        have hX3 := Lib.hid (hk3.2 HX.out)
        clear hk3 hy hR y1 x1
        gi_wp2
        go_roundw
        case rel => exact ⟨t + 1, by omega, by congr 1; omega, by rw [List.range_succ]; exact hJ3, hB3, hX3⟩
        case measure => first | (simp [intOf]; done) | (simp [intOf]; omega)
      · gi_wp2
        refine bodyPost_ret (results_none rfl _ _ _) rfl ?_
        exact ⟨⟨_, rfl⟩, .inr ⟨_, trivial, hJx3⟩⟩
    · obtain rfl : t = n := by omega
      have hki : (t : Int) - 1 - (t : Int) = -1 := by omega
      rw [hki]
      gi_wp2
      go_end0
      exact ⟨⟨_, rfl⟩, .inl ⟨_, rfl, hJt⟩⟩

/-- the number of the digits that have come, by their rounds -/
def foldV (xs : List Int) (n : Nat) (pre : List Nat) : Int := pre.foldl (fun a t => 10 * a + (xs[n - 1 - t]?.getD 0)) 0
theorem foldV_snoc (xs : List Int) (n : Nat) (pre : List Nat) (t : Nat) : foldV xs n (pre ++ [t]) = 10 * foldV xs n pre + (xs[n - 1 - t]?.getD 0) := by simp [foldV]
theorem foldl_bounds {xs : List Int} (h : wheelsB xs = true) (n : Nat) : ∀ (pre : List Nat) (a p : Int), 0 ≤ a → a < p → 0 ≤ pre.foldl (fun a t => 10 * a + (xs[n - 1 - t]?.getD 0)) a ∧ pre.foldl (fun a t => 10 * a + (xs[n - 1 - t]?.getD 0)) a < p * p10 pre.length
  | [], a, p, h0, h1 => by simp [p10_zero]; omega
  | t :: pre, a, p, h0, h1 => by
    have hd := wheels_at h (n - 1 - t)
    have := foldl_bounds h n pre (10 * a + (xs[n - 1 - t]?.getD 0)) (10 * p) (by omega) (by omega)
    rw [List.foldl_cons, List.length_cons, p10_succ, ← Int.mul_assoc, Int.mul_comm p 10]
    exact this
theorem foldV_bounds {xs : List Int} (h : wheelsB xs = true) (n : Nat) {pre : List Nat} (hl : pre.length ≤ 12) : 0 ≤ foldV xs n pre ∧ foldV xs n pre < 1000000000000 := by
  have := foldl_bounds h n pre 0 1 (by omega) (by omega)
  have hp := p10_mono hl
  rw [p10_12] at hp
  exact ⟨this.1, by have := this.2; unfold foldV; omega⟩
theorem foldV_range (xs : List Int) : ∀ t, t ≤ xs.length → foldV xs xs.length (List.range t) = numOf (xs.drop (xs.length - t))
  | 0, _ => by simp [foldV, numOf]
  | t + 1, h => by
    have h1 : xs.length - 1 - t < xs.length := by omega
    rw [List.range_succ, foldV_snoc, foldV_range xs t (by omega), show xs.length - (t + 1) = xs.length - 1 - t by omega, List.drop_eq_getElem_cons h1, numOf, List.getElem?_eq_getElem h1, show xs.length - 1 - t + 1 = xs.length - t by omega, Option.getD_some]
    omega
theorem foldV_all (xs : List Int) : foldV xs xs.length (List.range xs.length) = numOf xs := by
  rw [foldV_range xs _ (Nat.le_refl _)]
  simp

set_option maxRecDepth 100000 in
set_option maxHeartbeats 4000000 in
theorem regNumber_any (xs : List Int) (w : World) (hv : wheelsB xs = true) (hn : xs.length ≤ 12) :
    Calls Tryd.prog 49 #[.agg (regV (reg12 xs) xs.length)] w fun e w' => e = .returned (.int .i64 (numOf xs)) ∧ Below w.heap.size w w' := by
  obtain ⟨n, hN⟩ : ∃ n, xs.length = n := ⟨_, rfl⟩
  obtain ⟨r, hr⟩ : ∃ r, numOf xs = r := ⟨_, rfl⟩
  have HRR := Lib.hid hr
  rw [hr]
  rw [hN] at hn ⊢
  clear hr
  obtain ⟨w1, hW1⟩ : ∃ W, w.alloc (.cells (regV (reg12 xs) n) 51) = W := ⟨_, rfl⟩
  have hl12 : (reg12 xs).length = 12 := reg12_length (by omega)
  have R1a := RegRow.new w (reg12 xs) n
  have e1 := below_box w (.cells (regV (reg12 xs) n) 51)
  have hs1 : w1.heap.size = w.heap.size + 1 := by rw [← hW1]; simp
  rw [hW1] at R1a e1
  have bN := Boxed.new w1 2 (.int .i64 0)
  have p12 := (R1a.later (below_box w1 (.cells #[.int .i64 0] 2))).count hl12
  have HC : Hid (∀ k, k < n → w1.cell? ⟨w.heap.size, k, none⟩ = some (.int .i8 (xs[k]?.getD 0))) := fun k hk => by
    rw [R1a.cell (by rw [hl12]; omega), reg12_get k (by rw [hN]; exact hk)]
  have HN := Lib.hid hN
  have HV := Lib.hid hv
  have E1 := Lib.hid e1
  have h12i : (n : Int) ≤ 12 := by omega
  clear hl12 R1a e1 hN hv
  refine (callsIn_wide (n := 6)).1 ?_
  refine callsIn_of_wp_marks Tryd.func49 rfl trivial ?_ rfl
  simp only [Tryd.ntmps49, List.size_toArray, List.length_cons, List.length_nil, Nat.reduceAdd, Nat.reduceSub, Array.replicate_succ, Array.replicate_zero, List.push_toArray, List.append_toArray, List.nil_append, List.cons_append]
  gi_wp2_with (first
      | (refine ⟨trivial, ?_⟩; gi_at_call 66; refine (callsIn_wide.2 (backward_any _ _ _ _)).mono ?_; rintro e w2 ⟨rfl, rfl⟩))
  have bS := Boxed.new (w1.alloc (.cells #[.int .i64 0] 2)) 109 (.slice (some ⟨w.heap.size, 0, none⟩) n 12)
  have bN2 := bN.alloc (.cells #[.slice (some ⟨w.heap.size, 0, none⟩) n 12] 109)
  have hb0 : Below w1.heap.size w1 ((w1.alloc (.cells #[.int .i64 0] 2)).alloc (.cells #[.slice (some ⟨w.heap.size, 0, none⟩) n 12] 109)) := (below_box w1 _).alloc (by simp) _
  have hsz : ((w1.alloc (.cells #[.int .i64 0] 2)).alloc (.cells #[.slice (some ⟨w.heap.size, 0, none⟩) n 12] 109)).heap.size = w.heap.size + 3 := by simp; omega
  rw [World.size_alloc, hs1] at bS
  rw [hs1] at bN2 hb0
  clear bN p12
  generalize ((w1.alloc (.cells #[.int .i64 0] 2)).alloc (.cells #[.slice (some ⟨w.heap.size, 0, none⟩) n 12] 109)) = W0 at *
  have hst := back_stops (n₀ := w.heap.size + 1) HN.out hn (by omega) HC.out W0 hb0 (by omega) (w.heap.size + 1 + 1) bS
  refine wpIn_rangeFunc_ownF rfl (by omega) (gf := 79) (lb := #[.pointer (some ⟨w.heap.size + 1 + 1, 0, none⟩)]) rfl trivial (enters_of Tryd.func79 (by kernel_rfl) rfl) hst kpI_t (kpI_b (by omega) (by omega)) (Below.refl _ _) (fun _ => rfl)
    (fun pre W => Boxed W (w.heap.size + 1) 2 (.int .i64 (foldV xs n pre)) ∧ Below (w.heap.size + 1) w1 W ∧ Boxed W (w.heap.size + 1 + 1) 109 (.slice (some ⟨w.heap.size, 0, none⟩) n 12))
    (fun _ _ _ => False)
    (OwnFrom.and (Own.from (boxed_own _ _ (fun pre => .int .i64 (foldV xs n pre))) _) (OwnFrom.and (ownFrom_below (by omega) (by omega)) (Own.from (boxed_own _ _ (fun _ => .slice (some ⟨w.heap.size, 0, none⟩) n 12)) _)))
    (fun _ _ _ _ _ hs _ _ => hs)
    ⟨bN2, hb0, bS⟩
    (fun x => { tmps := #[.agg (regV (reg12 xs) n), .pointer (some ⟨w.heap.size, 0, none⟩), .int .i64 0, .pointer (some ⟨w.heap.size + 1, 0, none⟩), undef, .int .i8 (xs[n - 1 - x]?.getD 0), .pointer (some ⟨w.heap.size, 0, none⟩), .pointer (some ⟨w.heap.size, 12, none⟩), .int .i64 n, .slice (some ⟨w.heap.size, 0, none⟩) n 12, .func (.func 79) #[] #[.pointer (some ⟨w.heap.size + 1 + 1, 0, none⟩)], .int .i64 ((n : Int) - 1 - x), .int .i8 (xs[n - 1 - x]?.getD 0), undef, undef, undef, undef, undef, undef], defers := [] }) ?assign ?body ?done ?stop
  case assign =>
    intro l x W K hK
    simp only [backE]
    gi_wp2
    exact hK
  case body =>
    rintro l pre x W ⟨hv, hB, hX⟩ hlt
    have hc := hv.cell
    have hf := hv.frozen
    have hbd := foldV_bounds HV.out n (pre := pre) (by omega)
    have hd := wheels_at HV.out (n - 1 - x)
    have hsn := Lib.hid (foldV_snoc xs n pre x)
    have w10 : IntKind.i64.wrap (10 * foldV xs n pre) = 10 * foldV xs n pre := IntWalk.i64_in _ (by omega)
    have w8 : IntKind.i64.wrap (xs[n - 1 - x]?.getD 0) = xs[n - 1 - x]?.getD 0 := IntWalk.i64_in _ (by omega)
    have w11 : IntKind.i64.wrap (10 * foldV xs n pre + xs[n - 1 - x]?.getD 0) = 10 * foldV xs n pre + xs[n - 1 - x]?.getD 0 := IntWalk.i64_in _ (by omega)
    obtain ⟨d, hdd⟩ : ∃ d, xs[n - 1 - x]?.getD 0 = d := ⟨_, rfl⟩
    obtain ⟨V, hVV⟩ : ∃ V, foldV xs n pre = V := ⟨_, rfl⟩
    rw [hdd] at w8 w11 hsn ⊢
    rw [hVV] at hc w10 w11 hsn
    clear hst hbd hd hdd hVV
    gi_wp2
    exact ⟨KeepsOthers.setCell _ _ _, ⟨(Below.refl _ _).setCell (by show w.heap.size + 1 ≤ w.heap.size + 1; omega) _, fun h => h.other (by omega) _⟩, by rw [hsn.out]; exact hv.set _, hB.trans ((Below.refl _ _).setCell (by show w.heap.size + 1 ≤ w.heap.size + 1; omega) _), hX.other (by omega) _⟩
  case done =>
    rintro Dd ys W hD rfl ⟨hv, hB, hX⟩ hK
    have hall : foldV xs n (List.range n) = numOf xs := by
      have := foldV_all xs
      rwa [HN.out] at this
    rw [hall] at hv
    have hc := hv.cell
    have hb9 : Below (w.heap.size + 1) w1 (W.putObj Dd (.deferred none)) := hB.trans (belowK_b (w := W0) (by omega) W Dd _ _ hD hK rfl rfl)
    have HB9 := Lib.hid (E1.out.trans (hb9.mono (by omega)))
    have HKD := Lib.hid hK
    rw [HRR.out] at hc
    clear hst hv hX hB hK hb9 hall
    gi_wp2
    refine ⟨by simp, .inl ⟨_, _, rfl, run_takeDeferred HKD.out, ?_⟩⟩
    exact ⟨.int .i64 r, (by simp [results, Tryd.results49, go_sem]), rfl, HB9.out⟩
  case stop =>
    rintro Dd cc pre W _ _ h _
    exact h.elim

theorem wheelsB_drop {xs : List Int} (h : wheelsB xs = true) (k : Nat) : wheelsB (xs.drop k) = true := by
  rw [wheelsB, List.all_eq_true] at h ⊢
  exact fun x hx => h x (List.mem_of_mem_drop hx)
theorem numOf_drop {xs : List Int} {k : Nat} (h : k < xs.length) : numOf (xs.drop k) = xs[k]?.getD 0 + 10 * numOf (xs.drop (k + 1)) := by
  rw [List.drop_eq_getElem_cons h, numOf, List.getElem?_eq_getElem h]
  rfl

theorem l11Value_any (A : Option Addr) (c : Nat) (xs : List Int) (B p o : Nat) (w : World) (hp : w.cell? ⟨p, o, none⟩ = some (.slice A xs.length c)) (h : Ints w B A xs) (hv : wheelsB xs = true) (hn : xs.length ≤ 12) :
    Calls Tryd.prog 46 #[.pointer (some ⟨p, o, none⟩)] w fun e w' => e = .returned (.int .i64 (numOf xs)) ∧ w = w' := by
  obtain ⟨n, hN⟩ : ∃ n, xs.length = n := ⟨_, rfl⟩
  obtain ⟨r, hr⟩ : ∃ r, numOf xs = r := ⟨_, rfl⟩
  rw [hr]
  rw [hN] at hn hp
  have H := Lib.hid h
  have HN := Lib.hid hN
  have HV := Lib.hid hv
  have HR := Lib.hid hr
  have w1 : IntKind.i64.wrap ((n : Int) - 1) = (n : Int) - 1 := IntWalk.i64_in _ (by omega)
  clear h hN hv hr
  go_enter Tryd.func46, Tryd.ntmps46
  go_wp2
  clear w1
  go_loop [3, 4] (fun v i => ∃ k : Nat, k ≤ n ∧ i = .int .i64 ((k : Int) - 1) ∧ v = .int .i64 (numOf (xs.drop k))) (fun _ i => (intOf i + 1).toNat)
  case atStart => exact ⟨n, Nat.le_refl _, rfl, by rw [List.drop_of_length_le (by rw [HN.out]; exact Nat.le_refl _)]; rfl⟩
  case round =>
    obtain ⟨k, hk, rfl, rfl⟩ := hrel
    rcases Nat.eq_zero_or_pos k with rfl | hpos
    · rw [List.drop_zero, HR.out]
      go_wp2
      go_ret
      exact ⟨rfl, rfl⟩
    · obtain ⟨t, rfl⟩ : ∃ t, k = t + 1 := ⟨k - 1, by omega⟩
      have hx : t < xs.length := by rw [HN.out]; omega
      obtain ⟨b, off, rfl, hb, hcell⟩ := H.out (by omega)
      have h1 := hcell t hx
      have hd := wheels_at HV.out t
      have hst := numOf_drop hx
      have hbd := num_bounds (wheelsB_drop HV.out (t + 1))
      have hpw := p10_mono (show (xs.drop (t + 1)).length ≤ 12 by rw [List.length_drop, HN.out]; omega)
      rw [p10_12] at hpw
      obtain ⟨x, hxx⟩ : ∃ x, xs[t]?.getD 0 = x := ⟨_, rfl⟩
      obtain ⟨v, hvv⟩ : ∃ v, numOf (xs.drop (t + 1)) = v := ⟨_, rfl⟩
      rw [hvv] at hbd hst ⊢
      rw [hxx] at h1 hd hst
      have HST := Lib.hid hst
      have hti : ((t + 1 : Nat) : Int) - 1 = (t : Int) := by omega
      rw [hti]
      have j0 : (0 : Int) ≤ (t : Int) := Int.natCast_nonneg _
      have j1 : (t : Int) < (n : Int) := by omega
      have w2 : IntKind.i64.wrap ((t : Int) - 1) = (t : Int) - 1 := IntWalk.i64_in _ (by omega)
      have w10 : IntKind.i64.wrap (10 * v) = 10 * v := IntWalk.i64_in _ (by omega)
      have w11 : IntKind.i64.wrap (10 * v + x) = 10 * v + x := IntWalk.i64_in _ (by omega)
      clear hcell hxx hvv hbd hst hpw hd hx hti H
      go_wp2
      go_round
      case rel => exact ⟨t, by omega, rfl, by rw [HST.out, Int.add_comm]⟩
      case measure => first | (simp [intOf]; done) | (simp [intOf]; omega)

/-- the number that is told -/
def shownV (xs : List Int) : Int := if okK xs = true then numOf xs else 0

end Go.Proofs.YtkiphejkgpfjjaaDoor
