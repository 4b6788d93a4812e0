/- The places of a deck for which something holds of how a card compares with the one before it: impl.orders, impl.placesWhere at the two functions with which it is called, impl.SequenceErrors and impl.GroupsOf: contracts. -/
import Derived.Test.YtmdamciheekeoaaDoorG2
import Derived.Test.YtmdamciheekeoaaDoorColMath
import Derived.Test.YtmdamciheekeoaaDoorIntsAt
import Derived.Test.YtmdamciheekeoaaDoorGrow
import Derived.RangeFuncNested
import Derived.RangeFuncBound
import Derived.RangeFuncCalls
import Derived.RangeFuncLeaves
import Derived.Shelf.Abstract
import Derived.Shelf.RegionOpen
import Derived.WalkKit
import Derived.OwnWalkIn
import Derived.TacticsInMore
import Derived.LoopNIn
import Derived.LoopIn
import Derived.Maps.AppendAt
import Derived.RangeFuncBox
namespace Go.Proofs.YtmdamciheekeoaaDoor
open Go.ChangeShapes Go.WideShapes Go.ChangeAt Go.RowKit

attribute [local go_sem] Oper.semAt_some

set_option maxHeartbeats 1000000 in
theorem entCompare_any (a1 a2 A A' : Option Addr) (l1 l2 c1 c2 c c' : Nat) (xs ys : List Int) (n B B' : Nat) (w : World) (h : Ints w B A (xs.map rkI)) (h' : Ints w B' A' (ys.map rkI)) (hB : B ≤ w.heap.size) (hB' : B' ≤ w.heap.size) (hx : xs.length = n) (hy : ys.length = n) (hn : n ≤ 1048576) :
    Calls Tryd.prog 53 #[.agg #[.slice a1 l1 c1, .slice A n c], .agg #[.slice a2 l2 c2, .slice A' n c']] w fun e w' => e = .returned (.int .i64 (cmpTo xs ys n)) ∧ Below w.heap.size w w' := by
  have b2 : Below w.heap.size w ((w.alloc (.cells #[.slice a1 l1 c1, .slice A n c] 74)).alloc (.cells #[.slice a2 l2 c2, .slice A' n c'] 74)) := (below_box w _).alloc (by simp) _
  have hc := slicesCompare_any A A' c c' xs ys n B B' _ (h.below (b2.mono hB)) (h'.below (b2.mono hB')) hx hy hn
  have HC := Lib.hid hc
  have HB := Lib.hid b2
  clear hc h h' hx hy b2
  go_enter Tryd.func53, Tryd.ntmps53
  go_wp2_with fail
  refine HC.out.mono ?_
  rintro e w' ⟨rfl, rfl⟩
  go_wp2
  go_ret
  exact ⟨rfl, HB.out⟩

/-- how the card at a place compares with the one before it; the first one counts as greater -/
def ordI (H : List (List Int)) (i j k : Nat) : Int := if k = 0 then 1 else cmpK H i j k (k - 1)
def ordE (H : List (List Int)) (i j : Nat) (k : Nat) : Array Value := #[.int .i64 k, .int .i64 (ordI H i j k)]
/-- what a round keeps: what lay below n₀, and the box of the list -/
def KpO (n₀ Bs : Nat) (v : Value) (W W' : World) : Prop := Below n₀ W W' ∧ (Boxed W Bs 67 v → Boxed W' Bs 67 v)
theorem kpO_t {n₀ Bs : Nat} {v : Value} {A B C : World} (h : KpO n₀ Bs v A B) (k : KpO n₀ Bs v B C) : KpO n₀ Bs v A C := ⟨h.1.trans k.1, fun hb => k.2 (h.2 hb)⟩
theorem kpO_b {n₀ Bs : Nat} {v : Value} {w : World} (hn : n₀ ≤ w.heap.size) (hs : Bs < w.heap.size) (W : World) (l : Nat) (o o' : Obj) (hl : w.heap.size ≤ l) (h : W.heap[l]? = some o) (_ : o.isCells = false) (_ : o.isWalk = false) : KpO n₀ Bs v W (W.putObj l o') :=
  ⟨(Below.refl n₀ W).grown (grownBy_putObj' W l o') (by have := (Array.getElem?_eq_some_iff.1 h).1; omega) (fun k e => by cases e; omega), fun hb => hb.kept (grownBy_putObj' W l o') (by simp; omega)⟩
theorem below_grown {W W' : World} (h : Below W.heap.size W W') : W.grownBy W' none := ⟨h.os, h.tape, h.output, h.size, fun j hj _ => h.block j hj⟩
theorem abides_later {β : Type} {B : Nat} {J : β → World → Prop} (hJ : AbidesFrom B J) {s : β} {W W' : World} (h : J s W) (hb : Below W.heap.size W W') : J s W' :=
  hJ s W W' none h (below_grown hb) (fun r e => by cases e)
theorem boxed_later {W W' : World} {B : Nat} {t : TypeId} {v : Value} (h : Boxed W B t v) (hb : Below W.heap.size W W') : Boxed W' B t v := (hb.block B h.lt).trans h

/-- what entries are: each key has the ranks of its card's field -/
structure EntsOf (D : List CardV) (i j n : Nat) (E K : List CardV) : Prop where
  len : D.length = n
  hE : holes E = holes D
  hK : holes K = rks (holes D) i j
  ok : deckB (holes D) = true
  keys : keysB (holes D) i j = true
  lt : i < j
  le : j ≤ widthH (holes D)
theorem EntsOf.at_ {D E K : List CardV} {i j n : Nat} (h : EntsOf D i j n E K) {k : Nat} (hk : k < n) : ∃ d e q, D[k]? = some d ∧ E[k]? = some e ∧ K[k]? = some q ∧ e.xs = d.xs ∧ q.xs = (partOf d.xs i j).map rkI ∧ (partOf d.xs i j).length = j - i ∧ j - i ≤ 20 ∧ 0 < d.xs.length ∧ d.xs.length ≤ 20 ∧ textOk (partOf d.xs i j) = true := by
  have hlE : E.length = n := by rw [← holes_len, h.hE, holes_len, h.len]
  have hlK : K.length = n := by rw [← holes_len, h.hK, rks, List.length_map, holes_len, h.len]
  have hd : D[k]? = some (D[k]'(by rw [h.len]; exact hk)) := List.getElem?_eq_getElem _
  have he : E[k]? = some (E[k]'(by omega)) := List.getElem?_eq_getElem _
  have hq : K[k]? = some (K[k]'(by omega)) := List.getElem?_eq_getElem _
  obtain ⟨y1, y2⟩ := deck_width h.ok (holes_at hd)
  refine ⟨_, _, _, hd, he, hq, ?_, ?_, ?_, ?_, ?_, ?_, ?_⟩
  · have h1 := holes_at he
    rw [h.hE, holes_at hd] at h1
    exact (Option.some.inj h1).symm
  · have h1 := holes_at hq
    rw [h.hK, rks, List.getElem?_map, holes_at hd] at h1
    exact (Option.some.inj h1).symm
  · exact partOf_length _ _ _ (by rw [y2]; exact h.le)
  · have := (okB_parts y1).2
    have := h.le
    omega
  · have := h.lt
    have := h.le
    omega
  · exact (okB_parts y1).2
  · exact keysB_at (holes_at hd) h.keys
theorem EntsOf.lenE {D E K : List CardV} {i j n : Nat} (h : EntsOf D i j n E K) : E.length = n := by rw [← holes_len, h.hE, holes_len, h.len]
theorem EntsOf.lenK {D E K : List CardV} {i j n : Nat} (h : EntsOf D i j n E K) : K.length = n := by rw [← holes_len, h.hK, rks, List.length_map, holes_len, h.len]
theorem EntsOf.n40 {D E K : List CardV} {i j n : Nat} (h : EntsOf D i j n E K) : n ≤ 40 := by
  have := deck_len h.ok
  rw [holes_len, h.len] at this
  exact this
/-- the comparison of two entries -/
theorem entCmp_at {D E K : List CardV} {i j n g lo : Nat} {w : World} (hO : EntsOf D i j n E K) (he : Ents w lo g E K n) {p q : Nat} (hp : p < n) (hq : q < n) :
    ∃ v1 v2, w.cell? ⟨g, p * 2, none⟩ = some v1.1 ∧ w.cell? ⟨g, p * 2 + 1, none⟩ = some v1.2 ∧ w.cell? ⟨g, q * 2, none⟩ = some v2.1 ∧ w.cell? ⟨g, q * 2 + 1, none⟩ = some v2.2 ∧ (∃ a l c a' c', v1 = (.slice a l c, .slice a' (j - i) c')) ∧ (∃ a l c a' c', v2 = (.slice a l c, .slice a' (j - i) c')) ∧
      ∀ W, Below w.heap.size w W → Calls Tryd.prog 53 #[.agg #[v1.1, v1.2], .agg #[v2.1, v2.2]] W fun e w' => e = .returned (.int .i64 (cmpK (holes D) i j p q)) ∧ Below W.heap.size W w' := by
  obtain ⟨d, e1, q1, hd, he1, hq1, x1, x2, x3, x4, x5, x6, x7⟩ := hO.at_ hp
  obtain ⟨d', e2, q2, hd', he2, hq2, z1, z2, z3, z4, z5, z6, z7⟩ := hO.at_ hq
  have hl : E.length ≤ K.length := by rw [hO.lenE, hO.lenK]; omega
  have c1 := he.card hl he1
  have c2 := he.key (by rw [hO.lenE]; exact hp) hq1
  have c3 := he.card hl he2
  have c4 := he.key (by rw [hO.lenE]; exact hq) hq2
  have m1 : q1.xs.length = j - i := by rw [x2, List.length_map, x3]
  have m2 : q2.xs.length = j - i := by rw [z2, List.length_map, z3]
  unfold CardV.value at c1 c2 c3 c4
  rw [m1] at c2
  rw [m2] at c4
  refine ⟨(_, _), (_, _), c1, c2, c3, c4, ⟨_, _, _, _, _, rfl⟩, ⟨_, _, _, _, _, rfl⟩, fun W hW => ?_⟩
  obtain ⟨g1, ex1, a1, r1⟩ := he.keys q1 (List.mem_of_getElem? hq1)
  obtain ⟨g2, ex2, a2, r2⟩ := he.keys q2 (List.mem_of_getElem? hq2)
  have i1 := (r1.later hW).ints
  have i2 := (r2.later hW).ints
  rw [x2] at i1
  rw [z2] at i2
  rw [cmpK_at hd hd', a1, a2]
  have l1 := (r1.later hW).lt
  have l2 := (r2.later hW).lt
  exact entCompare_any _ _ _ _ _ _ _ _ _ _ _ _ _ _ _ W i1 i2 (by omega) (by omega) x3 z3 (by omega)

theorem orders_any (A : Option Addr) (n c : Nat) (w : World) :
    Calls Tryd.prog 84 #[.slice A n c] w fun e w' => e = .returned (.func (.func 96) #[] #[.pointer (some ⟨w.heap.size, 0, none⟩)]) ∧ w' = w.alloc (.cells #[.slice A n c] 67) := by
  go_enter Tryd.func84, Tryd.ntmps84
  go_wp2
  go_ret
  exact ⟨rfl, rfl⟩

set_option maxRecDepth 100000 in
set_option maxHeartbeats 4000000 in
theorem orders_stops {D E K : List CardV} {i j n g lo : Nat} {w0 : World} (hO : EntsOf D i j n E K) (he : Ents w0 lo g E K n) (w : World) (hw : Below w0.heap.size w0 w) (Bs : Nat) (hb : Boxed w Bs 67 (.slice (some ⟨g, 0, none⟩) n n)) :
    SeqStopsK Fence.wide 5 Tryd.prog 96 #[.pointer (some ⟨Bs, 0, none⟩)] (ordE (holes D) i j) (KpO w0.heap.size Bs (.slice (some ⟨g, 0, none⟩) n n)) (fun ys => ys = List.range n) (fun _ => True) n w := fun l J Jx W hW hJ hJx hY h0 => by
  have hn40 := hO.n40
  have hmx : Tryd.prog.follows .mixedOrders = true := by kernel_rfl
  have HE := Lib.hid he
  have HO := Lib.hid hO
  have HBW := Lib.hid (hw.trans (hW.mono hw.size))
  have HBX := Lib.hid (boxed_later hb hW)
  have HJ := Lib.hid hJ
  have HY : Hid (∀ pre x W1, J pre W1 → pre.length < n → YieldAt Fence.wide (5 - 1) Tryd.prog l #[.int .i64 (x : Nat), .int .i64 (ordI (holes D) i j x)] W1 fun e W' => (e = .returned (.bool true) ∧ J (pre ++ [x]) W' ∧ KpO w0.heap.size Bs (.slice (some ⟨g, 0, none⟩) n n) W1 W') ∨ (e = .returned (.bool false) ∧ Jx (pre ++ [x]) W')) := hY
  have y0 := HBX.out.cell
  clear he hO hw hb hW hJ hJx hY
  refine callsIn_of_wp Tryd.func96 rfl trivial ?_ rfl
  simp only [Tryd.ntmps96, List.size_toArray, List.length_cons, List.length_nil, Nat.reduceAdd, Nat.reduceSub, Array.replicate_succ, Array.replicate_zero, List.push_toArray, List.append_toArray, List.nil_append, List.cons_append]
  gi_wp2
  clear y0
  gi_loopw [8] (fun x wr => ∃ k : Nat, k ≤ n ∧ x = .int .i64 k ∧ J (List.range k) wr ∧ Hid (Below w0.heap.size w0 wr) ∧ Hid (Boxed wr Bs 67 (.slice (some ⟨g, 0, none⟩) n n))) (fun x _ => n - (intOf x).toNat)
  case atStart => exact ⟨0, Nat.zero_le _, rfl, h0, HBW, HBX⟩
  case round =>
    obtain ⟨k, hk, rfl, hJk, HB, HX⟩ := hrel
    by_cases hlt : k < n
    · have t0 : (0 : Int) ≤ (k : Int) := Int.natCast_nonneg _
      have t1 : (k : Int) < (n : Int) := by omega
      have hE := HE.out.later HB.out
      rcases Nat.eq_zero_or_pos k with rfl | hpos
      · obtain ⟨v1, v2, c1, c2, -, -, ⟨a1, l1, z1, a2, z2, rfl⟩, -, -⟩ := entCmp_at HO.out hE hlt hlt
        have hj := abides_later HJ.out hJk (below_box wr (.cells #[.slice a1 l1 z1, .slice a2 (j - i) z2] 74))
        have hB2 := Lib.hid (below_step HB.out (below_box wr (.cells #[.slice a1 l1 z1, .slice a2 (j - i) z2] 74)))
        have hX2 := Lib.hid (boxed_later HX.out (below_box wr (.cells #[.slice a1 l1 z1, .slice a2 (j - i) z2] 74)))
        obtain ⟨fn, tmps, assign, body, hy, hR⟩ := HY.out _ 0 _ hj (by simp; omega)
        simp only [ordI, if_true, Int.natCast_zero] at hy
        simp only [Nat.zero_mul, Nat.zero_add] at c1 c2
        clear hE hj
        gi_wp2
        refine hR.mono ?_
        rintro e W3 (⟨rfl, hJ3, hk3⟩ | ⟨rfl, hJx3⟩)
        · have hB3 := Lib.hid (hB2.out.trans hk3.1)
          have hX3 := Lib.hid (hk3.2 hX2.out)
          clear hk3 hy hR
          gi_wp2
          go_roundw
          case rel => exact ⟨1, by omega, by go_num, by rw [List.range_succ]; exact hJ3, hB3, hX3⟩
          case measure => simp [intOf]; omega
        · gi_wp2
          refine bodyPost_ret (results_none rfl _ _ _) rfl ?_
          exact ⟨⟨_, rfl⟩, .inr ⟨_, trivial, hJx3⟩⟩
      · obtain ⟨t, rfl⟩ : ∃ t, k = t + 1 := ⟨k - 1, by omega⟩
        obtain ⟨v1, v2, c1, c2, c3, c4, ⟨a1, l1, z1, a2, z2, rfl⟩, ⟨a3, l3, z3, a4, z4, rfl⟩, hcmp⟩ := entCmp_at HO.out hE hlt (show t < n by omega)
        simp only at c1 c2 c3 c4 hcmp
        have bx := below_box wr (.cells #[.slice a1 l1 z1, .slice a2 (j - i) z2] 74)
        have p0 : (wr.alloc (.cells #[.slice a1 l1 z1, .slice a2 (j - i) z2] 74)).cell? ⟨wr.heap.size, 0, none⟩ = some (.slice a1 l1 z1) := by simp
        have p1 : (wr.alloc (.cells #[.slice a1 l1 z1, .slice a2 (j - i) z2] 74)).cell? ⟨wr.heap.size, 1, none⟩ = some (.slice a2 (j - i) z2) := by simp
        have o3 := cell_kept c3 bx
        have o4 := cell_kept c4 bx
        have o5 := cell_kept HX.out.cell bx
        have hj := abides_later HJ.out hJk bx
        have hcm := hcmp _ (bx.drew)
        have HB2 := Lib.hid (below_step HB.out bx)
        have HX2 := Lib.hid (boxed_later HX.out bx)
        obtain ⟨W2, hW2⟩ : ∃ W2, wr.alloc (.cells #[.slice a1 l1 z1, .slice a2 (j - i) z2] 74) = W2 := ⟨_, rfl⟩
        rw [hW2] at p0 p1 o3 o4 o5 hj hcm HB2 HX2
        have hord : ordI (holes D) i j (t + 1) = cmpK (holes D) i j (t + 1) t := by simp [ordI]
        obtain ⟨v, hv⟩ : ∃ v, cmpK (holes D) i j (t + 1) t = v := ⟨_, rfl⟩
        rw [hv] at hord hcm
        have HC := Lib.hid hcm
        have d1 : W2.drew.cell? ⟨wr.heap.size, 0, none⟩ = some (.slice a1 l1 z1) := p0
        have d2 : W2.drew.cell? ⟨wr.heap.size, 1, none⟩ = some (.slice a2 (j - i) z2) := p1
        have d3 : W2.drew.cell? ⟨g, t * 2, none⟩ = some (.slice a3 l3 z3) := o3
        have d4 : W2.drew.cell? ⟨g, t * 2 + 1, none⟩ = some (.slice a4 (j - i) z4) := o4
        have d5 : W2.drew.cell? ⟨Bs, 0, none⟩ = some (.slice (some ⟨g, 0, none⟩) n n) := o5
        have s0 : (0 : Int) ≤ (t : Int) := Int.natCast_nonneg _
        have s1 : (t : Int) < (n : Int) := by omega
        have s2 : ((t + 1 : Nat) : Int) = (t : Int) + 1 := by omega
        have s3 : (0 : Int) < (t : Int) + 1 := by omega
        have s4 : IntKind.i64.wrap (t : Int) = (t : Int) := IntWalk.i64_in _ (by omega)
        rw [s2] at t0 t1
        clear hE hcmp hcm bx c3 c4 hJk hpos hv
        rw [s2]
        gi_wp2
        gi_region_with_o (refine ⟨trivial, ?_⟩; gi_at_call 53; refine (callsIn_wide.2 HC.out).mono ?_; rintro e W3 ⟨rfl, hb3⟩; have e1 := cell_kept d1 hb3; have e2 := cell_kept d2 hb3; have e3 := cell_kept d3 hb3; have e4 := cell_kept d4 hb3; have e5 := cell_kept d5 hb3; have hj3 := abides_later HJ.out hj ((Below.refl _ W2).drew.trans hb3); have HB3 := Lib.hid (below_step HB2.out.drew hb3); have HX3 := Lib.hid (boxed_later HX2.out ((Below.refl _ W2).drew.trans hb3)); clear hb3)
        all_goals
          obtain ⟨fn, tmps, assign, body, hy, hR⟩ := HY.out _ (t + 1) _ hj3 (by simp; omega)
          rw [hord, s2] at hy
          clear e1 e2 e3 e4 e5 d1 d2 d3 d4 d5 p0 p1 o3 o4 o5 hj hj3
          gi_wp2
          refine hR.mono ?_
          rintro e W4 (⟨rfl, hJ4, hk4⟩ | ⟨rfl, hJx4⟩)
          · have hB4 := Lib.hid (HB3.out.trans hk4.1)
            have hX4 := Lib.hid (hk4.2 HX3.out)
            clear hk4 hy hR
            gi_wp2
            go_roundw
            case rel => exact ⟨t + 1 + 1, by omega, by go_num, by rw [List.range_succ]; exact hJ4, hB4, hX4⟩
            case measure => simp [intOf]; omega
          · gi_wp2
            refine bodyPost_ret (results_none rfl _ _ _) rfl ?_
            exact ⟨⟨_, rfl⟩, .inr ⟨_, trivial, hJx4⟩⟩
    · obtain rfl : k = n := by omega
      have t1 : ¬ (k : Int) < (k : Int) := by omega
      gi_wp2
      go_end0
      exact ⟨⟨_, rfl⟩, .inl hJk⟩

/-- the places that are kept -/
def keptL (q : Nat → Bool) (pre : List Nat) : List Int := (pre.filter q).map fun (k : Nat) => (k : Int)
theorem keptL_range (q : Nat → Bool) : ∀ n, keptL q (List.range n) = wherePl q n
  | 0 => rfl
  | n + 1 => by
    have ih := keptL_range q n
    unfold keptL at ih ⊢
    unfold wherePl
    rw [List.range_succ, List.filter_append, List.map_append, ih]
    cases h : q n <;> simp [h]
theorem keptL_yes {q : Nat → Bool} {pre : List Nat} {x : Nat} (h : q x = true) : keptL q (pre ++ [x]) = keptL q pre ++ [(x : Int)] := by simp [keptL, h]
theorem keptL_no {q : Nat → Bool} {pre : List Nat} {x : Nat} (h : q x = false) : keptL q (pre ++ [x]) = keptL q pre := by simp [keptL, h]
theorem keptL_len (q : Nat → Bool) (pre : List Nat) : (keptL q pre).length ≤ pre.length := by
  unfold keptL
  rw [List.length_map]
  exact List.length_filter_le _ _
theorem seq_ord (H : List (List Int)) (i j k : Nat) : decide (ordI H i j k < 0) = seqQ H i j k := by
  unfold ordI seqQ
  rcases Nat.eq_zero_or_pos k with rfl | h
  · simp
  · rw [if_neg (by omega)]
    simp [h]
theorem grp_ord (H : List (List Int)) (i j k : Nat) : (ordI H i j k != 0) = grpQ H i j k := by
  unfold ordI grpQ
  rcases Nat.eq_zero_or_pos k with rfl | h
  · simp
  · rw [if_neg (by omega)]
    have h0 : decide (k = 0) = false := by simp; omega
    rw [h0, Bool.false_or]
    by_cases e : cmpK H i j k (k - 1) = 0 <;> simp [e]

theorem keepSeq_any (x : Int) (w : World) : Calls Tryd.prog 59 #[.int .i64 x] w fun e w' => e = .returned (.bool (decide (x < 0))) ∧ w = w' := by
  go_enter Tryd.func59, Tryd.ntmps59
  go_wp2
  go_ret
  exact ⟨rfl, rfl⟩

section
variable (A : Option Addr) (c : Nat) (D : List CardV) (B : Nat) (a b : Int) (w : World) (h : Deck w B A D) (hB : B ≤ w.heap.size) (hn : D.length ≤ 1048576) (hl : ∀ d ∈ D, d.xs.length ≤ 1048576)
include h hB hn hl
set_option maxRecDepth 100000 in
set_option maxHeartbeats 4000000 in
theorem whereSeq_any (hcap : CapsOk D) (hP : Places w) :
    Calls Tryd.prog 58 #[.slice A D.length c, .agg #[.int .i64 a, .int .i64 b], .func (.func 59) #[] #[]] w (GivesIC (seqA (holes D) a b) (keysC (holes D) a b) w) := by
  obtain ⟨i0, hi0, hz0, hz1, hz2⟩ := info_parts info_int64
  have b2 : Below w.heap.size w ((w.alloc (.cells #[.int .i64 a, .int .i64 b] 30)).alloc (.cells #[.func (.func 59) #[] #[]] 84)) := (below_box w _).alloc (by simp) _
  have hs2 : w.heap.size + 2 = ((w.alloc (.cells #[.int .i64 a, .int .i64 b] 30)).alloc (.cells #[.func (.func 59) #[] #[]] 84)).heap.size := by simp
  have hk := entriesOf_any A c D B a b _ (h.below (b2.mono hB)) (by omega) hn hl hcap (hP.below b2)
  have p5 : ((w.alloc (.cells #[.int .i64 a, .int .i64 b] 30)).alloc (.cells #[.func (.func 59) #[] #[]] 84)).cell? ⟨w.heap.size + 1, 0, none⟩ = some (.func (.func 59) #[] #[]) := by simp [go_sem]
  have BW := Lib.hid b2
  obtain ⟨n, hN⟩ : ∃ n, D.length = n := ⟨_, rfl⟩
  by_cases e : keysC (holes D) a b = 0
  · obtain ⟨i, j, rfl, rfl, hij, hj, hv, hkb⟩ := keysC_zero e
    have ha : seqA (holes D) i j = wherePl (seqQ (holes D) i j) n := by
      unfold seqA
      rw [if_pos e, Int.toNat_natCast, Int.toNat_natCast, holes_len, hN]
    rw [ha, e]
    rw [e, Int.toNat_natCast, Int.toNat_natCast, hN] at hk
    rw [hN]
    have HK := Lib.hid hk
    have HN := Lib.hid hN
    have HQ : Hid (deckB (holes D) = true ∧ keysB (holes D) i j = true ∧ i < j ∧ j ≤ widthH (holes D)) := ⟨hv, hkb, hij, hj⟩
    clear hk h hl hcap b2 e hv hkb hj hij hN hP ha
    refine (callsIn_wide (n := 6)).1 ?_
    refine callsIn_of_wp_marks Tryd.func58 rfl trivial ?_ rfl
    simp only [Tryd.ntmps58, List.size_toArray, List.length_cons, List.length_nil, Nat.reduceAdd, Nat.reduceSub, Array.replicate_succ, Array.replicate_zero, List.push_toArray, List.append_toArray, List.nil_append, List.cons_append]
    gi_wp2_with (first
      | (refine ⟨trivial, ?_⟩; gi_at_call 62; refine (callsIn_wide.2 HK.out).mono ?_; rintro e w1 (⟨h0, _⟩ | ⟨_, g, E, K, rfl, hb, hE, hC, hKK, hEnt⟩); (exact absurd rfl h0); have B1 := Lib.hid (below_step BW.out hb); have q5 := cell_kept p5 hb; have HEnt := Lib.hid hEnt; have HEE := Lib.hid hE; have HKK := Lib.hid hKK; clear hb hE hC hKK hEnt)
      | (refine ⟨trivial, ?_⟩; gi_at_call 84; refine (callsIn_wide.2 (orders_any _ _ _ _)).mono ?_; rintro e w2 ⟨rfl, rfl⟩))
    have hEO : EntsOf D i j n E K := ⟨HN.out, HEE.out, HKK.out, HQ.out.1, HQ.out.2.1, HQ.out.2.2.1, HQ.out.2.2.2⟩
    have hn40 := hEO.n40
    have bK : Boxed ((w1.alloc (.cells #[.slice none 0 0] 40)).alloc (.cells #[.slice (some ⟨g, 0, none⟩) n n] 67)) w1.heap.size 40 (.slice none 0 0) := (Boxed.new w1 40 (.slice none 0 0)).alloc _
    have bS := Boxed.new (w1.alloc (.cells #[.slice none 0 0] 40)) 67 (.slice (some ⟨g, 0, none⟩) n n)
    rw [World.size_alloc] at bS
    have hb0 : Below w1.heap.size w1 ((w1.alloc (.cells #[.slice none 0 0] 40)).alloc (.cells #[.slice (some ⟨g, 0, none⟩) n n] 67)) := (below_box w1 _).alloc (by simp) _
    have hsz : w1.heap.size + 2 = ((w1.alloc (.cells #[.slice none 0 0] 40)).alloc (.cells #[.slice (some ⟨g, 0, none⟩) n n] 67)).heap.size := by simp
    have hst := orders_stops hEO HEnt.out _ hb0 (w1.heap.size + 1) bS
    have h5 : w.heap.size + 1 < w1.heap.size := by have := World.block_lt_of_cell? _ _ q5; simpa using this
    have HQF : Hid (∀ (x : Nat) (W : World), Calls Tryd.prog 59 #[.int .i64 (ordI (holes D) i j x)] W fun e w' => e = .returned (.bool (seqQ (holes D) i j x)) ∧ W = w') := fun x W => by
      rw [← seq_ord]
      exact keepSeq_any _ W
    clear HEnt HK hEO p5 BW
    generalize (w1.alloc (.cells #[.slice none 0 0] 40)).alloc (.cells #[.slice (some ⟨g, 0, none⟩) n n] 67) = W0 at *
    refine wpIn_rangeFunc_ownF rfl (by omega) (gf := 96) (lb := #[.pointer (some ⟨w1.heap.size + 1, 0, none⟩)]) rfl trivial (enters_of Tryd.func96 (by kernel_rfl) rfl) hst kpO_t (kpO_b (by omega) (by omega)) (Below.refl _ _) (fun _ => rfl)
      (fun pre W => (∃ v, Boxed W w1.heap.size 40 v ∧ W.ownsRow w1.heap.size 2 1 v (keptL (seqQ (holes D) i j) pre).length ((keptL (seqQ (holes D) i j) pre).map (Value.int .i64)) ∧ True) ∧ Below w1.heap.size w1 W ∧ Boxed W (w1.heap.size + 1) 67 (.slice (some ⟨g, 0, none⟩) n n))
      (fun _ _ _ => False)
      (OwnFrom.and (Own.from (holdsRow_own w1.heap.size w1.heap.size 40 2 1 (fun pre => (keptL (seqQ (holes D) i j) pre).length) (fun pre => (keptL (seqQ (holes D) i j) pre).map (Value.int .i64)) (fun _ _ => True)) _) (OwnFrom.and (ownFrom_below (Nat.le_refl _) (by omega)) (Own.from (boxed_own _ _ (fun _ => .slice (some ⟨g, 0, none⟩) n n)) _)))
      (fun _ _ _ _ _ hs _ _ => hs)
      ⟨⟨_, bK, World.ownsRow_nil _ _ _ _, trivial⟩, hb0, bS⟩
      (fun x => { tmps := #[.slice A n c, .agg #[.int .i64 i, .int .i64 j], .func (.func 59) #[] #[], undef, .pointer (some ⟨w.heap.size, 0, none⟩), .pointer (some ⟨w.heap.size + 1, 0, none⟩), .slice none 0 0, .int .i64 0, .slice (some ⟨g, 0, none⟩) n n, .int .i64 0, .pointer (some ⟨w1.heap.size, 0, none⟩), .int .i64 x, .int .i64 (ordI (holes D) i j x), .tuple #[.slice (some ⟨g, 0, none⟩) n n, .int .i64 0], .slice A n c, .agg #[.int .i64 i, .int .i64 j], .tuple #[.slice (some ⟨g, 0, none⟩) n n, .int .i64 0], .slice (some ⟨g, 0, none⟩) n n, .int .i64 0, .int .i64 0, .bool false, undef, .slice (some ⟨g, 0, none⟩) n n, .func (.func 96) #[] #[.pointer (some ⟨w1.heap.size + 1, 0, none⟩)], .int .i64 x, .int .i64 (ordI (holes D) i j x), undef, undef, undef, undef, undef, undef, undef, undef], defers := [] }) ?assign ?body ?done ?stop
    case assign =>
      intro l x W K hK
      simp only [ordE]
      gi_wp2
      exact hK
    case body =>
      rintro l pre x W ⟨⟨v, hv, hrow, _⟩, hB, hX⟩ hlt
      have hc := hv.cell
      have hk5 := cell_kept q5 hB
      have hpl := keptL_len (seqQ (holes D) i j) pre
      have hqf := HQF.out x W
      obtain ⟨r, hr⟩ : ∃ r, seqQ (holes D) i j x = r := ⟨_, rfl⟩
      rw [hr] at hqf
      have HR := Lib.hid hr
      have HF := Lib.hid hqf
      obtain ⟨m, hm⟩ : ∃ m, ordI (holes D) i j x = m := ⟨_, rfl⟩
      rw [hm] at HF ⊢
      clear hr hqf hm hst bK bS hb0 HQF
      cases r
      · gi_wp2_with (refine ⟨trivial, ?_⟩; gi_at_call 59; refine (CallsIn.inRound l (callsIn_wide.2 HF.out)).mono ?_; rintro e w' ⟨rfl, rfl⟩)
        exact ⟨KeepsOthers.refl _, ⟨Below.refl _ _, id⟩, ⟨v, hv, by rw [keptL_no HR.out]; exact hrow, trivial⟩, hB, hX⟩
      · gi_wp2_with (first
          | (refine ⟨trivial, ?_⟩; gi_at_call 59; refine (CallsIn.inRound l (callsIn_wide.2 HF.out)).mono ?_; rintro e w' ⟨rfl, rfl⟩)
          | (gi_at_builtin; refine wpListIn_append_own _ rfl _ _ 40 rfl w1.heap.size 2 i0 (.int .i64 0) 1 8 Tryd.underlying40 hi0 hz0 hz1 hz2 rfl (by decide) _ _ _ rfl (hrow.alloc _) ⟨W.heap.size, 0, none⟩ 1 1 [.int .i64 x] rfl rfl (cell_one_new _ _ _) (by simp [Value.oneCell']) (by unfold maxLen; omega) (by omega) (by have := hB.size; simp; omega) ?_; intro v' w2 hown' hgrow _; obtain ⟨g', cap', rfl⟩ := ownsRow_succ hown'; obtain ⟨hv1, hv2, hr2, hk2, hb2⟩ := hv.appended (by decide) hrow hB.size (Nat.le_refl _) hown' hgrow; have hc1 := hv1.cell; have hf1 := hv1.frozen; have hX2 : Boxed (w2.setCell ⟨w1.heap.size, 0, none⟩ (.slice (some ⟨g', 0, none⟩) ((keptL (seqQ (holes D) i j) pre).length + 1) cap')) (w1.heap.size + 1) 67 (.slice (some ⟨g, 0, none⟩) n n) := ((hX.alloc _).kept hgrow (by exact hX.not_row (by decide) hrow)).kept (grownBy_setCell' _ _ _) (by simp)))
        exact ⟨hk2, ⟨hb2, fun _ => hX2⟩, ⟨_, hv2, by rw [keptL_yes HR.out]; simpa using hr2, trivial⟩, hB.trans hb2, hX2⟩
    case done =>
      rintro Dd ys W hD rfl ⟨⟨v, hv, hrow, _⟩, hB, hX⟩ hK
      rw [keptL_range] at hrow
      have hc := hv.cell
      obtain ⟨A9, c9, rfl, hA⟩ := owned_list hrow rfl
      have hb9 : Below w1.heap.size w1 (W.putObj Dd (.deferred none)) := hB.trans (belowK_b (w := W0) (by omega) W Dd _ _ hD hK rfl rfl)
      have hlen := wherePl_len (seqQ (holes D) i j) n
      have HA := Lib.hid hA
      have HB9 := Lib.hid (below_step B1.out hb9)
      have HS9 := Lib.hid (World.block_lt_of_cell? _ _ hc)
      have HKD := Lib.hid hK
      have hz : w.heap.size ≤ w1.heap.size := by omega
      clear hst bK bS hb0 HQF hrow hv hX hA hB hK hb9
      gi_wp2
      refine ⟨by simp, .inl ⟨_, _, rfl, run_takeDeferred HKD.out, ?_⟩⟩
      refine ⟨.tuple #[.slice A9 (wherePl (seqQ (holes D) i j) n).length c9, .int .i64 0], (by simp [results, Tryd.results58, go_sem]), A9, c9, rfl, HB9.out, fun h0 => ?_, Nat.le_refl _⟩
      obtain ⟨g9, ex9, e9, hg9, hr9⟩ := HA.out h0
      have hr10 : Row (W.putObj Dd (.deferred none)) g9 (wherePl (seqQ (holes D) i j) n) ex9 := (World.putObj_heap_other (fun e => by subst e; unfold Row at hr9; rw [hr9] at HKD; cases Option.some.inj HKD.out)).trans hr9
      exact ⟨g9, ex9, e9, by omega, hr10.lt, hr10⟩
    case stop =>
      rintro Dd cc pre W _ _ h _
      exact h.elim
  · obtain ⟨k, hk0⟩ : ∃ k, keysC (holes D) a b = k := ⟨_, rfl⟩
    have ha : seqA (holes D) a b = [] := by
      unfold seqA
      rw [if_neg e]
    rw [ha, hk0]
    rw [hk0] at hk e
    rw [hN] at hk ⊢
    have e1 : (k != 0) = true := by simpa using e
    have HK := Lib.hid hk
    clear hk h hl hcap b2 hk0 hN hn hP ha
    refine (callsIn_wide (n := 6)).1 ?_
    refine callsIn_of_wp_marks Tryd.func58 rfl trivial ?_ rfl
    simp only [Tryd.ntmps58, List.size_toArray, List.length_cons, List.length_nil, Nat.reduceAdd, Nat.reduceSub, Array.replicate_succ, Array.replicate_zero, List.push_toArray, List.append_toArray, List.nil_append, List.cons_append]
    gi_wp2_with (refine ⟨trivial, ?_⟩; gi_at_call 62; refine (callsIn_wide.2 HK.out).mono ?_; rintro e' w1 (⟨_, rfl, hb⟩ | ⟨h0, _⟩); rotate_left; (exact absurd h0 e); have B1 := Lib.hid (below_step BW.out hb); clear hb)
    refine ⟨.tuple #[.slice none 0 0, .int .i64 k], (by simp [results, Tryd.results58, go_sem]), none, 0, rfl, B1.out, fun h0 => absurd h0 (by simp), Nat.le_refl _⟩
end

theorem keepGrp_any (x : Int) (w : World) : Calls Tryd.prog 69 #[.int .i64 x] w fun e w' => e = .returned (.bool (x != 0)) ∧ w = w' := by
  go_enter Tryd.func69, Tryd.ntmps69
  go_wp2
  go_ret
  exact ⟨rfl, rfl⟩

section
variable (A : Option Addr) (c : Nat) (D : List CardV) (B : Nat) (a b : Int) (w : World) (h : Deck w B A D) (hB : B ≤ w.heap.size) (hn : D.length ≤ 1048576) (hl : ∀ d ∈ D, d.xs.length ≤ 1048576)
include h hB hn hl
set_option maxRecDepth 100000 in
set_option maxHeartbeats 4000000 in
theorem whereGrp_any (hcap : CapsOk D) (hP : Places w) :
    Calls Tryd.prog 58 #[.slice A D.length c, .agg #[.int .i64 a, .int .i64 b], .func (.func 69) #[] #[]] w (GivesIC (grpA (holes D) a b) (keysC (holes D) a b) w) := by
  obtain ⟨i0, hi0, hz0, hz1, hz2⟩ := info_parts info_int64
  have b2 : Below w.heap.size w ((w.alloc (.cells #[.int .i64 a, .int .i64 b] 30)).alloc (.cells #[.func (.func 69) #[] #[]] 84)) := (below_box w _).alloc (by simp) _
  have hs2 : w.heap.size + 2 = ((w.alloc (.cells #[.int .i64 a, .int .i64 b] 30)).alloc (.cells #[.func (.func 69) #[] #[]] 84)).heap.size := by simp
  have hk := entriesOf_any A c D B a b _ (h.below (b2.mono hB)) (by omega) hn hl hcap (hP.below b2)
  have p5 : ((w.alloc (.cells #[.int .i64 a, .int .i64 b] 30)).alloc (.cells #[.func (.func 69) #[] #[]] 84)).cell? ⟨w.heap.size + 1, 0, none⟩ = some (.func (.func 69) #[] #[]) := by simp [go_sem]
  have BW := Lib.hid b2
  obtain ⟨n, hN⟩ : ∃ n, D.length = n := ⟨_, rfl⟩
  by_cases e : keysC (holes D) a b = 0
  · obtain ⟨i, j, rfl, rfl, hij, hj, hv, hkb⟩ := keysC_zero e
    have ha : grpA (holes D) i j = wherePl (grpQ (holes D) i j) n := by
      unfold grpA
      rw [if_pos e, Int.toNat_natCast, Int.toNat_natCast, holes_len, hN]
    rw [ha, e]
    rw [e, Int.toNat_natCast, Int.toNat_natCast, hN] at hk
    rw [hN]
    have HK := Lib.hid hk
    have HN := Lib.hid hN
    have HQ : Hid (deckB (holes D) = true ∧ keysB (holes D) i j = true ∧ i < j ∧ j ≤ widthH (holes D)) := ⟨hv, hkb, hij, hj⟩
    clear hk h hl hcap b2 e hv hkb hj hij hN hP ha
    refine (callsIn_wide (n := 6)).1 ?_
    refine callsIn_of_wp_marks Tryd.func58 rfl trivial ?_ rfl
    simp only [Tryd.ntmps58, List.size_toArray, List.length_cons, List.length_nil, Nat.reduceAdd, Nat.reduceSub, Array.replicate_succ, Array.replicate_zero, List.push_toArray, List.append_toArray, List.nil_append, List.cons_append]
    gi_wp2_with (first
      | (refine ⟨trivial, ?_⟩; gi_at_call 62; refine (callsIn_wide.2 HK.out).mono ?_; rintro e w1 (⟨h0, _⟩ | ⟨_, g, E, K, rfl, hb, hE, hC, hKK, hEnt⟩); (exact absurd rfl h0); have B1 := Lib.hid (below_step BW.out hb); have q5 := cell_kept p5 hb; have HEnt := Lib.hid hEnt; have HEE := Lib.hid hE; have HKK := Lib.hid hKK; clear hb hE hC hKK hEnt)
      | (refine ⟨trivial, ?_⟩; gi_at_call 84; refine (callsIn_wide.2 (orders_any _ _ _ _)).mono ?_; rintro e w2 ⟨rfl, rfl⟩))
    have hEO : EntsOf D i j n E K := ⟨HN.out, HEE.out, HKK.out, HQ.out.1, HQ.out.2.1, HQ.out.2.2.1, HQ.out.2.2.2⟩
    have hn40 := hEO.n40
    have bK : Boxed ((w1.alloc (.cells #[.slice none 0 0] 40)).alloc (.cells #[.slice (some ⟨g, 0, none⟩) n n] 67)) w1.heap.size 40 (.slice none 0 0) := (Boxed.new w1 40 (.slice none 0 0)).alloc _
    have bS := Boxed.new (w1.alloc (.cells #[.slice none 0 0] 40)) 67 (.slice (some ⟨g, 0, none⟩) n n)
    rw [World.size_alloc] at bS
    have hb0 : Below w1.heap.size w1 ((w1.alloc (.cells #[.slice none 0 0] 40)).alloc (.cells #[.slice (some ⟨g, 0, none⟩) n n] 67)) := (below_box w1 _).alloc (by simp) _
    have hsz : w1.heap.size + 2 = ((w1.alloc (.cells #[.slice none 0 0] 40)).alloc (.cells #[.slice (some ⟨g, 0, none⟩) n n] 67)).heap.size := by simp
    have hst := orders_stops hEO HEnt.out _ hb0 (w1.heap.size + 1) bS
    have h5 : w.heap.size + 1 < w1.heap.size := by have := World.block_lt_of_cell? _ _ q5; simpa using this
    have HQF : Hid (∀ (x : Nat) (W : World), Calls Tryd.prog 69 #[.int .i64 (ordI (holes D) i j x)] W fun e w' => e = .returned (.bool (grpQ (holes D) i j x)) ∧ W = w') := fun x W => by
      rw [← grp_ord]
      exact keepGrp_any _ W
    clear HEnt HK hEO p5 BW
    generalize (w1.alloc (.cells #[.slice none 0 0] 40)).alloc (.cells #[.slice (some ⟨g, 0, none⟩) n n] 67) = W0 at *
    refine wpIn_rangeFunc_ownF rfl (by omega) (gf := 96) (lb := #[.pointer (some ⟨w1.heap.size + 1, 0, none⟩)]) rfl trivial (enters_of Tryd.func96 (by kernel_rfl) rfl) hst kpO_t (kpO_b (by omega) (by omega)) (Below.refl _ _) (fun _ => rfl)
      (fun pre W => (∃ v, Boxed W w1.heap.size 40 v ∧ W.ownsRow w1.heap.size 2 1 v (keptL (grpQ (holes D) i j) pre).length ((keptL (grpQ (holes D) i j) pre).map (Value.int .i64)) ∧ True) ∧ Below w1.heap.size w1 W ∧ Boxed W (w1.heap.size + 1) 67 (.slice (some ⟨g, 0, none⟩) n n))
      (fun _ _ _ => False)
      (OwnFrom.and (Own.from (holdsRow_own w1.heap.size w1.heap.size 40 2 1 (fun pre => (keptL (grpQ (holes D) i j) pre).length) (fun pre => (keptL (grpQ (holes D) i j) pre).map (Value.int .i64)) (fun _ _ => True)) _) (OwnFrom.and (ownFrom_below (Nat.le_refl _) (by omega)) (Own.from (boxed_own _ _ (fun _ => .slice (some ⟨g, 0, none⟩) n n)) _)))
      (fun _ _ _ _ _ hs _ _ => hs)
      ⟨⟨_, bK, World.ownsRow_nil _ _ _ _, trivial⟩, hb0, bS⟩
      (fun x => { tmps := #[.slice A n c, .agg #[.int .i64 i, .int .i64 j], .func (.func 69) #[] #[], undef, .pointer (some ⟨w.heap.size, 0, none⟩), .pointer (some ⟨w.heap.size + 1, 0, none⟩), .slice none 0 0, .int .i64 0, .slice (some ⟨g, 0, none⟩) n n, .int .i64 0, .pointer (some ⟨w1.heap.size, 0, none⟩), .int .i64 x, .int .i64 (ordI (holes D) i j x), .tuple #[.slice (some ⟨g, 0, none⟩) n n, .int .i64 0], .slice A n c, .agg #[.int .i64 i, .int .i64 j], .tuple #[.slice (some ⟨g, 0, none⟩) n n, .int .i64 0], .slice (some ⟨g, 0, none⟩) n n, .int .i64 0, .int .i64 0, .bool false, undef, .slice (some ⟨g, 0, none⟩) n n, .func (.func 96) #[] #[.pointer (some ⟨w1.heap.size + 1, 0, none⟩)], .int .i64 x, .int .i64 (ordI (holes D) i j x), undef, undef, undef, undef, undef, undef, undef, undef], defers := [] }) ?assign ?body ?done ?stop
    case assign =>
      intro l x W K hK
      simp only [ordE]
      gi_wp2
      exact hK
    case body =>
      rintro l pre x W ⟨⟨v, hv, hrow, _⟩, hB, hX⟩ hlt
      have hc := hv.cell
      have hk5 := cell_kept q5 hB
      have hpl := keptL_len (grpQ (holes D) i j) pre
      have hqf := HQF.out x W
      obtain ⟨r, hr⟩ : ∃ r, grpQ (holes D) i j x = r := ⟨_, rfl⟩
      rw [hr] at hqf
      have HR := Lib.hid hr
      have HF := Lib.hid hqf
      obtain ⟨m, hm⟩ : ∃ m, ordI (holes D) i j x = m := ⟨_, rfl⟩
      rw [hm] at HF ⊢
      clear hr hqf hm hst bK bS hb0 HQF
      cases r
      · gi_wp2_with (refine ⟨trivial, ?_⟩; gi_at_call 69; refine (CallsIn.inRound l (callsIn_wide.2 HF.out)).mono ?_; rintro e w' ⟨rfl, rfl⟩)
        exact ⟨KeepsOthers.refl _, ⟨Below.refl _ _, id⟩, ⟨v, hv, by rw [keptL_no HR.out]; exact hrow, trivial⟩, hB, hX⟩
      · gi_wp2_with (first
          | (refine ⟨trivial, ?_⟩; gi_at_call 69; refine (CallsIn.inRound l (callsIn_wide.2 HF.out)).mono ?_; rintro e w' ⟨rfl, rfl⟩)
          | (gi_at_builtin; refine wpListIn_append_own _ rfl _ _ 40 rfl w1.heap.size 2 i0 (.int .i64 0) 1 8 Tryd.underlying40 hi0 hz0 hz1 hz2 rfl (by decide) _ _ _ rfl (hrow.alloc _) ⟨W.heap.size, 0, none⟩ 1 1 [.int .i64 x] rfl rfl (cell_one_new _ _ _) (by simp [Value.oneCell']) (by unfold maxLen; omega) (by omega) (by have := hB.size; simp; omega) ?_; intro v' w2 hown' hgrow _; obtain ⟨g', cap', rfl⟩ := ownsRow_succ hown'; obtain ⟨hv1, hv2, hr2, hk2, hb2⟩ := hv.appended (by decide) hrow hB.size (Nat.le_refl _) hown' hgrow; have hc1 := hv1.cell; have hf1 := hv1.frozen; have hX2 : Boxed (w2.setCell ⟨w1.heap.size, 0, none⟩ (.slice (some ⟨g', 0, none⟩) ((keptL (grpQ (holes D) i j) pre).length + 1) cap')) (w1.heap.size + 1) 67 (.slice (some ⟨g, 0, none⟩) n n) := ((hX.alloc _).kept hgrow (by exact hX.not_row (by decide) hrow)).kept (grownBy_setCell' _ _ _) (by simp)))
        exact ⟨hk2, ⟨hb2, fun _ => hX2⟩, ⟨_, hv2, by rw [keptL_yes HR.out]; simpa using hr2, trivial⟩, hB.trans hb2, hX2⟩
    case done =>
      rintro Dd ys W hD rfl ⟨⟨v, hv, hrow, _⟩, hB, hX⟩ hK
      rw [keptL_range] at hrow
      have hc := hv.cell
      obtain ⟨A9, c9, rfl, hA⟩ := owned_list hrow rfl
      have hb9 : Below w1.heap.size w1 (W.putObj Dd (.deferred none)) := hB.trans (belowK_b (w := W0) (by omega) W Dd _ _ hD hK rfl rfl)
      have hlen := wherePl_len (grpQ (holes D) i j) n
      have HA := Lib.hid hA
      have HB9 := Lib.hid (below_step B1.out hb9)
      have HS9 := Lib.hid (World.block_lt_of_cell? _ _ hc)
      have HKD := Lib.hid hK
      have hz : w.heap.size ≤ w1.heap.size := by omega
      clear hst bK bS hb0 HQF hrow hv hX hA hB hK hb9
      gi_wp2
      refine ⟨by simp, .inl ⟨_, _, rfl, run_takeDeferred HKD.out, ?_⟩⟩
      refine ⟨.tuple #[.slice A9 (wherePl (grpQ (holes D) i j) n).length c9, .int .i64 0], (by simp [results, Tryd.results58, go_sem]), A9, c9, rfl, HB9.out, fun h0 => ?_, Nat.le_refl _⟩
      obtain ⟨g9, ex9, e9, hg9, hr9⟩ := HA.out h0
      have hr10 : Row (W.putObj Dd (.deferred none)) g9 (wherePl (grpQ (holes D) i j) n) ex9 := (World.putObj_heap_other (fun e => by subst e; unfold Row at hr9; rw [hr9] at HKD; cases Option.some.inj HKD.out)).trans hr9
      exact ⟨g9, ex9, e9, by omega, hr10.lt, hr10⟩
    case stop =>
      rintro Dd cc pre W _ _ h _
      exact h.elim
  · obtain ⟨k, hk0⟩ : ∃ k, keysC (holes D) a b = k := ⟨_, rfl⟩
    have ha : grpA (holes D) a b = [] := by
      unfold grpA
      rw [if_neg e]
    rw [ha, hk0]
    rw [hk0] at hk e
    rw [hN] at hk ⊢
    have e1 : (k != 0) = true := by simpa using e
    have HK := Lib.hid hk
    clear hk h hl hcap b2 hk0 hN hn hP ha
    refine (callsIn_wide (n := 6)).1 ?_
    refine callsIn_of_wp_marks Tryd.func58 rfl trivial ?_ rfl
    simp only [Tryd.ntmps58, List.size_toArray, List.length_cons, List.length_nil, Nat.reduceAdd, Nat.reduceSub, Array.replicate_succ, Array.replicate_zero, List.push_toArray, List.append_toArray, List.nil_append, List.cons_append]
    gi_wp2_with (refine ⟨trivial, ?_⟩; gi_at_call 62; refine (callsIn_wide.2 HK.out).mono ?_; rintro e' w1 (⟨_, rfl, hb⟩ | ⟨h0, _⟩); rotate_left; (exact absurd h0 e); have B1 := Lib.hid (below_step BW.out hb); clear hb)
    refine ⟨.tuple #[.slice none 0 0, .int .i64 k], (by simp [results, Tryd.results58, go_sem]), none, 0, rfl, B1.out, fun h0 => absurd h0 (by simp), Nat.le_refl _⟩
end

section
variable (A : Option Addr) (c : Nat) (D : List CardV) (B : Nat) (a b : Int) (w : World) (h : Deck w B A D) (hB : B ≤ w.heap.size) (hn : D.length ≤ 1048576) (hl : ∀ d ∈ D, d.xs.length ≤ 1048576)
include h hB hn hl
theorem implSeq_any (hcap : CapsOk D) (hP : Places w) :
    Calls Tryd.prog 26 #[.slice A D.length c, .agg #[.int .i64 a, .int .i64 b]] w (GivesIC (seqA (holes D) a b) (keysC (holes D) a b) w) := by
  have b0 := below_box w (.cells #[.int .i64 a, .int .i64 b] 30)
  have hk := whereSeq_any A c D B a b _ (h.below (b0.mono hB)) (by simp; omega) hn hl hcap (hP.below b0)
  have BW := Lib.hid b0
  have HK := Lib.hid hk
  have hsz : w.heap.size + 1 = (w.alloc (.cells #[.int .i64 a, .int .i64 b] 30)).heap.size := by simp
  have HSZ := Lib.hid hsz
  obtain ⟨L, hL⟩ : ∃ L, seqA (holes D) a b = L := ⟨_, rfl⟩
  obtain ⟨k, hk0⟩ : ∃ k, keysC (holes D) a b = k := ⟨_, rfl⟩
  obtain ⟨n, hN⟩ : ∃ n, D.length = n := ⟨_, rfl⟩
  rw [hL, hk0, hN] at HK
  rw [hL, hk0, hN]
  clear hk h hl hcap b0 hP hsz hL hk0 hN hn
  go_enter Tryd.func26, Tryd.ntmps26
  go_wp2_with fail
  refine HK.out.mono ?_
  rintro e w1 ⟨A1, c1, rfl, hb, hi⟩
  have B1 := Lib.hid (below_step BW.out hb)
  have HI := Lib.hid (hi.wide (lo' := w.heap.size) (hi' := w1.heap.size) (by simp) (Nat.le_refl _) (Nat.le_refl _))
  clear hb hi HK
  go_wp2
  go_ret2
  exact ⟨A1, c1, rfl, B1.out, HI.out⟩
theorem implGroups_any (hcap : CapsOk D) (hP : Places w) :
    Calls Tryd.prog 35 #[.slice A D.length c, .agg #[.int .i64 a, .int .i64 b]] w (GivesIC (grpA (holes D) a b) (keysC (holes D) a b) w) := by
  have b0 := below_box w (.cells #[.int .i64 a, .int .i64 b] 30)
  have hk := whereGrp_any A c D B a b _ (h.below (b0.mono hB)) (by simp; omega) hn hl hcap (hP.below b0)
  have BW := Lib.hid b0
  have HK := Lib.hid hk
  obtain ⟨L, hL⟩ : ∃ L, grpA (holes D) a b = L := ⟨_, rfl⟩
  obtain ⟨k, hk0⟩ : ∃ k, keysC (holes D) a b = k := ⟨_, rfl⟩
  obtain ⟨n, hN⟩ : ∃ n, D.length = n := ⟨_, rfl⟩
  rw [hL, hk0, hN] at HK
  rw [hL, hk0, hN]
  clear hk h hl hcap b0 hP hL hk0 hN hn
  go_enter Tryd.func35, Tryd.ntmps35
  go_wp2_with fail
  refine HK.out.mono ?_
  rintro e w1 ⟨A1, c1, rfl, hb, hi⟩
  have B1 := Lib.hid (below_step BW.out hb)
  have HI := Lib.hid (hi.wide (lo' := w.heap.size) (hi' := w1.heap.size) (by simp) (Nat.le_refl _) (Nat.le_refl _))
  clear hb hi HK
  go_wp2
  go_ret2
  exact ⟨A1, c1, rfl, B1.out, HI.out⟩
end
end Go.Proofs.YtmdamciheekeoaaDoor
