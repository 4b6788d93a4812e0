/- The places of a deck for which something holds of how a card compares with the one before it: impl.orders, impl.placesWhere at the two functions with which it is called, impl.SequenceErrors and impl.GroupsOf: contracts. -/
import Derived.Test.YtamookdlbmbncabDoorG6
import Derived.Test.YtamookdlbmbncabDoorG3
import Derived.Test.YtamookdlbmbncabDoorIntsAt
import Derived.Test.YtamookdlbmbncabDoorGrow
import Derived.RangeFuncNested
import Derived.RangeFuncBound
import Derived.RangeFuncCalls
import Derived.RangeFuncLeaves
import Derived.Shelf.Abstract
import Derived.Shelf.RegionOpen
import Derived.WalkKit
import Derived.OwnWalkIn
import Derived.TacticsInMore
import Derived.LoopNIn
import Derived.LoopIn
import Derived.Maps.AppendAt
import Derived.RangeFuncBox
namespace Go.Proofs.YtamookdlbmbncabDoor
open Go.ChangeShapes Go.WideShapes Go.ChangeAt Go.RowKit

attribute [local go_sem] Oper.semAt_some

set_option maxHeartbeats 1000000 in
theorem entCompare_any (a1 a2 A A' : Option Addr) (l1 l2 c1 c2 c c' : Nat) (xs ys : List Int) (n B B' : Nat) (w : World) (h : Ints w B A (xs.map rkI)) (h' : Ints w B' A' (ys.map rkI)) (hB : B ≤ w.heap.size) (hB' : B' ≤ w.heap.size) (hx : xs.length = n) (hy : ys.length = n) (hn : n ≤ 1048576) :
    Calls Tryd.prog 36 #[.agg #[.slice a1 l1 c1, .slice A n c], .agg #[.slice a2 l2 c2, .slice A' n c']] w fun e w' => e = .returned (.int .i64 (cmpTo xs ys n)) ∧ Below w.heap.size w w' := by
  have b2 : Below w.heap.size w ((w.alloc (.cells #[.slice a1 l1 c1, .slice A n c] 68)).alloc (.cells #[.slice a2 l2 c2, .slice A' n c'] 68)) := (below_box w _).alloc (by simp) _
  have hc := slicesCompare_any A A' c c' xs ys n B B' _ (h.below (b2.mono hB)) (h'.below (b2.mono hB')) hx hy hn
  have HC := Lib.hid hc
  have HB := Lib.hid b2
  clear hc h h' hx hy b2
  go_enter Tryd.func36, Tryd.ntmps36
  go_wp2_with fail
  refine HC.out.mono ?_
  rintro e w' ⟨rfl, rfl⟩
  go_wp2
  go_ret
  exact ⟨rfl, HB.out⟩

/-- how the card at a place compares with the one before it; the first one counts as greater -/
def ordI (H : List (List Int)) (i j k : Nat) : Int := if k = 0 then 1 else cmpK H i j k (k - 1)
def ordE (H : List (List Int)) (i j : Nat) (k : Nat) : Array Value := #[.int .i64 k, .int .i64 (ordI H i j k)]
/-- what a round keeps: what lay below n₀, and the box of the list -/
def KpO (n₀ Bs : Nat) (v : Value) (W W' : World) : Prop := Below n₀ W W' ∧ (Boxed W Bs 61 v → Boxed W' Bs 61 v)
theorem kpO_t {n₀ Bs : Nat} {v : Value} {A B C : World} (h : KpO n₀ Bs v A B) (k : KpO n₀ Bs v B C) : KpO n₀ Bs v A C := ⟨h.1.trans k.1, fun hb => k.2 (h.2 hb)⟩
theorem kpO_b {n₀ Bs : Nat} {v : Value} {w : World} (hn : n₀ ≤ w.heap.size) (hs : Bs < w.heap.size) (W : World) (l : Nat) (o o' : Obj) (hl : w.heap.size ≤ l) (h : W.heap[l]? = some o) (_ : o.isCells = false) (_ : o.isWalk = false) : KpO n₀ Bs v W (W.putObj l o') :=
  ⟨(Below.refl n₀ W).grown (grownBy_putObj' W l o') (by have := (Array.getElem?_eq_some_iff.1 h).1; omega) (fun k e => by cases e; omega), fun hb => hb.kept (grownBy_putObj' W l o') (by simp; omega)⟩
theorem below_grown {W W' : World} (h : Below W.heap.size W W') : W.grownBy W' none := ⟨h.os, h.tape, h.output, h.size, fun j hj _ => h.block j hj⟩
theorem abides_later {β : Type} {B : Nat} {J : β → World → Prop} (hJ : AbidesFrom B J) {s : β} {W W' : World} (h : J s W) (hb : Below W.heap.size W W') : J s W' :=
  hJ s W W' none h (below_grown hb) (fun r e => by cases e)
theorem boxed_later {W W' : World} {B : Nat} {t : TypeId} {v : Value} (h : Boxed W B t v) (hb : Below W.heap.size W W') : Boxed W' B t v := (hb.block B h.lt).trans h

/-- what entries are: each key has the ranks of its card's field -/
structure EntsOf (D : List CardV) (i j n : Nat) (E K : List CardV) : Prop where
  len : D.length = n
  hE : holes E = holes D
  hK : holes K = rks (holes D) i j
  ok : deckB (holes D) = true
  keys : keysB (holes D) i j = true
  lt : i < j
  le : j ≤ widthH (holes D)
theorem EntsOf.at_ {D E K : List CardV} {i j n : Nat} (h : EntsOf D i j n E K) {k : Nat} (hk : k < n) : ∃ d e q, D[k]? = some d ∧ E[k]? = some e ∧ K[k]? = some q ∧ e.xs = d.xs ∧ q.xs = (partOf d.xs i j).map rkI ∧ (partOf d.xs i j).length = j - i ∧ j - i ≤ 20 ∧ 0 < d.xs.length ∧ d.xs.length ≤ 20 ∧ textOk (partOf d.xs i j) = true := by
  have hlE : E.length = n := by rw [← holes_len, h.hE, holes_len, h.len]
  have hlK : K.length = n := by rw [← holes_len, h.hK, rks, List.length_map, holes_len, h.len]
  have hd : D[k]? = some (D[k]'(by rw [h.len]; exact hk)) := List.getElem?_eq_getElem _
  have he : E[k]? = some (E[k]'(by omega)) := List.getElem?_eq_getElem _
  have hq : K[k]? = some (K[k]'(by omega)) := List.getElem?_eq_getElem _
  obtain ⟨y1, y2⟩ := deck_width h.ok (holes_at hd)
  refine ⟨_, _, _, hd, he, hq, ?_, ?_, ?_, ?_, ?_, ?_, ?_⟩
  · have h1 := holes_at he
    rw [h.hE, holes_at hd] at h1
    exact (Option.some.inj h1).symm
  · have h1 := holes_at hq
    rw [h.hK, rks, List.getElem?_map, holes_at hd] at h1
    exact (Option.some.inj h1).symm
  · exact partOf_length _ _ _ (by rw [y2]; exact h.le)
  · have := (okB_parts y1).2
    have := h.le
    omega
  · have := h.lt
    have := h.le
    omega
  · exact (okB_parts y1).2
  · exact keysB_at (holes_at hd) h.keys
theorem EntsOf.lenE {D E K : List CardV} {i j n : Nat} (h : EntsOf D i j n E K) : E.length = n := by rw [← holes_len, h.hE, holes_len, h.len]
theorem EntsOf.lenK {D E K : List CardV} {i j n : Nat} (h : EntsOf D i j n E K) : K.length = n := by rw [← holes_len, h.hK, rks, List.length_map, holes_len, h.len]
theorem EntsOf.n40 {D E K : List CardV} {i j n : Nat} (h : EntsOf D i j n E K) : n ≤ 40 := by
  have := deck_len h.ok
  rw [holes_len, h.len] at this
  exact this
/-- the comparison of two entries -/
theorem entCmp_at {D E K : List CardV} {i j n g lo : Nat} {w : World} (hO : EntsOf D i j n E K) (he : Ents w lo g E K n) {p q : Nat} (hp : p < n) (hq : q < n) :
    ∃ v1 v2, w.cell? ⟨g, p * 2, none⟩ = some v1.1 ∧ w.cell? ⟨g, p * 2 + 1, none⟩ = some v1.2 ∧ w.cell? ⟨g, q * 2, none⟩ = some v2.1 ∧ w.cell? ⟨g, q * 2 + 1, none⟩ = some v2.2 ∧ (∃ a l c a' c', v1 = (.slice a l c, .slice a' (j - i) c')) ∧ (∃ a l c a' c', v2 = (.slice a l c, .slice a' (j - i) c')) ∧
      ∀ W, Below w.heap.size w W → Calls Tryd.prog 36 #[.agg #[v1.1, v1.2], .agg #[v2.1, v2.2]] W fun e w' => e = .returned (.int .i64 (cmpK (holes D) i j p q)) ∧ Below W.heap.size W w' := by
  obtain ⟨d, e1, q1, hd, he1, hq1, x1, x2, x3, x4, x5, x6, x7⟩ := hO.at_ hp
  obtain ⟨d', e2, q2, hd', he2, hq2, z1, z2, z3, z4, z5, z6, z7⟩ := hO.at_ hq
  have hl : E.length ≤ K.length := by rw [hO.lenE, hO.lenK]; omega
  have c1 := he.card hl he1
  have c2 := he.key (by rw [hO.lenE]; exact hp) hq1
  have c3 := he.card hl he2
  have c4 := he.key (by rw [hO.lenE]; exact hq) hq2
  have m1 : q1.xs.length = j - i := by rw [x2, List.length_map, x3]
  have m2 : q2.xs.length = j - i := by rw [z2, List.length_map, z3]
  unfold CardV.value at c1 c2 c3 c4
  rw [m1] at c2
  rw [m2] at c4
  refine ⟨(_, _), (_, _), c1, c2, c3, c4, ⟨_, _, _, _, _, rfl⟩, ⟨_, _, _, _, _, rfl⟩, fun W hW => ?_⟩
  obtain ⟨g1, ex1, a1, r1⟩ := he.keys q1 (List.mem_of_getElem? hq1)
  obtain ⟨g2, ex2, a2, r2⟩ := he.keys q2 (List.mem_of_getElem? hq2)
  have i1 := (r1.later hW).ints
  have i2 := (r2.later hW).ints
  rw [x2] at i1
  rw [z2] at i2
  rw [cmpK_at hd hd', a1, a2]
  have l1 := (r1.later hW).lt
  have l2 := (r2.later hW).lt
  exact entCompare_any _ _ _ _ _ _ _ _ _ _ _ _ _ _ _ W i1 i2 (by omega) (by omega) x3 z3 (by omega)

/-- the places that are kept -/
def keptL (q : Nat → Bool) (pre : List Nat) : List Int := (pre.filter q).map fun (k : Nat) => (k : Int)
theorem keptL_range (q : Nat → Bool) : ∀ n, keptL q (List.range n) = wherePl q n
  | 0 => rfl
  | n + 1 => by
    have ih := keptL_range q n
    unfold keptL at ih ⊢
    unfold wherePl
    rw [List.range_succ, List.filter_append, List.map_append, ih]
    cases h : q n <;> simp [h]
theorem keptL_yes {q : Nat → Bool} {pre : List Nat} {x : Nat} (h : q x = true) : keptL q (pre ++ [x]) = keptL q pre ++ [(x : Int)] := by simp [keptL, h]
theorem keptL_no {q : Nat → Bool} {pre : List Nat} {x : Nat} (h : q x = false) : keptL q (pre ++ [x]) = keptL q pre := by simp [keptL, h]
theorem keptL_len (q : Nat → Bool) (pre : List Nat) : (keptL q pre).length ≤ pre.length := by
  unfold keptL
  rw [List.length_map]
  exact List.length_filter_le _ _
theorem seq_ord (H : List (List Int)) (i j k : Nat) : decide (ordI H i j k < 0) = seqQ H i j k := by
  unfold ordI seqQ
  rcases Nat.eq_zero_or_pos k with rfl | h
  · simp
  · rw [if_neg (by omega)]
    simp [h]
theorem grp_ord (H : List (List Int)) (i j k : Nat) : (ordI H i j k != 0) = grpQ H i j k := by
  unfold ordI grpQ
  rcases Nat.eq_zero_or_pos k with rfl | h
  · simp
  · rw [if_neg (by omega)]
    have h0 : decide (k = 0) = false := by simp; omega
    rw [h0, Bool.false_or]
    by_cases e : cmpK H i j k (k - 1) = 0 <;> simp [e]

section
variable (A : Option Addr) (c : Nat) (D : List CardV) (B : Nat) (a b : Int) (w : World) (h : Deck w B A D) (hB : B ≤ w.heap.size) (hn : D.length ≤ 1048576) (hl : ∀ d ∈ D, d.xs.length ≤ 1048576)
end

section
variable (A : Option Addr) (c : Nat) (D : List CardV) (B : Nat) (a b : Int) (w : World) (h : Deck w B A D) (hB : B ≤ w.heap.size) (hn : D.length ≤ 1048576) (hl : ∀ d ∈ D, d.xs.length ≤ 1048576)
end

section
variable (A : Option Addr) (c : Nat) (D : List CardV) (B : Nat) (a b : Int) (w : World) (h : Deck w B A D) (hB : B ≤ w.heap.size) (hn : D.length ≤ 1048576) (hl : ∀ d ∈ D, d.xs.length ≤ 1048576)
end
end Go.Proofs.YtamookdlbmbncabDoor