/- A range over a function value that is a method value: what such a loop does, out of what its iterator says and of its body's walk. No function of the program is spoken of. -/
import Derived.Test.YtjfogadcedgndaaSh1
import Derived.RangeFuncNested
import Derived.RangeFuncBound
import Derived.RangeFuncCalls
import Derived.RangeFuncLeaves
import Derived.Shelf.Abstract
import Derived.Shelf.RegionOpen
import Derived.WalkKit
import Derived.OwnWalkIn
import Derived.TacticsInMore
import Derived.LoopNIn
import Derived.LoopIn
import Derived.Test.YtjfogadcedgndaaSh4
import Derived.Test.YtjfogadcedgndaaSh6
namespace Go.Proofs.Ytjfogadcedgndaa
open Go.RowKit

/-- How a round's body may end: it goes on, or it leaves by a return. -/
def BodyEnd (I X : World → Prop) (W : World) : Exit → Act → World → Prop
  | .normal, _, W' => KeepsOthers W W' ∧ I W'
  | .ret, _, W' => KeepsOthers W W' ∧ X W'
  | .exit _, _, _ => False
  | .goto _, _, _ => False
  | .panic _, _, _ => False
  | .outgrown, _, _ => False

/-- What an iterator says that is called with a first argument ahead of yield: some list has come, or a part of it. -/
def Iterates {α : Type} (m : Nat) (P : Program) (g : Nat) (first : Array Value) (enc : α → Value) (S Sp : List α → Prop) : Prop :=
  ∀ (l : Nat) (J Jx : List α → World → Prop) (W : World),
    (∀ pre x W1, Sp (pre ++ [x]) → J pre W1 → YieldAt Fence.wide (m - 1) P l #[enc x] W1 fun e W' => (e = .returned (.bool true) ∧ J (pre ++ [x]) W') ∨ (e = .returned (.bool false) ∧ Jx (pre ++ [x]) W')) →
    J [] W → CallsIn Fence.wide m P g (first ++ #[.func (.yield l) #[] #[]]) W fun e W' => (∃ v, e = .returned v) ∧ ((∃ xs, S xs ∧ J xs W') ∨ ∃ pre, Sp pre ∧ Jx pre W')

/-- A word on memory that abides what a loop keeps beside the program's variables, from a heap's size on. -/
structure Abides (b : Nat) (I : World → Prop) : Prop where
  put : ∀ (W : World) (l : Nat) (o o' : Obj), b ≤ l → W.heap[l]? = some o → o.isCells = false → I W → I (W.putObj l o')
  lay : ∀ (W : World) (o : Obj), b ≤ W.heap.size → I W → I (W.alloc o)

theorem wpIn_rangeFunc_first {α : Type} {P : Program} {n : Nat} {g : Operand} {p : Tmp} {assign body : Code} {Q : Exit → Act → World → Prop} {a : Act} {w : World} {gf : Nat} {first : Array Value}
    (hg : a.eval g = .func (.func gf) first #[]) (eg : ∀ args w, (callFunc gf args).run P w = .ok (.enter gf args) w) {enc : α → Value} {S Sp : List α → Prop}
    (hit : Iterates (n - 1) P gf first enc S Sp) (I X : List α → World → Prop) (hI : ∀ pre, Abides w.heap.size (I pre)) (hX : ∀ pre, Abides w.heap.size (X pre)) (h0 : I [] w) (a₁ : α → Act)
    (hassign : ∀ (l : Nat) (x : α) (W : World) (K : Act → World → Prop), K (a₁ x) W → assign.wpIn (Fence.wide.inRound l) (n - 1 - 1) P (Exit.then K (fun _ _ _ => False)) { tmps := a.tmps.setIfInBounds p (enc x), defers := [] } W)
    (hbody : ∀ (l : Nat) (pre : List α) (x : α) (W : World), Sp (pre ++ [x]) → I pre W → w.heap.size ≤ W.heap.size → body.wpIn (Fence.wide.inRound l) (n - 1 - 1) P (BodyEnd (I (pre ++ [x])) (X (pre ++ [x])) W) (a₁ x) W)
    (hdone : ∀ (xs : List α) (W : World), S xs → I xs W → W.heap[w.heap.size]? = some (.deferred (some [])) → Q .normal { a with defers := { target := .collected w.heap.size, args := #[] } :: a.defers } W)
    (hstop : ∀ (pre : List α) (W : World), Sp pre → X pre W → W.heap[w.heap.size]? = some (.deferred (some [])) → Code.ret.wpIn Fence.wide n P Q { a with defers := { target := .collected w.heap.size, args := #[] } :: a.defers } W) :
    (Code.rangeFunc g #[p] assign body).wpIn Fence.wide n P Q a w := by
  refine wpIn_rangeFunc fun fn hfn => ?_
  let rec_ : LoopState → Option Code → Loop := fun st pe => { state := st, pending := pe, fn, tmps := a.tmps, params := #[p], assign, body, defers := w.heap.size }
  let l := w.heap.size + 1
  obtain ⟨W1, hW1⟩ : ∃ W1, (w.alloc (.deferred (some []))).alloc (.loop (rec_ .ready none)) = W1 := ⟨_, rfl⟩
  have sz : W1.heap.size = w.heap.size + 2 := by rw [← hW1]; simp
  have atL : W1.heap[l]? = some (.loop (rec_ .ready none)) := by
    rw [← hW1]
    have := World.alloc_heap_new (w.alloc (.deferred (some []))) (.loop (rec_ .ready none))
    rwa [World.size_alloc] at this
  have atD : W1.heap[w.heap.size]? = some (.deferred (some [])) := by
    rw [← hW1]
    exact (Below.heap_alloc _ _ _ (by simp)).trans (World.alloc_heap_new w _)
  have i1 : I [] W1 := by
    rw [← hW1]
    exact (hI []).lay _ _ (by simp) ((hI []).lay _ _ (Nat.le_refl _) h0)
  -- what stands between two rounds, and behind the last one
  let J : List α → World → Prop := fun pre W => I pre W ∧ W.heap[l]? = some (.loop (rec_ .ready none)) ∧ W.heap[w.heap.size]? = some (.deferred (some []))
  let Jx : List α → World → Prop := fun pre W => X pre W ∧ W.heap[l]? = some (.loop (rec_ .done (some .ret))) ∧ W.heap[w.heap.size]? = some (.deferred (some []))
  refine ⟨l, [{ target := .collected w.heap.size, args := #[] }], W1, { target := .fn (.func gf) #[], args := first ++ #[.func (.yield l) #[] #[]] }, W1, gf, first ++ #[.func (.yield l) #[] #[]], W1, ?_, ?_, ?_, ?_, fun h => (by simp [Fence.wide] at h), ?_⟩
  · rw [← hW1]
    exact run_enterLoop_outer _ _ _ _ _
  · simp only [resolve, hg]
    simp [go_sem]
  · intro f' _
    trivial
  · simp [invoke, go_sem, eg]
  · refine (hit l J Jx W1 ?_ ⟨i1, atL, atD⟩).mono ?_
    · rintro pre x W hsp ⟨hi, hl, hd⟩
      have hlt : l < W.heap.size := (Array.getElem?_eq_some_iff.1 hl).1
      have hy := run_yield (P := P) (args := #[enc x]) hl rfl
      refine ⟨fn, _, assign, body, hy, roundIn_of_wpIn hfn ?_⟩
      have htm : ((rec_ .ready none).params.zip #[enc x]).foldl (fun t (q : Tmp × Value) => t.setIfInBounds q.1 q.2) (rec_ .ready none).tmps = a.tmps.setIfInBounds p (enc x) := by simp [rec_]
      rw [htm]
      refine hassign l x W _ ⟨_, run_beginRound hl rfl, ?_⟩
      have hl2 : (W.putObj l (.loop { rec_ .ready none with state := .busy })).heap[l]? = some (.loop { rec_ .ready none with state := .busy }) := World.putObj_heap_same hlt
      have hd2 : (W.putObj l (.loop { rec_ .ready none with state := .busy })).heap[w.heap.size]? = some (.deferred (some [])) := (World.putObj_heap_other (Nat.ne_of_lt (Nat.lt_succ_self _))).trans hd
      have hi2 := (hI pre).put W l _ (.loop { rec_ .ready none with state := .busy }) (by simp only [l]; omega) hl rfl hi
      have hs2 : w.heap.size ≤ (W.putObj l (.loop { rec_ .ready none with state := .busy })).heap.size :=
        Nat.le_of_lt (Nat.lt_of_succ_lt (Array.getElem?_eq_some_iff.1 hl2).1)
      refine wpIn_mono (hbody l pre x _ hsp hi2 hs2) ?_
      intro e a3 W3 hp
      cases e with
      | normal =>
        obtain ⟨k3, i3⟩ := hp
        have hl3 := k3.same l _ hl2 rfl
        have hd3 := k3.same w.heap.size _ hd2 rfl
        refine ⟨_, _, run_endRound none hl3, .inl ⟨rfl, (hI _).put W3 l _ _ (by simp only [l]; omega) hl3 rfl i3, World.putObj_heap_same (Array.getElem?_eq_some_iff.1 hl3).1, (World.putObj_heap_other (Nat.ne_of_lt (Nat.lt_succ_self _))).trans hd3⟩⟩
      | ret =>
        obtain ⟨k3, i3⟩ := hp
        have hl3 := k3.same l _ hl2 rfl
        have hd3 := k3.same w.heap.size _ hd2 rfl
        refine ⟨_, _, run_endRound (some .ret) hl3, .inr ⟨rfl, (hX _).put W3 l _ _ (by simp only [l]; omega) hl3 rfl i3, World.putObj_heap_same (Array.getElem?_eq_some_iff.1 hl3).1, (World.putObj_heap_other (Nat.ne_of_lt (Nat.lt_succ_self _))).trans hd3⟩⟩
      | exit id => exact hp.elim
      | goto t => exact hp.elim
      | panic ch => exact hp.elim
      | outgrown => exact hp.elim
    · rintro e W2 ⟨⟨v, rfl⟩, (⟨xs, hS, hi, hl, hd⟩ | ⟨pre, hSp, hx, hl, hd⟩)⟩
      · exact ⟨none, _, run_endLoop hl (by simp [rec_]), hdone xs _ hS ((hI xs).put W2 l _ _ (by simp only [l]; omega) hl rfl hi) ((World.putObj_heap_other (Nat.ne_of_lt (Nat.lt_succ_self _))).trans hd)⟩
      · exact ⟨some .ret, _, run_endLoop hl (by simp [rec_]), hstop pre _ hSp ((hX pre).put W2 l _ _ (by simp only [l]; omega) hl rfl hx) ((World.putObj_heap_other (Nat.ne_of_lt (Nat.lt_succ_self _))).trans hd)⟩
end Go.Proofs.Ytjfogadcedgndaa

/- impl's iterator shifts hands on 0, 1, -1, 2, -2 and so on, below the number of columns: a contract. -/
namespace Go.Proofs.Ytjfogadcedgndaa
open Go.ChangeShapes Go.WideShapes Go.ChangeAt Go.RowKit

/-- the shifts that come ahead of k -/
def seqS : Nat → List Int
  | 0 => [0]
  | k + 1 => seqS k ++ [((k + 1 : Nat) : Int)] ++ [-((k + 1 : Nat) : Int)]

theorem seqS_prefix (j : Nat) : ∀ k, seqS j <+: seqS (j + k)
  | 0 => List.prefix_rfl
  | k + 1 => (seqS_prefix j k).trans ⟨[((j + k + 1 : Nat) : Int)] ++ [-((j + k + 1 : Nat) : Int)], by rw [← Nat.add_assoc, seqS, List.append_assoc]⟩

attribute [local go_sem] Oper.semAt_some

set_option maxRecDepth 100000 in
set_option maxHeartbeats 2000000 in
theorem shifts_iterates (A : Option Addr) (c n m : Nat) (hm : 1 ≤ m) (h0 : 1 ≤ n) (hn : n ≤ 1048576) :
    Iterates m Try.prog 78 #[.slice A n c] (fun x : Int => .int .i64 x) (fun xs => xs = seqS (n - 1)) (fun pre => pre <+: seqS (n - 1)) := fun l J Jx W hY hJ => by
  refine callsIn_of_wp Try.func78 rfl trivial ?_ rfl
  simp only [Try.ntmps78, List.size_toArray, List.length_cons, List.length_nil, Nat.reduceAdd, Nat.reduceSub, Array.replicate_succ, Array.replicate_zero, List.push_toArray, List.append_toArray, List.nil_append, List.cons_append]
  obtain ⟨f1, t1, a1, b1, hy1, hR1⟩ := hY [] 0 W (by have := seqS_prefix 0 (n - 1); rwa [Nat.zero_add] at this) hJ
  dsimp only at hy1
  gi_wp2
  refine hR1.mono ?_
  rintro e W1 (⟨rfl, hJ1⟩ | ⟨rfl, hx1⟩)
  · clear hy1 hR1
    gi_wp2
    gi_loopw [4] (fun i wr => ∃ k : Nat, 1 ≤ k ∧ k ≤ n ∧ i = .int .i64 k ∧ J (seqS (k - 1)) wr) (fun i _ => n - (intOf i).toNat)
    case atStart => exact ⟨1, Nat.le_refl _, h0, rfl, hJ1⟩
    case round =>
      obtain ⟨k, hk1, hk, rfl, hJk⟩ := hrel
      by_cases hlt : k < n
      · have hw : IntKind.i64.wrap (-(k : Int)) = -(k : Int) := IntWalk.i64_in _ (by omega)
        have j1 : (k : Int) < (n : Int) := by omega
        have j0 : (0 : Int) ≤ (k : Int) := Int.natCast_nonneg _
        have hs2 : seqS (k - 1) ++ [(k : Int)] ++ [-(k : Int)] = seqS (k + 1 - 1) := by
          obtain ⟨t, rfl⟩ : ∃ t, k = t + 1 := ⟨k - 1, by omega⟩
          rfl
        have hpre : seqS (k - 1) ++ [(k : Int)] ++ [-(k : Int)] <+: seqS (n - 1) := by
          rw [hs2]
          have := seqS_prefix (k + 1 - 1) (n - 1 - (k + 1 - 1))
          rwa [show k + 1 - 1 + (n - 1 - (k + 1 - 1)) = n - 1 by omega] at this
        obtain ⟨f2, t2, a2, b2, hy2, hR2⟩ := hY (seqS (k - 1)) k wr ((List.prefix_append _ _).trans hpre) hJk
        try dsimp only at hy2
        gi_wp2
        refine hR2.mono ?_
        rintro e W2 (⟨rfl, hJ2⟩ | ⟨rfl, hx2⟩)
        · obtain ⟨f3, t3, a3, b3, hy3, hR3⟩ := hY _ (-(k : Int)) W2 hpre hJ2
          try dsimp only at hy3
          clear hy2 hR2
          gi_wp2
          refine hR3.mono ?_
          rintro e W3 (⟨rfl, hJ3⟩ | ⟨rfl, hx3⟩)
          · clear hy3 hR3
            gi_wp2
            go_roundw
            case rel => exact ⟨k + 1, by omega, by omega, by go_num, by rw [← hs2]; exact hJ3⟩
            case measure => simp [intOf]; omega
          · gi_wp2
            refine bodyPost_ret (results_none rfl _ _ _) rfl ?_
            exact ⟨⟨_, rfl⟩, .inr ⟨_, hpre, hx3⟩⟩
        · gi_wp2
          refine ⟨fun _ h => (by cases h), ?_⟩
          gi_wp2
          refine bodyPost_ret (results_none rfl _ _ _) rfl ?_
          exact ⟨⟨_, rfl⟩, .inr ⟨_, (List.prefix_append _ _).trans hpre, hx2⟩⟩
      · have hkn : k = n := by omega
        have j1 : ¬ (k : Int) < (n : Int) := by omega
        gi_wp2
        go_end0
        subst hkn
        first | exact ⟨⟨_, rfl⟩, .inl hJk⟩ | exact ⟨⟨_, rfl⟩, .inl ⟨_, rfl, hJk⟩⟩
  · gi_wp2
    refine bodyPost_ret (results_none rfl _ _ _) rfl ?_
    exact ⟨⟨_, rfl⟩, .inr ⟨[0], by have := seqS_prefix 0 (n - 1); rwa [Nat.zero_add] at this, hx1⟩⟩
end Go.Proofs.Ytjfogadcedgndaa

/- spec.ShiftOf answers by how many columns a card has been shifted, or the code, for all cards of at most 1048576 columns: a contract. -/
namespace Go.Proofs.Ytjfogadcedgndaa
open Go.ChangeShapes Go.WideShapes Go.ChangeAt Go.RowKit

/-- the first shift that gives a card -/
def findS (xs ys : List Int) (l : List Int) : Option Int := l.find? fun b => decide (shiftL xs b = ys)
theorem findS_at {xs ys l pre : List Int} {x : Int} (hp : pre ++ [x] <+: l) (h : ∀ y ∈ pre, shiftL xs y ≠ ys) (hx : shiftL xs x = ys) : findS xs ys l = some x := by
  obtain ⟨post, rfl⟩ := hp
  have h1 : pre.find? (fun b => decide (shiftL xs b = ys)) = none := by
    rw [List.find?_eq_none]
    intro y hy
    simpa using h y hy
  rw [findS, List.find?_append, List.find?_append, h1]
  simp [hx]
theorem findS_none {xs ys l : List Int} (h : ∀ y ∈ l, shiftL xs y ≠ ys) : findS xs ys l = none := by
  rw [findS, List.find?_eq_none]
  intro y hy
  simpa using h y hy
theorem mem_seqS (b : Int) : ∀ k, b ∈ seqS k → ∃ j, j ≤ k ∧ (b = (j : Int) ∨ b = -(j : Int))
  | 0, h => by
    simp only [seqS, List.mem_singleton] at h
    exact ⟨0, Nat.le_refl _, Or.inl (by simpa using h)⟩
  | k + 1, h => by
    simp only [seqS, List.mem_append, List.mem_singleton] at h
    rcases h with (h | h) | h
    · obtain ⟨j, hj, h⟩ := mem_seqS b k h
      exact ⟨j, by omega, h⟩
    · exact ⟨k + 1, Nat.le_refl _, Or.inl h⟩
    · exact ⟨k + 1, Nat.le_refl _, Or.inr h⟩
/-- None of the shifts by less than k columns gives the card. -/
def NoShift (xs ys : List Int) (k : Nat) : Prop := ∀ j : Nat, j < k → shiftL xs (j : Int) ≠ ys ∧ shiftL xs (-(j : Int)) ≠ ys
theorem noShift_seq {xs ys : List Int} {k : Nat} (h : NoShift xs ys (k + 1)) : ∀ y ∈ seqS k, shiftL xs y ≠ ys := fun y hy => by
  obtain ⟨j, hj, rfl | rfl⟩ := mem_seqS y k hy
  · exact (h j (by omega)).1
  · exact (h j (by omega)).2
theorem find_right {xs ys : List Int} {k n : Nat} (h : NoShift xs ys k) (hx : shiftL xs (k : Int) = ys) (hk : k < n) : findS xs ys (seqS (n - 1)) = some (k : Int) := by
  cases k with
  | zero =>
    refine findS_at (pre := []) ?_ (by simp) hx
    have := seqS_prefix 0 (n - 1)
    rwa [Nat.zero_add] at this
  | succ k =>
    refine findS_at (pre := seqS k) ?_ (noShift_seq h) hx
    have := seqS_prefix (k + 1) (n - 1 - (k + 1))
    rw [show k + 1 + (n - 1 - (k + 1)) = n - 1 by omega] at this
    exact (List.prefix_append _ _).trans this
theorem find_left {xs ys : List Int} {k n : Nat} (h : NoShift xs ys k) (h1 : shiftL xs (k : Int) ≠ ys) (hx : shiftL xs (-(k : Int)) = ys) (hk : k < n) : findS xs ys (seqS (n - 1)) = some (-(k : Int)) := by
  cases k with
  | zero => exact absurd (by simpa using hx) h1
  | succ k =>
    refine findS_at (pre := seqS k ++ [((k + 1 : Nat) : Int)]) ?_ ?_ hx
    · have := seqS_prefix (k + 1) (n - 1 - (k + 1))
      rwa [show k + 1 + (n - 1 - (k + 1)) = n - 1 by omega] at this
    · intro y hy
      rcases List.mem_append.1 hy with hy | hy
      · exact noShift_seq h y hy
      · rw [List.mem_singleton] at hy
        rw [hy]
        exact h1
theorem find_none {xs ys : List Int} {n : Nat} (h : NoShift xs ys n) (hn : 1 ≤ n) : findS xs ys (seqS (n - 1)) = none :=
  findS_none (noShift_seq (by rwa [show n - 1 + 1 = n by omega]))

/-- what the two functions answer -/
def shiftVal (xs ys : List Int) : Int := if pairCode xs ys = 0 then (findS xs ys (seqS (xs.length - 1))).getD 0 else 0
def shiftErr (xs ys : List Int) : Int := if pairCode xs ys = 0 then (if (findS xs ys (seqS (xs.length - 1))).isSome = true then 0 else 3) else pairCode xs ys

theorem find_val {xs ys l : List Int} {b : Int} (h : findS xs ys l = some b) : (findS xs ys l).getD 0 = b ∧ (if (findS xs ys l).isSome = true then (0 : Int) else 3) = 0 := by
  rw [h]
  exact ⟨rfl, rfl⟩
theorem find_no {xs ys l : List Int} (h : findS xs ys l = none) : (findS xs ys l).getD 0 = 0 ∧ (if (findS xs ys l).isSome = true then (0 : Int) else 3) = 3 := by
  rw [h]
  exact ⟨rfl, rfl⟩

theorem specShiftOf_bad (A A' : Option Addr) (c c' : Nat) (xs ys : List Int) (B B' : Nat) (w : World) (h : Ints w B A xs) (h' : Ints w B' A' ys) (hB : B ≤ w.heap.size) (hB' : B' ≤ w.heap.size) (hn : xs.length ≤ 1048576) (hn' : ys.length ≤ 1048576) (e : pairCode xs ys ≠ 0) :
    Calls Try.prog 30 #[.agg #[.slice A xs.length c], .agg #[.slice A' ys.length c']] w fun e w' => e = .returned (.tuple #[.int .i64 (shiftVal xs ys), .int .i64 (shiftErr xs ys)]) ∧ Below w.heap.size w w' := by
  have i1 := (h.alloc hB (.cells #[.slice A xs.length c] 26)).alloc (by simp; omega) (.cells #[.slice A' ys.length c'] 26)
  have i2 := (h'.alloc hB' (.cells #[.slice A xs.length c] 26)).alloc (by simp; omega) (.cells #[.slice A' ys.length c'] 26)
  have o1 := l06Two_any A A' c c' xs ys B B' w.heap.size 0 (w.heap.size + 1) 0 _ (by simp [go_sem]) (by simp [go_sem]) i1 i2 hn hn'
  rw [shiftVal, shiftErr, if_neg e, if_neg e]
  obtain ⟨a, ha⟩ : ∃ a, pairCode xs ys = a := ⟨_, rfl⟩
  rw [ha] at o1 e ⊢
  have ha' : (a == 0) = false := by simpa using e
  have H1 := Lib.hid o1
  clear o1 i1 i2 h h' e ha
  go_enter Try.func30, Try.ntmps30
  go_wp2_with fail
  refine H1.out.mono ?_
  rintro e w1 ⟨rfl, hb⟩
  have B1 := Lib.hid (below_step ((below_box w _).alloc (by simp) _) hb)
  clear hb H1
  go_wp2
  go_ret2
  exact ⟨rfl, B1.out⟩

theorem specShiftOf_good (A A' : Option Addr) (c c' : Nat) (xs ys : List Int) (B B' : Nat) (w : World) (h : Ints w B A xs) (h' : Ints w B' A' ys) (hB : B ≤ w.heap.size) (hB' : B' ≤ w.heap.size) (hn : xs.length ≤ 1048576) (hn' : ys.length ≤ 1048576) (e : pairCode xs ys = 0) :
    Calls Try.prog 30 #[.agg #[.slice A xs.length c], .agg #[.slice A' ys.length c']] w fun e w' => e = .returned (.tuple #[.int .i64 (shiftVal xs ys), .int .i64 (shiftErr xs ys)]) ∧ Below w.heap.size w w' := by
  obtain ⟨hv, hv', hl⟩ := pairCode_zero e
  have h0 : 0 < xs.length := by
    have := hv
    simp [okB, inB] at this
    omega
  have i1 := (h.alloc hB (.cells #[.slice A xs.length c] 26)).alloc (by simp; omega) (.cells #[.slice A' ys.length c'] 26)
  have i2 := (h'.alloc hB' (.cells #[.slice A xs.length c] 26)).alloc (by simp; omega) (.cells #[.slice A' ys.length c'] 26)
  have o1 := l06Two_any A A' c c' xs ys B B' w.heap.size 0 (w.heap.size + 1) 0 _ (by simp [go_sem]) (by simp [go_sem]) i1 i2 hn hn'
  rw [e] at o1
  rw [shiftVal, shiftErr, if_pos e, if_pos e]
  have HFAR : Hid (∀ (b : Int) (W : World) (g cap p : Nat) (ex : List Value), W.cell? ⟨p, 0, none⟩ = some (.slice (some ⟨g, 0, none⟩) (shiftL xs b).length cap) → W.cell? ⟨w.heap.size + 1, 0, none⟩ = some (.slice A' ys.length c') → Row W g (shiftL xs b) ex → Ints W B' A' ys → B' ≤ W.heap.size →
      Calls Try.prog 82 #[.pointer (some ⟨p, 0, none⟩), .pointer (some ⟨w.heap.size + 1, 0, none⟩)] W fun e w' => e = .returned (.int .i64 (distN (shiftL xs b) ys)) ∧ Below W.heap.size W w') := fun b W g cap p ex hp hq hr hI hb =>
    l06Far_any (some ⟨g, 0, none⟩) A' cap c' (shiftL xs b) ys (g + 1) B' p 0 (w.heap.size + 1) 0 W hp hq hr.ints hI hr.lt hb (by rw [shiftL_length]; exact hn) (by rw [shiftL_length]; exact hl) (shiftL_mask xs b (okB_parts hv).1) (okB_parts hv').1
  have HYES : Hid (∀ b : Int, shiftL xs b = ys → distN (shiftL xs b) ys = 0) := fun b hc => (distN_zero (shiftL xs b) ys (shiftL_mask xs b (okB_parts hv).1) (okB_parts hv').1 (by rw [shiftL_length]; exact hl)).2 hc
  have HNOT : Hid (∀ b : Int, shiftL xs b ≠ ys → ¬ distN (shiftL xs b) ys = 0) := fun b hc e => hc ((distN_zero (shiftL xs b) ys (shiftL_mask xs b (okB_parts hv).1) (okB_parts hv').1 (by rw [shiftL_length]; exact hl)).1 e)
  have HSL := Lib.hid (fun b => shiftL_length xs b)
  obtain ⟨n, hN⟩ : ∃ n, xs.length = n := ⟨_, rfl⟩
  have hN20 : n ≤ 20 := by rw [← hN]; exact (okB_parts hv).2
  rw [hN] at o1 h0 ⊢
  have HSH : Hid (∀ (b : Int) (W : World), -1048576 ≤ b ∧ b ≤ 1048576 → W.cell? ⟨w.heap.size, 0, none⟩ = some (.slice A n c) → Ints W B A xs → B ≤ W.heap.size → Calls Try.prog 75 #[.pointer (some ⟨w.heap.size, 0, none⟩), .int .i64 b] W (GivesC (shiftL xs b) W)) := fun b W hb hp hI hB => by
    rw [← hN] at hp
    exact l06Shift_any A c xs B w.heap.size 0 b W hp hI hB (by rw [hN]; exact h0) hn hb
  obtain ⟨rv, hrv⟩ : ∃ v, (findS xs ys (seqS (n - 1))).getD 0 = v := ⟨_, rfl⟩
  obtain ⟨rc, hrc⟩ : ∃ v, (if (findS xs ys (seqS (n - 1))).isSome = true then (0 : Int) else 3) = v := ⟨_, rfl⟩
  rw [hrv, hrc]
  have HRV := Lib.hid hrv
  have HRC := Lib.hid hrc
  clear hrv hrc
  have H1 := Lib.hid o1
  have HN := Lib.hid hN
  have I1 := Lib.hid i1
  have I2 := Lib.hid i2
  clear o1 i1 i2 h h' e hv hv' hN hl
  go_enter Try.func30, Try.ntmps30
  go_wp2_with fail
  refine H1.out.mono ?_
  rintro e w1 ⟨rfl, hb⟩
  have B1 := Lib.hid (below_step ((below_box w _).alloc (by simp) _) hb)
  have c1 := cell_kept (p := ⟨w.heap.size, 0, none⟩) (v := .slice A n c) (by simp [go_sem]) hb
  have d1 := cell_kept (p := ⟨w.heap.size + 1, 0, none⟩) (v := .slice A' ys.length c') (by simp [go_sem]) hb
  have hle : B ≤ ((w.alloc (.cells #[.slice A n c] 26)).alloc (.cells #[.slice A' ys.length c'] 26)).heap.size := by simp; omega
  have hle' : B' ≤ ((w.alloc (.cells #[.slice A n c] 26)).alloc (.cells #[.slice A' ys.length c'] 26)).heap.size := by simp; omega
  have J1 : Hid (Ints w1 B A xs) := (HN.out ▸ I1.out).below (hb.mono hle)
  have J2 : Hid (Ints w1 B' A' ys) := (HN.out ▸ I2.out).below (hb.mono hle')
  have C1 := Lib.hid c1
  have D1 := Lib.hid d1
  have hBw := Nat.le_trans hB B1.out.size
  have hBw' := Nat.le_trans hB' B1.out.size
  clear hb H1 I1 I2
  go_wp2
  clear c1 d1
  go_loopw [8] (fun i wr => ∃ k : Nat, k ≤ n ∧ i = .int .i64 k ∧ Hid (Below w1.heap.size w1 wr) ∧ Hid (NoShift xs ys k)) (fun i _ => n - (intOf i).toNat)
  case atStart => exact ⟨0, Nat.zero_le _, rfl, Below.refl _ _, fun j hj => absurd hj (by omega)⟩
  case round =>
    obtain ⟨k, hk, rfl, HB, HNO⟩ := hrel
    by_cases hlt : k < n
    · have c2 := cell_kept C1.out HB.out
      have d2 := cell_kept D1.out HB.out
      have K1 := Lib.hid (J1.out.below (HB.out.mono hBw))
      have K2 := Lib.hid (J2.out.below (HB.out.mono hBw'))
      have s1 := HSH.out (k : Int) wr (by omega) c2 K1.out (Nat.le_trans hBw HB.out.size)
      have S1 := Lib.hid s1
      have j0 : (0 : Int) ≤ (k : Int) := Int.natCast_nonneg _
      have j1 : (k : Int) < (n : Int) := by omega
      have hw : IntKind.i64.wrap (-(k : Int)) = -(k : Int) := IntWalk.i64_in _ (by omega)
      clear s1
      go_wp2_with fail
      refine S1.out.mono ?_
      rintro e w2 ⟨g, cap, ex, rfl, hg, hb2, hr⟩
      have hbx := below_box w2 (.cells #[.slice (some ⟨g, 0, none⟩) (shiftL xs k).length cap] 26)
      have B2 := Lib.hid (below_step (below_step HB.out hb2) hbx)
      have c3 := Lib.hid (cell_kept (cell_kept c2 hb2) hbx)
      have d3 := Lib.hid (cell_kept (cell_kept d2 hb2) hbx)
      have r3 := Lib.hid (hr.later hbx)
      have L1 := Lib.hid ((K1.out.below (hb2.mono (Nat.le_trans hBw HB.out.size))).below (hbx.mono (Nat.le_trans (Nat.le_trans hBw HB.out.size) hb2.size)))
      have L2 := Lib.hid ((K2.out.below (hb2.mono (Nat.le_trans hBw' HB.out.size))).below (hbx.mono (Nat.le_trans (Nat.le_trans hBw' HB.out.size) hb2.size)))
      have b3 : Hid ((w2.alloc (.cells #[.slice (some ⟨g, 0, none⟩) (shiftL xs k).length cap] 26)).cell? ⟨w2.heap.size, 0, none⟩ = some (.slice (some ⟨g, 0, none⟩) (shiftL xs k).length cap)) := by
        show _ = _
        simp
      clear hb2 hr hbx S1 K1 K2 c2 d2
      go_wp2_with fail
      have f1 := HFAR.out (k : Int) _ g cap w2.heap.size ex b3.out d3.out r3.out L2.out (Nat.le_trans hBw' B2.out.size)
      obtain ⟨d1, hd1⟩ : ∃ d, distN (shiftL xs (k : Int)) ys = d := ⟨_, rfl⟩
      have HD1 := Lib.hid hd1
      rw [hd1] at f1
      clear hd1
      refine f1.mono ?_
      rintro e w3 ⟨rfl, hb3⟩
      have B3 := Lib.hid (below_step B2.out hb3)
      have c4 := cell_kept c3.out hb3
      have d4 := cell_kept d3.out hb3
      have M1 := Lib.hid (L1.out.below (hb3.mono (Nat.le_trans hBw B2.out.size)))
      have M2 := Lib.hid (L2.out.below (hb3.mono (Nat.le_trans hBw' B2.out.size)))
      clear hb3 f1 b3 d3 c3 r3 L1 L2
      by_cases hyes : shiftL xs (k : Int) = ys
      · obtain rfl : d1 = 0 := by rw [← HD1.out]; exact HYES.out _ hyes
        have HF := Lib.hid (find_val (find_right HNO.out hyes hlt))
        clear hyes HD1
        go_wp2
        refine bodyPost_ret (v := .tuple #[.int .i64 (k : Int), .int .i64 0]) (by simp [results, Try.results30, go_sem]) rfl ⟨by rw [← HRV.out, ← HRC.out, HF.out.1, HF.out.2], B1.out.trans (B3.out.mono B1.out.size)⟩
      · have hz1 : ¬ d1 = 0 := by rw [← HD1.out]; exact HNOT.out _ hyes
        have HY := Lib.hid hyes
        have s2 := HSH.out (-(k : Int)) w3 (by omega) c4 M1.out (Nat.le_trans hBw B3.out.size)
        have S2 := Lib.hid s2
        clear hyes s2
        go_wp2_with fail
        refine S2.out.mono ?_
        rintro e w4 ⟨g', cap', ex', rfl, hg', hb4, hr'⟩
        have hbx := below_box w4 (.cells #[.slice (some ⟨g', 0, none⟩) (shiftL xs (-(k : Int))).length cap'] 26)
        have B4 := Lib.hid (below_step (below_step B3.out hb4) hbx)
        have d5 := Lib.hid (cell_kept (cell_kept d4 hb4) hbx)
        have r5 := Lib.hid (hr'.later hbx)
        have N2 := Lib.hid ((M2.out.below (hb4.mono (Nat.le_trans hBw' B3.out.size))).below (hbx.mono (Nat.le_trans (Nat.le_trans hBw' B3.out.size) hb4.size)))
        have b5 : Hid ((w4.alloc (.cells #[.slice (some ⟨g', 0, none⟩) (shiftL xs (-(k : Int))).length cap'] 26)).cell? ⟨w4.heap.size, 0, none⟩ = some (.slice (some ⟨g', 0, none⟩) (shiftL xs (-(k : Int))).length cap')) := by
          show _ = _
          simp
        clear hb4 hr' hbx S2 M1 M2 c4 d4
        go_wp2_with fail
        have f2 := HFAR.out (-(k : Int)) _ g' cap' w4.heap.size ex' b5.out d5.out r5.out N2.out (Nat.le_trans hBw' B4.out.size)
        obtain ⟨d2, hd2⟩ : ∃ d, distN (shiftL xs (-(k : Int))) ys = d := ⟨_, rfl⟩
        have HD2 := Lib.hid hd2
        rw [hd2] at f2
        clear hd2
        refine f2.mono ?_
        rintro e w5 ⟨rfl, hb5⟩
        have B5 := Lib.hid (below_step B4.out hb5)
        clear hb5 f2 b5 d5 r5 N2
        by_cases hyes2 : shiftL xs (-(k : Int)) = ys
        · obtain rfl : d2 = 0 := by rw [← HD2.out]; exact HYES.out _ hyes2
          have HF := Lib.hid (find_val (find_left HNO.out HY.out hyes2 hlt))
          clear hyes2 HD2
          go_wp2
          refine bodyPost_ret (v := .tuple #[.int .i64 (-(k : Int)), .int .i64 0]) (by simp [results, Try.results30, go_sem]) rfl ⟨by rw [← HRV.out, ← HRC.out, HF.out.1, HF.out.2], B1.out.trans (B5.out.mono B1.out.size)⟩
        · have hz2 : ¬ d2 = 0 := by rw [← HD2.out]; exact HNOT.out _ hyes2
          have HY2 := Lib.hid hyes2
          clear hyes2
          go_wp2
          go_roundw
          case rel => exact ⟨k + 1, by omega, by go_num, B5, fun j hj => by
            by_cases e : j = k
            · rw [e]; exact ⟨HY.out, HY2.out⟩
            · exact HNO.out j (by omega)⟩
          case measure => simp [intOf]; omega
    · obtain rfl : k = n := by omega
      have HF := Lib.hid (find_no (find_none HNO.out (by omega)))
      have j1 : ¬ (k : Int) < (k : Int) := by omega
      go_wp2
      refine bodyPost_ret (v := .tuple #[.int .i64 0, .int .i64 3]) (by simp [results, Try.results30, go_sem]) rfl ⟨by rw [← HRV.out, ← HRC.out, HF.out.1, HF.out.2], B1.out.trans (HB.out.mono B1.out.size)⟩
end Go.Proofs.Ytjfogadcedgndaa

/- A shift that ShiftOf answers without an error gives the card that is read: plain facts. -/
namespace Go.Proofs.Ytjfogadcedgndaa
open Go.ChangeShapes Go.WideShapes Go.ChangeAt Go.RowKit

theorem findS_some {xs ys l : List Int} {b : Int} (h : findS xs ys l = some b) : b ∈ l ∧ shiftL xs b = ys := by
  have h1 := List.mem_of_find?_eq_some h
  have h2 := List.find?_some h
  exact ⟨h1, by simpa using h2⟩
theorem shiftErr_zero {xs ys : List Int} (h : shiftErr xs ys = 0) : okB xs = true ∧ shiftCode xs (shiftVal xs ys) = 0 ∧ shiftL xs (shiftVal xs ys) = ys := by
  by_cases e : pairCode xs ys = 0
  · rw [shiftErr, if_pos e] at h
    rw [shiftVal, if_pos e]
    obtain ⟨hv, _, _⟩ := pairCode_zero e
    cases hf : findS xs ys (seqS (xs.length - 1)) with
    | none =>
      rw [hf] at h
      simp at h
    | some b =>
      obtain ⟨hm, hs⟩ := findS_some hf
      obtain ⟨j, hj, hb⟩ := mem_seqS b _ hm
      have h20 := (okB_parts hv).2
      refine ⟨hv, ?_, hs⟩
      show shiftCode xs b = 0
      have hin : inB b (-20) 20 = true := by
        simp only [inB, Bool.and_eq_true, decide_eq_true_eq]
        omega
      rw [shiftCode, hv, hin]
      simp
  · rw [shiftErr, if_neg e] at h
    exact absurd h e
end Go.Proofs.Ytjfogadcedgndaa
