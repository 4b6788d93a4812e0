/- A range over a function value that is a method value: what such a loop does, out of what its iterator says and of its body's walk. No function of the program is spoken of. -/
import Derived.Test.YthkfdfocghmmeaaMem
import Derived.RangeFuncNested
import Derived.RangeFuncBound
import Derived.RangeFuncCalls
import Derived.RangeFuncLeaves
import Derived.Shelf.Abstract
import Derived.Shelf.RegionOpen
import Derived.WalkKit
import Derived.OwnWalkIn
import Derived.TacticsInMore
import Derived.LoopNIn
import Derived.LoopIn
namespace Go.Proofs.Ythkfdfocghmmeaa
open Go.RowKit

/-- How a round's body may end: it goes on, or it leaves by a return. -/
def BodyEnd (I X : World → Prop) (W : World) : Exit → Act → World → Prop
  | .normal, _, W' => KeepsOthers W W' ∧ I W'
  | .ret, _, W' => KeepsOthers W W' ∧ X W'
  | .exit _, _, _ => False
  | .goto _, _, _ => False
  | .panic _, _, _ => False
  | .outgrown, _, _ => False

/-- What an iterator says that is called with a first argument ahead of yield: some list has come, or a part of it. -/
def Iterates {α : Type} (m : Nat) (P : Program) (g : Nat) (first : Array Value) (enc : α → Value) (S Sp : List α → Prop) : Prop :=
  ∀ (l : Nat) (J Jx : List α → World → Prop) (W : World),
    (∀ pre x W1, Sp (pre ++ [x]) → J pre W1 → YieldAt Fence.wide (m - 1) P l #[enc x] W1 fun e W' => (e = .returned (.bool true) ∧ J (pre ++ [x]) W') ∨ (e = .returned (.bool false) ∧ Jx (pre ++ [x]) W')) →
    J [] W → CallsIn Fence.wide m P g (first ++ #[.func (.yield l) #[] #[]]) W fun e W' => (∃ v, e = .returned v) ∧ ((∃ xs, S xs ∧ J xs W') ∨ ∃ pre, Sp pre ∧ Jx pre W')

/-- A word on memory that abides what a loop keeps beside the program's variables, from a heap's size on. -/
structure Abides (b : Nat) (I : World → Prop) : Prop where
  put : ∀ (W : World) (l : Nat) (o o' : Obj), b ≤ l → W.heap[l]? = some o → o.isCells = false → I W → I (W.putObj l o')
  lay : ∀ (W : World) (o : Obj), b ≤ W.heap.size → I W → I (W.alloc o)

theorem wpIn_rangeFunc_first {α : Type} {P : Program} {n : Nat} {g : Operand} {p : Tmp} {assign body : Code} {Q : Exit → Act → World → Prop} {a : Act} {w : World} {gf : Nat} {first : Array Value}
    (hg : a.eval g = .func (.func gf) first #[]) (eg : ∀ args w, (callFunc gf args).run P w = .ok (.enter gf args) w) {enc : α → Value} {S Sp : List α → Prop}
    (hit : Iterates (n - 1) P gf first enc S Sp) (I X : List α → World → Prop) (hI : ∀ pre, Abides w.heap.size (I pre)) (hX : ∀ pre, Abides w.heap.size (X pre)) (h0 : I [] w) (a₁ : α → Act)
    (hassign : ∀ (l : Nat) (x : α) (W : World) (K : Act → World → Prop), K (a₁ x) W → assign.wpIn (Fence.wide.inRound l) (n - 1 - 1) P (Exit.then K (fun _ _ _ => False)) { tmps := a.tmps.setIfInBounds p (enc x), defers := [] } W)
    (hbody : ∀ (l : Nat) (pre : List α) (x : α) (W : World), Sp (pre ++ [x]) → I pre W → w.heap.size ≤ W.heap.size → body.wpIn (Fence.wide.inRound l) (n - 1 - 1) P (BodyEnd (I (pre ++ [x])) (X (pre ++ [x])) W) (a₁ x) W)
    (hdone : ∀ (xs : List α) (W : World), S xs → I xs W → W.heap[w.heap.size]? = some (.deferred (some [])) → Q .normal { a with defers := { target := .collected w.heap.size, args := #[] } :: a.defers } W)
    (hstop : ∀ (pre : List α) (W : World), Sp pre → X pre W → W.heap[w.heap.size]? = some (.deferred (some [])) → Code.ret.wpIn Fence.wide n P Q { a with defers := { target := .collected w.heap.size, args := #[] } :: a.defers } W) :
    (Code.rangeFunc g #[p] assign body).wpIn Fence.wide n P Q a w := by
  refine wpIn_rangeFunc fun fn hfn => ?_
  let rec_ : LoopState → Option Code → Loop := fun st pe => { state := st, pending := pe, fn, tmps := a.tmps, params := #[p], assign, body, defers := w.heap.size }
  let l := w.heap.size + 1
  obtain ⟨W1, hW1⟩ : ∃ W1, (w.alloc (.deferred (some []))).alloc (.loop (rec_ .ready none)) = W1 := ⟨_, rfl⟩
  have sz : W1.heap.size = w.heap.size + 2 := by rw [← hW1]; simp
  have atL : W1.heap[l]? = some (.loop (rec_ .ready none)) := by
    rw [← hW1]
    have := World.alloc_heap_new (w.alloc (.deferred (some []))) (.loop (rec_ .ready none))
    rwa [World.size_alloc] at this
  have atD : W1.heap[w.heap.size]? = some (.deferred (some [])) := by
    rw [← hW1]
    exact (Below.heap_alloc _ _ _ (by simp)).trans (World.alloc_heap_new w _)
  have i1 : I [] W1 := by
    rw [← hW1]
    exact (hI []).lay _ _ (by simp) ((hI []).lay _ _ (Nat.le_refl _) h0)
  -- what stands between two rounds, and behind the last one
  let J : List α → World → Prop := fun pre W => I pre W ∧ W.heap[l]? = some (.loop (rec_ .ready none)) ∧ W.heap[w.heap.size]? = some (.deferred (some []))
  let Jx : List α → World → Prop := fun pre W => X pre W ∧ W.heap[l]? = some (.loop (rec_ .done (some .ret))) ∧ W.heap[w.heap.size]? = some (.deferred (some []))
  refine ⟨l, [{ target := .collected w.heap.size, args := #[] }], W1, { target := .fn (.func gf) #[], args := first ++ #[.func (.yield l) #[] #[]] }, W1, gf, first ++ #[.func (.yield l) #[] #[]], W1, ?_, ?_, ?_, ?_, fun h => (by simp [Fence.wide] at h), ?_⟩
  · rw [← hW1]
    exact run_enterLoop_outer _ _ _ _ _
  · simp only [resolve, hg]
    simp [go_sem]
  · intro f' _
    trivial
  · simp [invoke, go_sem, eg]
  · refine (hit l J Jx W1 ?_ ⟨i1, atL, atD⟩).mono ?_
    · rintro pre x W hsp ⟨hi, hl, hd⟩
      have hlt : l < W.heap.size := (Array.getElem?_eq_some_iff.1 hl).1
      have hy := run_yield (P := P) (args := #[enc x]) hl rfl
      refine ⟨fn, _, assign, body, hy, roundIn_of_wpIn hfn ?_⟩
      have htm : ((rec_ .ready none).params.zip #[enc x]).foldl (fun t (q : Tmp × Value) => t.setIfInBounds q.1 q.2) (rec_ .ready none).tmps = a.tmps.setIfInBounds p (enc x) := by simp [rec_]
      rw [htm]
      refine hassign l x W _ ⟨_, run_beginRound hl rfl, ?_⟩
      have hl2 : (W.putObj l (.loop { rec_ .ready none with state := .busy })).heap[l]? = some (.loop { rec_ .ready none with state := .busy }) := World.putObj_heap_same hlt
      have hd2 : (W.putObj l (.loop { rec_ .ready none with state := .busy })).heap[w.heap.size]? = some (.deferred (some [])) := (World.putObj_heap_other (Nat.ne_of_lt (Nat.lt_succ_self _))).trans hd
      have hi2 := (hI pre).put W l _ (.loop { rec_ .ready none with state := .busy }) (by simp only [l]; omega) hl rfl hi
      have hs2 : w.heap.size ≤ (W.putObj l (.loop { rec_ .ready none with state := .busy })).heap.size :=
        Nat.le_of_lt (Nat.lt_of_succ_lt (Array.getElem?_eq_some_iff.1 hl2).1)
      refine wpIn_mono (hbody l pre x _ hsp hi2 hs2) ?_
      intro e a3 W3 hp
      cases e with
      | normal =>
        obtain ⟨k3, i3⟩ := hp
        have hl3 := k3.same l _ hl2 rfl
        have hd3 := k3.same w.heap.size _ hd2 rfl
        refine ⟨_, _, run_endRound none hl3, .inl ⟨rfl, (hI _).put W3 l _ _ (by simp only [l]; omega) hl3 rfl i3, World.putObj_heap_same (Array.getElem?_eq_some_iff.1 hl3).1, (World.putObj_heap_other (Nat.ne_of_lt (Nat.lt_succ_self _))).trans hd3⟩⟩
      | ret =>
        obtain ⟨k3, i3⟩ := hp
        have hl3 := k3.same l _ hl2 rfl
        have hd3 := k3.same w.heap.size _ hd2 rfl
        refine ⟨_, _, run_endRound (some .ret) hl3, .inr ⟨rfl, (hX _).put W3 l _ _ (by simp only [l]; omega) hl3 rfl i3, World.putObj_heap_same (Array.getElem?_eq_some_iff.1 hl3).1, (World.putObj_heap_other (Nat.ne_of_lt (Nat.lt_succ_self _))).trans hd3⟩⟩
      | exit id => exact hp.elim
      | goto t => exact hp.elim
      | panic ch => exact hp.elim
      | outgrown => exact hp.elim
    · rintro e W2 ⟨⟨v, rfl⟩, (⟨xs, hS, hi, hl, hd⟩ | ⟨pre, hSp, hx, hl, hd⟩)⟩
      · exact ⟨none, _, run_endLoop hl (by simp [rec_]), hdone xs _ hS ((hI xs).put W2 l _ _ (by simp only [l]; omega) hl rfl hi) ((World.putObj_heap_other (Nat.ne_of_lt (Nat.lt_succ_self _))).trans hd)⟩
      · exact ⟨some .ret, _, run_endLoop hl (by simp [rec_]), hstop pre _ hSp ((hX pre).put W2 l _ _ (by simp only [l]; omega) hl rfl hx) ((World.putObj_heap_other (Nat.ne_of_lt (Nat.lt_succ_self _))).trans hd)⟩
end Go.Proofs.Ythkfdfocghmmeaa
