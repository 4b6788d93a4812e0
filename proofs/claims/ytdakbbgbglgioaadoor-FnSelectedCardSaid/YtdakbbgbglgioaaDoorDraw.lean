/- What spec.l02Draw and spec.A2Card give: a card of masks from 0 to 4095, in memory of its own; nothing but the source's block turns. Condition: at most 3000 bytes, at most 64 columns. -/
import Derived.Test.YtdakbbgbglgioaaDoorSrc
import Derived.Test.YtdakbbgbglgioaaDoorOwnMem
import Derived.Maps.AppendAt
import Derived.Deep.AppendLies
import Derived.OwnWalk
import Derived.Laws.AppendOwn
import Derived.Outline
namespace Go.Proofs.YtdakbbgbglgioaaDoor
open Go.ChangeShapes Go.WideShapes Go.ChangeAt Go.RowKit

theorem Src.keep {w w' : World} {B g k : Nat} (h : Src w B g k) (hk : ∀ i, i ≤ g → w'.heap[i]? = w.heap[i]?) : Src w' B g k := by
  obtain ⟨A, n, c, j, s, h1, h2, h3, h4, h5, h6, h7⟩ := h
  exact ⟨A, n, c, j, s, h1.moved (fun p hp => World.cell?_of_block (hk p.block (by omega))), h2, h3, h4, h5, h6, (hk g (Nat.le_refl _)).trans h7⟩
theorem Src.far {w : World} {B g k : Nat} (h : Src w B g k) (p : Addr) (u : Value) (hp : g < p.block) : Src (w.setCell p u) B g k :=
  h.keep fun i hi => Below.heap_setCell w p u i (by omega)
theorem Src.boxed {w : World} {B g k : Nat} (h : Src w B g k) (o : Obj) : Src (w.alloc o) B g k := h.below (below_box w o)

def maskOk (l : List Int) : Prop := ∀ x ∈ l, 0 ≤ x ∧ x ≤ 4095
theorem maskOk.add {l : List Int} (h : maskOk l) {m : Int} (hm : 0 ≤ m ∧ m ≤ 4095) : maskOk (l ++ [m]) := by
  intro x hx
  rcases List.mem_append.1 hx with h' | h'
  · exact h x h'
  · rw [List.mem_singleton.1 h']
    exact hm
def bitsB : Bool := (List.range 10).all fun a => decide (0 ≤ wrap64 (4 * 2 ^ a)) && decide (wrap64 (4 * 2 ^ a) ≤ 4095)
def pairB : Bool := (List.range 3).all fun a => (List.range 9).all fun b => decide (0 ≤ bits .or .i64 (wrap64 (2 ^ a)) (wrap64 (8 * 2 ^ b))) && decide (bits .or .i64 (wrap64 (2 ^ a)) (wrap64 (8 * 2 ^ b)) ≤ 4095)
theorem one_ok (r : Int) (h0 : 0 ≤ r) (h1 : r < 10) : 0 ≤ wrap64 (4 * 2 ^ r.toNat) ∧ wrap64 (4 * 2 ^ r.toNat) ≤ 4095 := by
  have h : bitsB = true := by decide +kernel
  simp only [bitsB, List.all_eq_true, List.mem_range, Bool.and_eq_true, decide_eq_true_eq] at h
  exact h r.toNat (by omega)
theorem pair_ok (r q : Int) (h0 : 0 ≤ r) (h1 : r < 3) (h2 : 0 ≤ q) (h3 : q < 9) : 0 ≤ bits .or .i64 (wrap64 (2 ^ r.toNat)) (wrap64 (8 * 2 ^ q.toNat)) ∧ bits .or .i64 (wrap64 (2 ^ r.toNat)) (wrap64 (8 * 2 ^ q.toNat)) ≤ 4095 := by
  have h : pairB = true := by decide +kernel
  simp only [pairB, List.all_eq_true, List.mem_range, Bool.and_eq_true, decide_eq_true_eq] at h
  exact h r.toNat (by omega) q.toNat (by omega)

/-- What a drawing of n columns leaves. -/
def Draws (n B g K : Nat) (w : World) (e : Ending) (w' : World) : Prop :=
  ∃ gr cap l ex, e = .returned (.agg #[.slice (some ⟨gr, 0, none⟩) l.length cap]) ∧ l.length = n ∧ l.length ≤ cap ∧ cap ≤ maxLen ∧ maskOk l ∧ w.heap.size ≤ gr ∧ w.grownBy w' (some g) ∧ Src w' B g K ∧ Row w' gr l ex

theorem draws_of {n B g K : Nat} {w wr : World} {v : Value} {l : List Int} (hl : l.length = n) (h1 : 1 ≤ n) (hm : maskOk l) (hg : w.grownBy wr (some g)) (hs : Src wr B g K) (ho : wr.ownsRow (w.heap.size + 2) 2 1 v l.length (l.map (Value.int .i64))) :
    Draws n B g K w (.returned (.agg #[v])) wr := by
  rcases ho.2 with ⟨_, h0⟩ | ⟨gr, cap, cur, rfl, hb, hh, hc, hcm, _, ht⟩
  · omega
  · refine ⟨gr, cap, l, cur.toList.drop l.length, rfl, hl, hc, hcm, hm, by omega, hg, hs, ?_⟩
    unfold Row
    rw [hh]
    congr 2
    apply Array.ext'
    rw [← List.take_append_drop l.length cur.toList, ← ht, Nat.mul_one]
    simp

theorem l00From_any (A : Option Addr) (n c B : Nat) (w : World) (h : BytesAt w B A n) (hB : B ≤ w.heap.size) (hn : n ≤ 4096) :
    Calls Tryd.prog 29 #[.slice A n c] w fun e w' => e = .returned (.pointer (some ⟨w.heap.size, 0, none⟩)) ∧ Below w.heap.size w w' ∧ Src w' B w.heap.size 0 := by
  have H := Lib.hid h
  clear h
  go_enter Tryd.func29, Tryd.ntmps29
  go_wp2
  go_ret
  refine ⟨rfl, below_box w _, A, n, c, 0, 0, H.out.below ((below_box w _).mono hB), hB, hn, Nat.le_refl _, by omega, by omega, ?_⟩
  exact heap_alloc_new w _

/-- A card that was drawn. -/
def Drawn (w : World) (e : Ending) (w' : World) : Prop :=
  ∃ gr cap l ex, e = .returned (.agg #[.slice (some ⟨gr, 0, none⟩) l.length cap]) ∧ 1 ≤ l.length ∧ l.length ≤ 6 ∧ l.length ≤ cap ∧ cap ≤ maxLen ∧ maskOk l ∧ w.heap.size ≤ gr ∧ Below w.heap.size w w' ∧ Row w' gr l ex

end Go.Proofs.YtdakbbgbglgioaaDoor
