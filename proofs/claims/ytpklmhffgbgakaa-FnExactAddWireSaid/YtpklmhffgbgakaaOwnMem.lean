/- What an append to a list of numbers of the call's own leaves: lemmas on memory. No function of the program is spoken of. -/
import Derived.Test.YtpklmhffgbgakaaMem
import Derived.Maps.AppendAt
import Derived.Deep.AppendLies
import Derived.OwnWalk
import Derived.Laws.AppendOwn
import Derived.Outline
namespace Go.Proofs.Ytpklmhffgbgakaa
open Go.ChangeShapes Go.WideShapes Go.ChangeAt Go.RowKit

theorem info_int : (Try.prog.info? 2).map (fun i => (i.zero, i.size, i.bytes)) = some (some (.int .i64 0), 1, 8) := by kernel_rfl

theorem own_moved {w w' : World} {base n size : Nat} {e : TypeId} {v : Value} {xs : List Value} (h : w.ownsRow base e size v n xs) (hk : ∀ i, base ≤ i → i < w.heap.size → w'.heap[i]? = w.heap[i]?) : w'.ownsRow base e size v n xs := by
  refine ⟨h.1, ?_⟩
  rcases h.2 with h0 | ⟨g, cap, cur, hv, hb, hh, rest⟩
  · exact Or.inl h0
  · refine Or.inr ⟨g, cap, cur, hv, hb, ?_, rest⟩
    rw [hk g hb ?_]
    · exact hh
    · rcases Nat.lt_or_ge g w.heap.size with hlt | hge
      · exact hlt
      · rw [Array.getElem?_eq_none hge] at hh
        cases hh
theorem own_only {w w' : World} {base n size g : Nat} {e : TypeId} {v : Value} {xs : List Value} (h : w.ownsRow base e size v n xs) (hg : w.grownBy w' (some g)) (hlt : g < base) : w'.ownsRow base e size v n xs :=
  own_moved h fun i hi hiw => hg.block i hiw (fun e => by injection e with e; omega)
theorem own_far {w : World} {base n size : Nat} {e : TypeId} {v : Value} {xs : List Value} (h : w.ownsRow base e size v n xs) (p : Addr) (u : Value) (hlt : p.block < base) : (w.setCell p u).ownsRow base e size v n xs :=
  own_moved h fun i hi _ => Below.heap_setCell w p u i (by omega)
theorem frozen_only {w w' : World} {g : Nat} (h : w.grownBy w' (some g)) {p : Addr} {v : Value} (hc : w.cell? p = some v) (f : w.frozen? p = false) (hne : p.block ≠ g) : w'.frozen? p = false := by
  have hb := h.block p.block (World.block_lt_of_cell? _ _ hc) (fun e => hne (by injection e))
  unfold World.frozen? at f ⊢
  rw [hb]
  exact f
/-- What an append to a row above the source leaves. -/
theorem only_append {w0 wr w' : World} {g base n size : Nat} {et : TypeId} {v : Value} {xs : List Value} {o : Obj} (h : w0.grownBy wr (some g)) (hgrow : (wr.alloc o).grownBy w' v.ownBlock) (hown : wr.ownsRow base et size v n xs) (hb : w0.heap.size ≤ base) : w0.grownBy w' (some g) := by
  refine ⟨hgrow.os.trans h.os, hgrow.tape.trans h.tape, hgrow.output.trans h.output, ?_, fun i hi hne => ?_⟩
  · have := hgrow.size
    have := h.size
    simp at *
    omega
  · have h1 : i < wr.heap.size := Nat.lt_of_lt_of_le hi h.size
    rw [hgrow.block i (by simp; omega) (fun e => by have := (hown.lt i e.symm).1; omega), Below.heap_alloc wr o i h1, h.block i hi hne]
theorem append_block {wr w' : World} {base n size : Nat} {et : TypeId} {v : Value} {xs : List Value} {o : Obj} (hgrow : (wr.alloc o).grownBy w' v.ownBlock) (hown : wr.ownsRow base et size v n xs) {i : Nat} (hi : i < wr.heap.size) (hb : i < base) : w'.heap[i]? = wr.heap[i]? := by
  rw [hgrow.block i (by simp; omega) (fun e => by have := (hown.lt i e.symm).1; omega), Below.heap_alloc wr o i hi]
theorem append_size {wr w' : World} {o : Obj} {x : Option Nat} (hgrow : (wr.alloc o).grownBy w' x) : wr.heap.size ≤ w'.heap.size := by
  have := hgrow.size
  simp at this
  omega
theorem int_shape {w : World} {base n size : Nat} {et : TypeId} {v : Value} {xs : List Value} (h : w.ownsRow base et size v n xs) (h0 : 0 < n) : ∃ g cap, v = .slice (some ⟨g, 0, none⟩) n cap := by
  rcases h.2 with ⟨_, hz⟩ | ⟨g, cap, cur, rfl, _⟩
  · omega
  · exact ⟨g, cap, rfl⟩
theorem cell_put {w : World} {p : Addr} {v : Value} (h : w.cell? p = some v) (u : Value) : (w.setCell p u).cell? p = some u :=
  World.cell?_setCell_same w p u h
theorem cell_block {w w' : World} {p : Addr} {v : Value} (h : w'.heap[p.block]? = w.heap[p.block]?) (hc : w.cell? p = some v) : w'.cell? p = some v := by
  rw [World.cell?_of_block h]
  exact hc
theorem frozen_block {w w' : World} {p : Addr} (h : w'.heap[p.block]? = w.heap[p.block]?) (hf : w.frozen? p = false) : w'.frozen? p = false := by
  unfold World.frozen? at hf ⊢
  rw [h]
  exact hf
theorem only_far {w0 w : World} {g : Nat} (h : w0.grownBy w (some g)) (p : Addr) (u : Value) (hp : w0.heap.size ≤ p.block) : w0.grownBy (w.setCell p u) (some g) :=
  ⟨h.os, h.tape, h.output, by simpa [World.setCell] using h.size, fun i hi hne => (Below.heap_setCell w p u i (by omega)).trans (h.block i hi hne)⟩

theorem one_news (W : World) (x : Int) : ∀ j u, [Value.int .i64 x][j]? = some u → (W.alloc (.cells #[.int .i64 x] 2)).cell? ((⟨W.heap.size, 0, none⟩ : Addr).add j) = some u := by
  intro j u hj
  match j, hj with
  | 0, hj => simp at hj; subst hj; simp [Addr.add]
theorem one_cell (x : Int) : ∀ u ∈ [Value.int .i64 x], u.oneCell' = true := by
  intro u hu
  simp at hu
  subst hu
  rfl

theorem below_append {W w w' : World} {B base n size : Nat} {et : TypeId} {v : Value} {xs : List Value} {o : Obj} (hb : Below B W w) (hgrow : (w.alloc o).grownBy w' v.ownBlock) (hown : w.ownsRow base et size v n xs) (hs : B ≤ w.heap.size) (hB : B ≤ base) : Below B W w' :=
  (hb.alloc hs _).grown hgrow (by simp; omega) (fun k hk => Nat.le_trans hB (hown.lt k hk).1)
theorem own_drew {w : World} {base n size : Nat} {et : TypeId} {v : Value} {xs : List Value} (h : w.ownsRow base et size v n xs) : w.drew.ownsRow base et size v n xs := h
end Go.Proofs.Ytpklmhffgbgakaa
