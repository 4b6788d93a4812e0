/- Bytes that a conversion of a string made, whose mark lies behind them: an append of a string to them, and the string they hold. -/
import Derived.Test.YtmdgpkiicjmfhaaDoorMem
import Derived.Lib.AppendStr
import Derived.Lib.UnsafeStr
import Derived.Laws.IdiomStrings
import Derived.OwnWalk
import Derived.Deep.RegionLaw
namespace Go.Proofs.YtmdgpkiicjmfhaaDoor
open Go.ChangeShapes Go.WideShapes Go.ChangeAt Go.RowKit

theorem info_byte : (Tryd.prog.info? 5).map (fun i => (i.zero, i.size, i.bytes)) = some (some (.int .u8 0), 1, 1) := by kernel_rfl

/-- v holds the bytes l, from the start of a row of its own that is not marked within -/
def TailRow (w : World) (base : Nat) (v : Value) (l : List UInt8) : Prop :=
  ∃ g cap cur fz, v = .slice (some ⟨g, 0, none⟩) l.length cap ∧ base ≤ g ∧ w.heap[g]? = some (.cells cur 5 fz) ∧ (cur.size ≤ fz.1 ∨ fz.2 = 0) ∧ l.length ≤ cap ∧ cap ≤ maxLen ∧ cur.size = cap ∧ cur.toList.take l.length = Lib.byteCells l

theorem TailRow.later {w w' : World} {base : Nat} {v : Value} {l : List UInt8} (h : TailRow w base v l) (hb : Below w.heap.size w w') : TailRow w' base v l := by
  obtain ⟨g, cap, cur, fz, rfl, hg, hh, rest⟩ := h
  have hlt : g < w.heap.size := by
    rcases Nat.lt_or_ge g w.heap.size with h | h
    · exact h
    · rw [Array.getElem?_eq_none h] at hh
      cases hh
  exact ⟨g, cap, cur, fz, rfl, hg, (hb.block g hlt).trans hh, rest⟩
theorem TailRow.shape {w : World} {base : Nat} {v : Value} {l : List UInt8} (h : TailRow w base v l) : ∃ g cap, v = .slice (some ⟨g, 0, none⟩) l.length cap := by
  obtain ⟨g, cap, _, _, hv, _⟩ := h
  exact ⟨g, cap, hv⟩
theorem TailRow.cells {w : World} {base g cap : Nat} {l : List UInt8} (h : TailRow w base (.slice (some ⟨g, 0, none⟩) l.length cap) l) (j : Nat) (u : Value) (hu : (Lib.byteCells l)[j]? = some u) : w.cell? ((⟨g, 0, none⟩ : Addr).add j) = some u := by
  obtain ⟨g', cap', cur, fz, hv, _, hh, _, hc, _, hs, ht⟩ := h
  simp only [Value.slice.injEq, Option.some.injEq, Addr.mk.injEq, and_true, true_and] at hv
  obtain ⟨rfl, rfl⟩ := hv
  have hadd : (⟨g, 0, none⟩ : Addr).add j = ⟨g, j, none⟩ := by unfold Addr.add; split <;> simp_all
  rw [hadd, cell_of_row w g j cur _ fz hh, ← Array.getElem?_toList]
  rw [← ht, List.getElem?_take] at hu
  split at hu
  · exact hu
  · cases hu
theorem TailRow.text {w : World} {base : Nat} {v : Value} {l : List UInt8} (h : TailRow w base v l) : (convert 68 9 v).run Tryd.prog w = .ok (.string ⟨l.toArray⟩) w := by
  obtain ⟨g, cap, rfl⟩ := h.shape
  exact run_convert_bytes_back w 68 9 5 ⟨g, 0, none⟩ cap l Tryd.underlying68 Tryd.underlying5 Tryd.underlying9 (fun j hj => h.cells j (.int .u8 l[j].toNat) (by simp [Lib.byteCells, hj]))

theorem store_tail (g o : Nat) (t : TypeId) (fz : Nat × Nat) : ∀ (vs : List Value) (i : Nat) (cur : Array Value) (w : World), w.heap[g]? = some (.cells cur t fz) → (cur.size ≤ fz.1 ∨ fz.2 = 0) → o + i + vs.length ≤ cur.size → (∀ v ∈ vs, v.oneCell' = true) →
    (storeCells ⟨g, o, none⟩ vs i).run Tryd.prog w = .ok () (w.setRow g (cur.toList.take (o + i) ++ vs ++ cur.toList.drop (o + i + vs.length)).toArray)
  | [], i, cur, w, hg, _, _, _ => by
    simp only [storeCells, List.append_nil, List.length_nil, Nat.add_zero, List.take_append_drop, Array.toArray_toList]
    rw [setRow_self w g cur t fz hg]
    rfl
  | v :: rest, i, cur, w, hg, hfz, hl, h1 => by
    simp only [List.length_cons] at hl
    have hi : o + i < cur.size := by omega
    have hadd : (⟨g, o, none⟩ : Addr).add i = ⟨g, o + i, none⟩ := by unfold Addr.add; split <;> simp_all
    have hcell : w.cell? ⟨g, o + i, none⟩ = some cur[o + i] := by simp [World.cell?, hg, hi]
    have hfro : w.frozen? ⟨g, o + i, none⟩ = false := by
      obtain ⟨lo, up⟩ := fz
      simp only at hfz
      simp only [World.frozen?, hg, Bool.and_eq_false_iff, decide_eq_false_iff_not]
      omega
    have hst : (store ((⟨g, o, none⟩ : Addr).add i) v).run Tryd.prog w = .ok () (w.setRow g (cur.setIfInBounds (o + i) v)) := by
      rw [hadd, run_store _ w _ v _ (h1 v (by simp)), hcell]
      simp [hfro, setCell_eq_setRow w g (o + i) cur t fz v hg]
    have ih := store_tail g o t fz rest (i + 1) (cur.setIfInBounds (o + i) v) (w.setRow g (cur.setIfInBounds (o + i) v)) (setRow_heap w g cur _ t _ hg) (by simpa using hfz) (by simp; omega) (fun x hx => h1 x (by simp [hx]))
    simp only [storeCells, Sem.run_bind, hst, Result.andThen_ok, ih, setRow_setRow]
    congr 3
    have e := list_seg_step cur.toList (o + i) v rest (by simp; omega)
    simpa [Array.toList_setIfInBounds, Nat.add_assoc] using e

/-- the bytes of a string, made -/
theorem conv_tail (s : ByteArray) (base : Nat) (w : World) (hbase : base ≤ w.heap.size) (hs : s.size ≤ 1099511627776) :
    ∃ v w', (convert 9 68 (.string s)).run Tryd.prog w = .ok v w' ∧ TailRow w' base v s.data.toList ∧ Below w.heap.size w w' := by
  refine ⟨_, _, run_bytes_of_string w 9 68 5 s Tryd.underlying9 Tryd.underlying68 Tryd.underlying5, ?_, ?_⟩
  · have hge := grownCap_ge w s.size 0 5
    have hle : grownCap w s.size 0 5 ≤ maxLen := grownCap_le_maxLen w s.size 0 5 (by unfold maxLen; omega)
    refine ⟨w.heap.size, grownCap w s.size 0 5, bytesRow s (grownCap w s.size 0 5), _, ?_, hbase, heap_alloc_new w.drew _, Or.inl (Nat.le_refl _), ?_, hle, ?_, ?_⟩
    · rfl
    · exact hge
    · have e : s.data.size = s.size := rfl
      simp only [bytesRow, Array.size_append, Array.size_map, Array.size_replicate]
      omega
    · have e : (Lib.byteCells s.data.toList).length = s.data.toList.length := by simp [Lib.byteCells]
      have e2 : (bytesRow s (grownCap w s.size 0 5)).toList = Lib.byteCells s.data.toList ++ List.replicate (grownCap w s.size 0 5 - s.size) (.int .u8 0) := by
        simp only [bytesRow, Array.toList_append, Array.toList_map, Array.toList_replicate]
        rfl
      rw [e2, ← e]
      exact List.take_left
  · exact (Below.refl w.heap.size w).drew.alloc (Nat.le_refl _) _

/-- an append of a string -/
theorem append_tail (ty : TypeId) (base : Nat) (v : Value) (l : List UInt8) (s : ByteArray) (w : World) (h : TailRow w base v l) (hn : l.length + s.size ≤ 140737488355328) (hbase : base ≤ w.heap.size) :
    ∃ v' w', (Builtin.append_ #[68, 9] ty #[v, .string s]).run Tryd.prog w = .ok v' w' ∧ TailRow w' base v' (l ++ s.data.toList) ∧ Below base w w' := by
  obtain ⟨i, hi, hz, h1, h2⟩ := info_parts info_byte
  have ht := Tryd.underlying68
  have hu := Tryd.underlying9
  have hsc : Lib.strCells s = Lib.byteCells s.data.toList := rfl
  have h' := h
  obtain ⟨g, cap, cur, fz, rfl, hg, hh, hfz, hc, hcm, hcs, htk⟩ := h
  have hcl := h'.cells
  have hlt : g < w.heap.size := by
    rcases Nat.lt_or_ge g w.heap.size with h | h
    · exact h
    · rw [Array.getElem?_eq_none h] at hh
      cases hh
  have hls : (l ++ s.data.toList).length = l.length + s.size := by rw [List.length_append, Array.length_toList]; rfl
  by_cases hroom : l.length + s.size ≤ cap
  · have hst := store_tail g l.length 5 fz (Lib.strCells s) 0 cur w hh hfz (by rw [Lib.strCells_length]; omega) (Lib.strCells_oneCell s)
    have hf := Lib.run_firstCells_string (P := Tryd.prog) w 1 s
    simp only [Nat.add_zero, Lib.strCells_length] at hst
    refine ⟨.slice (some ⟨g, 0, none⟩) (l.length + s.size) cap, w.setRow g (cur.toList.take l.length ++ Lib.strCells s ++ cur.toList.drop (l.length + s.size)).toArray, ?_, ?_, ?_⟩
    · simp [Builtin.append_, run_underlying ht, run_underlying hu, sizeOf, typeInfo, hi, h1, Builtin.lenOf, hroom, hf, Addr.add_lit, hst]
    · refine ⟨g, cap, _, fz, by rw [hls], hg, setRow_heap w g cur _ _ _ hh, ?_, by omega, hcm, ?_, ?_⟩
      · simp only [List.size_toArray, List.length_append, List.length_take, List.length_drop, Array.length_toList, Lib.strCells_length]
        omega
      · simp only [List.size_toArray, List.length_append, List.length_take, List.length_drop, Array.length_toList, Lib.strCells_length]
        omega
      · have hlen : (Lib.byteCells l ++ Lib.strCells s).length = (l ++ s.data.toList).length := by rw [List.length_append, Lib.strCells_length, hls]; simp [Lib.byteCells]
        rw [htk, Lib.byteCells_append, ← hsc, ← hlen]
        exact List.take_left
    · exact (Below.refl base w).grown (row := some g) ⟨rfl, rfl, rfl, by simp, fun k _ hk => setRow_other w g k _ (fun e => hk (by rw [e]))⟩ hbase (fun k hk => by injection hk with hk; omega)
  · have hr := Lib.run_append_grow_string (P := Tryd.prog) w 68 9 ty 5 i (.int .u8 0) ht hu hi hz ⟨g, 0, none⟩ l.length cap (Lib.byteCells l) (by rw [h1]; simp [Lib.byteCells]) (fun j u hj => hcl j u hj) s (by omega) (by omega) (by rw [h2]; exact growslice_fits (by omega) (by omega))
    have hge := grownCap_ge w (l.length + s.size) cap 5
    have hcm2 : grownCap w (l.length + s.size) cap 5 ≤ maxLen := grownCap_le_maxLen w (l.length + s.size) cap 5 (by unfold maxLen; omega)
    refine ⟨_, _, hr, ⟨w.heap.size, _, _, (0, 0), by rw [hls], hbase, heap_alloc_new w.drew _, Or.inr rfl, by omega, hcm2, ?_, ?_⟩, (Below.refl base w).drew.alloc hbase _⟩
    · have hz1 : (Value.int IntKind.u8 0).cells.size = 1 := rfl
      simp only [Array.size_append, List.size_toArray, size_zeroCells, hz1, Lib.strCells_length]
      simp [Lib.byteCells]
      omega
    · have hlen : (Lib.byteCells l ++ Lib.strCells s).length = (l ++ s.data.toList).length := by rw [List.length_append, Lib.strCells_length, hls]; simp [Lib.byteCells]
      simp only [Array.toList_append, List.append_assoc]
      rw [← List.append_assoc, Lib.byteCells_append, ← hsc, ← hlen]
      exact List.take_left

theorem step_append_tail (w : World) {ops : Array Oper} {o : Oper} {a : Act} {K : Act → World → Prop} {Q : Exit → Act → World → Prop} {E : Prop} (hgd : o.guard = none) (sl x : Operand)
    (ho : o.op = .call { callee := .builtin .append, args := #[sl, x], argTypes := #[68, 9] })
    (base : Nat) (v : Value) (l : List UInt8) (s : ByteArray) (hs : a.eval sl = v) (hx : a.eval x = .string s) (h : TailRow w base v l) (hn : l.length + s.size ≤ 140737488355328) (hbase : base ≤ w.heap.size)
    (hk : ∀ v' w', TailRow w' base v' (l ++ s.data.toList) → Below base w w' → K (a.put o.dst v') w') :
    if Region.wanted o (yielded ops a.tmps) = true then Oper.wp Tryd.prog o a w K Q else E := by
  have hw : Region.wanted o (yielded ops a.tmps) = true := by simp [Region.wanted, hgd]
  rw [if_pos hw]
  obtain ⟨v', w', hr, h2, h3⟩ := append_tail o.type base v l s w h hn hbase
  unfold Oper.wp execOp
  simp only [ho, resolve, invoke, builtin, Sem.run_bind, Sem.run_pure, Result.andThen_ok, List.map_toArray, List.map_cons, List.map_nil, hs, hx, hr]
  exact hk _ _ h2 h3
end Go.Proofs.YtmdgpkiicjmfhaaDoor
