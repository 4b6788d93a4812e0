/- Lists of passes: one that comes in, opened to its pairs; and what the laws' helpers do with them (sizes, copies, comparisons): contracts. -/
import Derived.Test.YtfffdlmpiglojaaDoorMode
import Derived.Test.YtfffdlmpiglojaaDoorPost
import Derived.Laws.MakeOwn
import Derived.Laws.Entries
import Derived.Deep.OwnRows
import Derived.Deep.Slices
import Derived.Lib.SmallJoins
import Derived.Deep.RegionHeld3
namespace Go.Proofs.YtfffdlmpiglojaaDoor
open Go.ChangeShapes Go.WideShapes Go.ChangeAt Go.RowKit

section
variable {H : Type} {enc : TypeId × Value → H}
theorem cells_i64 : Tryd.prog.cellsOf 2 = 1 := by kernel_rfl
theorem cells_pass : Tryd.prog.cellsOf 76 = 2 := by kernel_rfl

set_option maxRecDepth 100000 in
theorem open_passv {W : World} {B : Nat} {sp : Nat → Bool} {held : Bool} {m : Nat} {cs : List Value} {x : DataW H × List MemPlace} (h : DataW.trod enc Tryd.prog W B sp held m 76 cs = some x) :
    ∃ d : Int × Int, cs = [.int .i64 d.1, .int .i64 d.2] ∧ (Lit.int .i64 d.1).wf = true := by
  obtain ⟨xs, n, _, _, hlen, hxl, hf⟩ := DataW.trod_struct Tryd.underlying76 h
  rw [cells_pass] at hlen
  match cs, hlen with
  | [c0, c1], _ =>
    match xs, hxl with
    | [y0, y1], _ =>
      have h0 : DataW.trod enc Tryd.prog W B sp held n 2 [c0] = some y0 := by have := hf 0 _ rfl; simpa [cells_i64] using this
      have h1 : DataW.trod enc Tryd.prog W B sp held n 2 [c1] = some y1 := by have := hf 1 _ rfl; simpa [cells_i64] using this
      obtain ⟨k, e0, _, wk⟩ := DataW.trod_int Tryd.underlying2 h0
      obtain ⟨a, e1, _, _⟩ := DataW.trod_int Tryd.underlying2 h1
      simp only [List.cons.injEq, and_true] at e0 e1
      subst e0 e1
      exact ⟨(k, a), rfl, wk⟩

set_option maxRecDepth 100000 in
/-- A list of passes that comes in. -/
theorem open_passes {W : World} {b : Nat} {r : Reach} {v : Value} {d : DataW H} {p : List MemPlace} (hv : Value.okWide Tryd.prog W r b 38 v) (h : DataW.Trod enc Tryd.prog W 0 (fun _ => true) true 38 v d p) :
    ∃ (A : Option Addr) (c : Nat) (P : List (Int × Int)), v = .slice A (List.length P) c ∧ Passes W W.heap.size A P ∧ P.length ≤ 9223372036854775807 ∧ (∀ d ∈ P, (Lit.int .i64 d.1).wf = true) := by
  obtain ⟨A, len0, cap0, rfl⟩ := okWide_slice Tryd.underlying38 hv
  obtain ⟨fuel, hf⟩ := h
  have hf' : DataW.trod enc Tryd.prog W 0 (fun _ => true) true fuel 38 [.slice A len0 cap0] = some (d, p) := hf
  rcases Go.Deep.open_slice Tryd.underlying38 hf' with ⟨hcs, _⟩ | ⟨a, len, cap, mm, n, D, Pl, hcs, _, hl, hm, hmm, _, hi⟩
  · simp only [List.cons.injEq, Value.slice.injEq, and_true] at hcs
    obtain ⟨rfl, rfl, rfl⟩ := hcs
    exact ⟨none, 0, [], rfl, fun h => absurd h (by simp), by simp, by simp⟩
  · simp only [List.cons.injEq, Value.slice.injEq, and_true] at hcs
    obtain ⟨rfl, rfl, rfl⟩ := hcs
    simp only [if_true] at hmm
    unfold maxLen at hm
    have hit : ∀ i, i < len0 → ∃ d : Int × Int, (Lit.int .i64 d.1).wf = true ∧ W.cell? (a.add (i * 2)) = some (.int .i64 d.1) ∧ W.cell? ((a.add (i * 2)).add 1) = some (.int .i64 d.2) := by
      intro i hlt
      obtain ⟨cs', hc, ht⟩ := hi i (by omega)
      obtain ⟨dd, rfl, hs⟩ := open_passv ht
      rw [cells_pass] at hc
      obtain ⟨_, _, hat⟩ := World.cells?_some hc
      have g0 := hat 0 (by simp)
      have g1 := hat 1 (by simp)
      refine ⟨dd, hs, ?_, by simpa using g1⟩
      simpa [Addr.add] using g0
    rcases Nat.eq_zero_or_pos len0 with h0 | h0
    · subst h0
      exact ⟨some a, cap0, [], rfl, fun h => absurd h (by simp), by simp, by simp⟩
    · obtain ⟨ab, ao, spot⟩ := a
      have hspot : spot = none := by
        obtain ⟨_, _, c0, _⟩ := hit 0 h0
        simpa [Addr.add] using World.cell?_spot c0
      subst hspot
      have hch : ∃ f : Nat → Int × Int, ∀ i, i < len0 → (Lit.int .i64 (f i).1).wf = true ∧ W.cell? ⟨ab, ao + i * 2, none⟩ = some (.int .i64 (f i).1) ∧ W.cell? ⟨ab, ao + i * 2 + 1, none⟩ = some (.int .i64 (f i).2) := by
        refine ⟨fun i => if hlt : i < len0 then Classical.choose (hit i hlt) else (0, 0), fun i hlt => ?_⟩
        have := Classical.choose_spec (hit i hlt)
        simp only [dif_pos hlt]
        simpa only [Go.WideShapes.add_plain] using this
      obtain ⟨f, hf⟩ := hch
      refine ⟨some ⟨ab, ao, none⟩, cap0, (List.range len0).map f, by simp, ?_, by simp; omega, ?_⟩
      · intro _
        refine ⟨ab, ao, rfl, World.block_lt_of_cell? _ _ (hf 0 h0).2.1, fun i d hd => ?_⟩
        rw [List.getElem?_map, Option.map_eq_some_iff] at hd
        obtain ⟨j, hj, rfl⟩ := hd
        obtain ⟨hjl, hje⟩ := List.getElem?_eq_some_iff.1 hj
        have hil : i < len0 := by simpa using hjl
        obtain rfl : j = i := by rw [← hje]; simp
        exact (hf j hil).2
      · intro d hd
        obtain ⟨j, hj, rfl⟩ := List.mem_map.1 hd
        exact (hf j (List.mem_range.1 hj)).1
end

theorem szPasses_any (A : Option Addr) (n c : Nat) (left : Int) (w : World) (h0 : 0 ≤ left) (h1 : left ≤ 1048576) (hn : n ≤ 9223372036854775807) :
    Calls Tryd.prog 18 #[.slice A n c, .int .i64 left] w fun e w' => e = .returned (.int .i64 (if left < n then -1 else left - n)) ∧ w = w' := by
  by_cases h : left < n
  · rw [if_pos h]
    go_enter Tryd.func18, Tryd.ntmps18
    go_wp2
    go_ret
    exact ⟨rfl, rfl⟩
  · rw [if_neg h]
    go_enter Tryd.func18, Tryd.ntmps18
    go_wp2
    go_ret
    exact ⟨rfl, rfl⟩

/-- the cells of some passes -/
def paCells (P : List (Int × Int)) : List Value := P.flatMap fun d => [.int .i64 d.1, .int .i64 d.2]
theorem paCells_length : ∀ P, (paCells P).length = P.length * 2
  | [] => rfl
  | d :: P => by
    have := paCells_length P
    simp only [paCells, List.flatMap_cons, List.length_append, List.length_cons, List.length_nil] at this ⊢
    omega
theorem paCells_get : ∀ (P : List (Int × Int)) (i : Nat) (d : Int × Int), P[i]? = some d → (paCells P)[i * 2]? = some (.int .i64 d.1) ∧ (paCells P)[i * 2 + 1]? = some (.int .i64 d.2)
  | [], i, d, h => by simp at h
  | x :: P, 0, d, h => by
    obtain rfl : x = d := by simpa using h
    exact ⟨rfl, rfl⟩
  | x :: P, i + 1, d, h => by
    have ih := paCells_get P i d (by simpa using h)
    have e : ∀ j, (paCells (x :: P))[j + 2]? = (paCells P)[j]? := fun j => by
      rw [paCells, List.flatMap_cons, List.getElem?_append_right (by simp)]
      simp [paCells]
    rw [show (i + 1) * 2 = i * 2 + 2 by omega]
    refine ⟨(e _).trans ih.1, ?_⟩
    rw [show i * 2 + 2 + 1 = i * 2 + 1 + 2 by omega]
    exact (e _).trans ih.2
/-- Block g holds the passes P. -/
def PRow (w : World) (g : Nat) (P : List (Int × Int)) : Prop := w.heap[g]? = some (.cells (paCells P).toArray 60 (0, 0))
theorem PRow.lt {w : World} {g : Nat} {P : List (Int × Int)} (h : PRow w g P) : g < w.heap.size := by
  rcases Nat.lt_or_ge g w.heap.size with hlt | hge
  · exact hlt
  · unfold PRow at h
    rw [Array.getElem?_eq_none hge] at h
    cases h
theorem PRow.cell {w : World} {g : Nat} {P : List (Int × Int)} (h : PRow w g P) {j : Nat} {v : Value} (hv : (paCells P)[j]? = some v) : w.cell? ⟨g, j, none⟩ = some v := by
  rw [cell_of_row w g j _ _ _ h]
  simp only [List.getElem?_toArray]
  exact hv
theorem PRow.frozen {w : World} {g : Nat} {P : List (Int × Int)} (h : PRow w g P) (i : Nat) : w.frozen? ⟨g, i, none⟩ = false := by
  unfold PRow at h
  simp [World.frozen?, h]
theorem PRow.passes {w : World} {g : Nat} {P : List (Int × Int)} (h : PRow w g P) : Passes w (g + 1) (some ⟨g, 0, none⟩) P := fun _ => ⟨g, 0, rfl, by omega, fun i d hi => by
  obtain ⟨h0, h1⟩ := paCells_get P i d hi
  rw [Nat.zero_add]
  exact ⟨h.cell h0, h.cell h1⟩⟩
theorem PRow.later {w w' : World} {g : Nat} {P : List (Int × Int)} (h : PRow w g P) (hb : Below w.heap.size w w') : PRow w' g P := (hb.block g h.lt).trans h
theorem PRow.drew {w : World} {g : Nat} {P : List (Int × Int)} (h : PRow w g P) : PRow w.drew g P := h
theorem PRow.alloc {w : World} {g : Nat} {P : List (Int × Int)} (h : PRow w g P) (o : Obj) : PRow (w.alloc o) g P := (Below.heap_alloc w o g h.lt).trans h

def paPart (P : List (Int × Int)) (k : Nat) : List (Int × Int) := P.take k ++ List.replicate (P.length - k) (0, 0)
theorem paPart_length (P : List (Int × Int)) (k : Nat) (h : k ≤ P.length) : (paPart P k).length = P.length := by simp [paPart]; omega
theorem paPart_all (P : List (Int × Int)) : paPart P P.length = P := by simp [paPart]
theorem paCells_append (a b : List (Int × Int)) : paCells (a ++ b) = paCells a ++ paCells b := by simp [paCells]
theorem paPart_set (P : List (Int × Int)) (k : Nat) (d : Int × Int) (h : P[k]? = some d) : paCells (paPart P (k + 1)) = ((paCells (paPart P k)).set (k * 2) (.int .i64 d.1)).set (k * 2 + 1) (.int .i64 d.2) := by
  obtain ⟨hk, e⟩ := List.getElem?_eq_some_iff.1 h
  have hl : (paCells (P.take k)).length = k * 2 := by rw [paCells_length, List.length_take]; congr 1; omega
  obtain ⟨r, hr⟩ : ∃ r, P.length - k = r + 1 := ⟨P.length - k - 1, by omega⟩
  have hr2 : P.length - (k + 1) = r := by omega
  have e1 : paCells (paPart P k) = paCells (P.take k) ++ ([.int .i64 0, .int .i64 0] ++ paCells (List.replicate r (0, 0))) := by
    rw [paPart, hr, List.replicate_succ, paCells_append]
    rfl
  have e2 : paCells (paPart P (k + 1)) = paCells (P.take k) ++ ([.int .i64 d.1, .int .i64 d.2] ++ paCells (List.replicate r (0, 0))) := by
    rw [paPart, hr2, List.take_succ_eq_append_getElem hk, e, paCells_append, paCells_append, List.append_assoc]
    rfl
  rw [e1, e2]
  rw [List.set_append_right _ _ (by omega), List.set_append_right _ _ (by omega), hl]
  simp
theorem made_passes (n : Nat) : madeCells (paCells [(0, 0)]).toArray (n * 2) = (paCells (List.replicate n (0, 0))).toArray := by
  apply Array.ext
  · rw [size_madeCells]
    simp [paCells_length]
  · intro i h1 h2
    have hi : i < n * 2 := by simpa [size_madeCells] using h1
    have hd : (List.replicate n ((0, 0) : Int × Int))[i / 2]? = some (0, 0) := by rw [List.getElem?_replicate, if_pos (by omega)]
    obtain ⟨g0, g1⟩ := paCells_get _ _ _ hd
    have e : ∀ v, (paCells (List.replicate n (0, 0)))[i]? = some v → (paCells (List.replicate n (0, 0))).toArray[i] = v := fun v hv => by
      simp only [List.getElem_toArray]
      exact (List.getElem?_eq_some_iff.1 hv).2
    rcases (by omega : i % 2 = 0 ∨ i % 2 = 1) with h | h
    · rw [e _ (by rw [show i = i / 2 * 2 by omega]; exact g0)]
      simp [madeCells, paCells, h]
    · rw [e _ (by rw [show i = i / 2 * 2 + 1 by omega]; exact g1)]
      simp [madeCells, paCells, h]
theorem PRow.set2 {w : World} {g k : Nat} {P : List (Int × Int)} {d : Int × Int} (h : PRow w g (paPart P k)) (hd : P[k]? = some d) :
    PRow ((w.setCell ⟨g, k * 2, none⟩ (.int .i64 d.1)).setCell ⟨g, k * 2 + 1, none⟩ (.int .i64 d.2)) g (paPart P (k + 1)) := by
  unfold PRow at h ⊢
  rw [paPart_set P k d hd]
  simp [World.setCell, Array.getElem?_modify, h]
theorem info_pass : (Tryd.prog.info? 60).map (fun i => (i.zero, i.size, i.bytes)) = some (some (.agg #[.int .i64 0, .int .i64 0]), 2, 16) := by kernel_rfl
theorem make_rowP {P : Program} (t e : TypeId) (i : TypeInfo) (z : Value) (ht : P.underlying t = some (.slice e)) (hi : P.info? e = some i) (hz : i.zero = some z)
    (kl kc : IntKind) (n c : Nat) (hnc : n ≤ c) (hbytes : i.bytes * c ≤ 281474976710656) (h63 : c ≤ 9223372036854775807) (w : World) :
    (Instr.makeSlice t (.int kl (n : Int)) (.int kc (c : Int))).run P w = .ok (.slice (some ⟨w.heap.size, 0, none⟩) n c) (w.alloc (.cells (madeCells z.cells (c * i.size)) e)) := by
  have hb : (i.bytes : Int) * (c : Int) ≤ 281474976710656 := by
    have h : ((i.bytes * c : Nat) : Int) ≤ 281474976710656 := by omega
    rwa [Int.natCast_mul] at h
  have hr := run_make (P := P) w t e i z ht hi hz kl kc n c (by omega) (by omega) hb (by omega)
  simp only [Int.toNat_natCast] at hr
  exact hr

set_option maxHeartbeats 1000000 in
theorem toPasses_any (A : Option Addr) (c : Nat) (P : List (Int × Int)) (B : Nat) (w : World) (h : Passes w B A P) (hB : B ≤ w.heap.size) (hn : P.length ≤ 1048576) :
    Calls Tryd.prog 20 #[.slice A P.length c] w fun e w' => ∃ g, e = .returned (.slice (some ⟨g, 0, none⟩) P.length P.length) ∧ w.heap.size ≤ g ∧ Below w.heap.size w w' ∧ PRow w' g P := by
  obtain ⟨i0, hi0, hz0, hz1, hz2⟩ := info_parts info_pass
  have hmk0 := fun W => make_rowP (P := Tryd.prog) 26 60 i0 _ Tryd.underlying26 hi0 hz0 .i64 .i64 P.length P.length (Nat.le_refl _) (by rw [hz2]; omega) (by omega) W
  rw [hz1] at hmk0
  obtain ⟨n, hN⟩ : ∃ n, P.length = n := ⟨_, rfl⟩
  rw [hN] at hmk0 hn
  have hmk : ∀ W : World, (Instr.makeSlice 26 (.int .i64 (n : Int)) (.int .i64 (n : Int))).run Tryd.prog W = .ok (.slice (some ⟨W.heap.size, 0, none⟩) n n) (W.alloc (.cells (paCells (List.replicate n (0, 0))).toArray 60)) := fun W => by
    rw [hmk0 W, ← made_passes n]
    rfl
  rw [hN]
  have H := Lib.hid h
  have HN := Lib.hid hN
  obtain ⟨ob, hob⟩ : ∃ ob, Obj.cells (paCells (List.replicate n (0, 0))).toArray 60 = ob := ⟨_, rfl⟩
  rw [hob] at hmk
  have HOB := Lib.hid hob
  clear h hN hmk0 hob hi0 hz0 hz1 hz2
  go_enter Tryd.func20, Tryd.ntmps20
  go_wp2
  clear hmk
  go_loopw [4] (fun i wr => ∃ k : Nat, k ≤ n ∧ i = .int .i64 k ∧ Hid (PRow wr w.heap.size (paPart P k)) ∧ Hid (Below w.heap.size w wr)) (fun i _ => n - (intOf i).toNat)
  case atStart =>
    refine ⟨0, Nat.zero_le _, rfl, ?_, below_box w _⟩
    show PRow _ _ _
    unfold PRow
    have e : paPart P 0 = List.replicate n (0, 0) := by rw [paPart, HN.out]; simp
    rw [e, ← HOB.out]
    exact heap_alloc_new w _
  case round =>
    obtain ⟨k, hk, rfl, HR, HB⟩ := hrel
    by_cases hlt : k < n
    · obtain ⟨d, hd⟩ : ∃ d, P[k]? = some d := ⟨P[k]'(by rw [HN.out]; exact hlt), List.getElem?_eq_getElem _⟩
      obtain ⟨b, off, rfl, hb, hcell⟩ := (H.out.below (HB.out.mono hB)) (by rw [HN.out]; omega)
      obtain ⟨c0, c1⟩ := hcell k d hd
      have hti := fun W => toPass_any d.1 d.2 W
      have HS4 := Lib.hid (fun (W : World) (hW : PRow W w.heap.size (paPart P k)) => hW.set2 hd)
      obtain ⟨a, f⟩ := d
      simp only at c0 c1 hti
      have HTI := Lib.hid hti
      have hk0 : (0 : Int) ≤ (k : Int) := Int.natCast_nonneg _
      have hk1 : (k : Int) < (n : Int) := by omega
      have hpl : (paPart P k).length = n := by rw [paPart_length P k (by rw [HN.out]; exact hk), HN.out]
      obtain ⟨x, hx⟩ : ∃ x, (paPart P k)[k]? = some x := ⟨_, List.getElem?_eq_getElem (by rw [hpl]; exact hlt)⟩
      obtain ⟨g0, g1⟩ := paCells_get _ _ _ hx
      clear hti hd hpl hx hcell
      go_wp2_with fail
      refine (HTI.out _).mono ?_
      rintro e w2 ⟨rfl, hbb⟩
      have HR2 := Lib.hid (HR.out.later hbb)
      have HB2 := Lib.hid (below_step HB.out hbb)
      have x0 := HR2.out.cell g0
      have x1 := HR2.out.cell g1
      have fz := HR2.out.frozen
      have HR3 := Lib.hid (HS4.out w2 HR2.out)
      have HB3 : Hid (Below w.heap.size w ((w2.setCell ⟨w.heap.size, k * 2, none⟩ (.int .i64 a)).setCell ⟨w.heap.size, k * 2 + 1, none⟩ (.int .i64 f))) := (HB2.out.setCell (Nat.le_refl _) _).setCell (Nat.le_refl _) _
      clear hbb c0 c1 g0 g1
      go_wp2
      go_roundw
      case rel => exact ⟨k + 1, by omega, by go_num, HR3, HB3⟩
      case measure => simp [intOf]; omega
    · have hkn : k = n := by omega
      have hr := HR.out
      rw [hkn, ← HN.out, paPart_all] at hr
      have HR3 := Lib.hid hr
      have hk1 : ¬ (k : Int) < (n : Int) := by omega
      clear hr HR hkn
      go_wp2
      go_ret
      exact ⟨w.heap.size, rfl, Nat.le_refl _, HB.out, HR3.out⟩

theorem eqPass_same (a b : Int) (w : World) :
    Calls Tryd.prog 42 #[.agg #[.int .i64 a, .int .i64 b], .agg #[.int .i64 a, .int .i64 b]] w fun e w' => e = .returned (.bool true) ∧ Below w.heap.size w w' := by
  go_enter Tryd.func42, Tryd.ntmps42
  go_wp2
  go_ret
  exact ⟨rfl, (below_box w _).alloc (by simp) _⟩

theorem eqPasses_same (A A' : Option Addr) (c c' : Nat) (P : List (Int × Int)) (B B' : Nat) (w : World) (h : Passes w B A P) (h' : Passes w B' A' P) (hB : B ≤ w.heap.size) (hB' : B' ≤ w.heap.size) (hn : P.length ≤ 1048576) :
    Calls Tryd.prog 13 #[.slice A P.length c, .slice A' P.length c'] w fun e w' => e = .returned (.bool true) ∧ Below w.heap.size w w' := by
  obtain ⟨n, hN⟩ : ∃ n, P.length = n := ⟨_, rfl⟩
  rw [hN] at hn ⊢
  have H := Lib.hid h
  have H' := Lib.hid h'
  have HN := Lib.hid hN
  have HE := Lib.hid eqPass_same
  clear h h' hN
  go_enter Tryd.func13, Tryd.ntmps13
  go_wp2
  go_loopw [5] (fun i wr => ∃ k : Nat, k ≤ n ∧ i = .int .i64 k ∧ Hid (Below w.heap.size w wr)) (fun i _ => n - (intOf i).toNat)
  case atStart => exact ⟨0, Nat.zero_le _, rfl, Below.refl _ _⟩
  case round =>
    obtain ⟨k, hk, rfl, HB⟩ := hrel
    by_cases hlt : k < n
    · obtain ⟨d, hd⟩ : ∃ d, P[k]? = some d := ⟨P[k]'(by rw [HN.out]; exact hlt), List.getElem?_eq_getElem _⟩
      obtain ⟨b, off, rfl, hb, hcell⟩ := (H.out.below (HB.out.mono hB)) (by rw [HN.out]; omega)
      obtain ⟨b', off', rfl, hb', hcell'⟩ := (H'.out.below (HB.out.mono hB')) (by rw [HN.out]; omega)
      obtain ⟨c0, c1⟩ := hcell k d hd
      obtain ⟨e0, e1⟩ := hcell' k d hd
      obtain ⟨x, y⟩ := d
      simp only at c0 c1 e0 e1
      have hk0 : (0 : Int) ≤ (k : Int) := Int.natCast_nonneg _
      have hk1 : (k : Int) < (n : Int) := by omega
      clear hd hcell hcell'
      go_wp2
      go_region_with (go_at_call 42; refine (HE.out x y _).mono ?_; rintro e w2 ⟨rfl, hbb⟩; have HB1 := Lib.hid (below_step (Below.drew HB.out) hbb); clear hbb)
      all_goals
        go_wp2
        go_roundw
        case rel => exact ⟨k + 1, by omega, by go_num, HB1⟩
        case measure => simp [intOf]; omega
    · have hk1 : ¬ (k : Int) < (n : Int) := by omega
      go_wp2
      go_ret
      exact ⟨rfl, HB.out⟩
end Go.Proofs.YtfffdlmpiglojaaDoor
