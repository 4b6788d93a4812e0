/- Lists of wires in memory: one that comes in, opened to its pairs; what the laws' helpers do with them; lists in memory of their own: contracts. (Written by tools/wireize.py from the text about lists of copies.) -/
import Derived.Test.YtpklmhffgbgakaaBits
import Derived.Test.YtpklmhffgbgakaaPost
import Derived.Test.YtpklmhffgbgakaaWithin
import Derived.Laws.MakeOwn
import Derived.Laws.Entries
import Derived.Deep.OwnRows
import Derived.Deep.Slices
import Derived.Lib.SmallJoins
import Derived.Deep.RegionHeld3
import Derived.Maps.AppendAt
import Derived.Deep.AppendLies
import Derived.OwnWalk
namespace Go.Proofs.Ytpklmhffgbgakaa
open Go.ChangeShapes Go.WideShapes Go.ChangeAt Go.RowKit

/-- The wires at address A, in a block below B, are P. -/
def Wires (w : World) (B : Nat) (A : Option Addr) (P : List (Int × Int)) : Prop :=
  0 < P.length → ∃ b off, A = some ⟨b, off, none⟩ ∧ b < B ∧ ∀ (k : Nat) (p : Int × Int), P[k]? = some p → w.cell? ⟨b, off + k * 2, none⟩ = some (.int .i64 p.1) ∧ w.cell? ⟨b, off + k * 2 + 1, none⟩ = some (.int .i64 p.2)
theorem Wires.below {w w' : World} {B : Nat} {A : Option Addr} {P : List (Int × Int)} (h : Wires w B A P) (hb : Below B w w') : Wires w' B A P := fun h0 => by
  obtain ⟨b, off, rfl, hlt, hc⟩ := h h0
  exact ⟨b, off, rfl, hlt, fun k p hk => ⟨(hb.cell hlt).trans (hc k p hk).1, (hb.cell hlt).trans (hc k p hk).2⟩⟩

theorem toWire_any (a b : Int) (w : World) :
    Calls Try.prog 23 #[.agg #[.int .i64 a, .int .i64 b]] w fun e w' => e = .returned (.agg #[.int .i64 a, .int .i64 b]) ∧ Below w.heap.size w w' := by
  go_enter Try.func23, Try.ntmps23
  go_wp2
  refine bodyPost_ret (v := .agg #[.int .i64 a, .int .i64 b]) (by simp [results, Try.results23, go_sem]) rfl ⟨rfl, ?_⟩
  exact ((below_box w _).alloc (by simp) _).alloc (by simp; omega) _


section
variable {H : Type} {enc : TypeId × Value → H}
theorem cells_i64w : Try.prog.cellsOf 2 = 1 := by kernel_rfl
theorem cells_wire : Try.prog.cellsOf 35 = 2 := by kernel_rfl

set_option maxRecDepth 100000 in
theorem open_wirev {W : World} {B : Nat} {sp : Nat → Bool} {held : Bool} {m : Nat} {cs : List Value} {x : DataW H × List MemPlace} (h : DataW.trod enc Try.prog W B sp held m 35 cs = some x) :
    ∃ d : Int × Int, cs = [.int .i64 d.1, .int .i64 d.2] ∧ (Lit.int .i64 d.1).wf = true := by
  obtain ⟨xs, n, _, _, hlen, hxl, hf⟩ := DataW.trod_struct Try.underlying35 h
  rw [cells_wire] at hlen
  match cs, hlen with
  | [c0, c1], _ =>
    match xs, hxl with
    | [y0, y1], _ =>
      have h0 : DataW.trod enc Try.prog W B sp held n 2 [c0] = some y0 := by have := hf 0 _ rfl; simpa [cells_i64w] using this
      have h1 : DataW.trod enc Try.prog W B sp held n 2 [c1] = some y1 := by have := hf 1 _ rfl; simpa [cells_i64w] using this
      obtain ⟨k, e0, _, wk⟩ := DataW.trod_int Try.underlying2 h0
      obtain ⟨a, e1, _, _⟩ := DataW.trod_int Try.underlying2 h1
      simp only [List.cons.injEq, and_true] at e0 e1
      subst e0 e1
      exact ⟨(k, a), rfl, wk⟩

set_option maxRecDepth 100000 in
/-- A list of wires inside of a struct that comes in. -/
theorem open_wires_at {W : World} {fuel : Nat} {v : Value} {y : DataW H × List MemPlace} (hf' : DataW.trod enc Try.prog W 0 (fun _ => true) true fuel 22 [v] = some y) :
    ∃ (A : Option Addr) (c : Nat) (P : List (Int × Int)), v = .slice A (List.length P) c ∧ Wires W W.heap.size A P ∧ P.length ≤ 9223372036854775807 ∧ (∀ d ∈ P, (Lit.int .i64 d.1).wf = true) := by
  rcases Go.Deep.open_slice Try.underlying22 hf' with ⟨hcs, _⟩ | ⟨a, len, cap, mm, n, D, Pl, hcs, _, hl, hm, hmm, _, hi⟩
  · simp only [List.cons.injEq, and_true] at hcs
    subst hcs
    exact ⟨none, 0, [], rfl, fun h => absurd h (by simp), by simp, by simp⟩
  · simp only [List.cons.injEq, and_true] at hcs
    subst hcs
    simp only [if_true] at hmm
    unfold maxLen at hm
    have hit : ∀ i, i < len → ∃ d : Int × Int, (Lit.int .i64 d.1).wf = true ∧ W.cell? (a.add (i * 2)) = some (.int .i64 d.1) ∧ W.cell? ((a.add (i * 2)).add 1) = some (.int .i64 d.2) := by
      intro i hlt
      obtain ⟨cs', hc, ht⟩ := hi i (by omega)
      obtain ⟨dd, rfl, hs⟩ := open_wirev ht
      rw [cells_wire] at hc
      obtain ⟨_, _, hat⟩ := World.cells?_some hc
      have g0 := hat 0 (by simp)
      have g1 := hat 1 (by simp)
      refine ⟨dd, hs, ?_, by simpa using g1⟩
      simpa [Addr.add] using g0
    rcases Nat.eq_zero_or_pos len with h0 | h0
    · subst h0
      exact ⟨some a, cap, [], rfl, fun h => absurd h (by simp), by simp, by simp⟩
    · obtain ⟨ab, ao, spot⟩ := a
      have hspot : spot = none := by
        obtain ⟨_, _, c0, _⟩ := hit 0 h0
        simpa [Addr.add] using World.cell?_spot c0
      subst hspot
      have hch : ∃ f : Nat → Int × Int, ∀ i, i < len → (Lit.int .i64 (f i).1).wf = true ∧ W.cell? ⟨ab, ao + i * 2, none⟩ = some (.int .i64 (f i).1) ∧ W.cell? ⟨ab, ao + i * 2 + 1, none⟩ = some (.int .i64 (f i).2) := by
        refine ⟨fun i => if hlt : i < len then Classical.choose (hit i hlt) else (0, 0), fun i hlt => ?_⟩
        have := Classical.choose_spec (hit i hlt)
        simp only [dif_pos hlt]
        simpa only [Go.WideShapes.add_plain] using this
      obtain ⟨f, hf⟩ := hch
      refine ⟨some ⟨ab, ao, none⟩, cap, (List.range len).map f, by simp, ?_, by simp; omega, ?_⟩
      · intro _
        refine ⟨ab, ao, rfl, World.block_lt_of_cell? _ _ (hf 0 h0).2.1, fun i d hd => ?_⟩
        rw [List.getElem?_map, Option.map_eq_some_iff] at hd
        obtain ⟨j, hj, rfl⟩ := hd
        obtain ⟨hjl, hje⟩ := List.getElem?_eq_some_iff.1 hj
        have hil : i < len := by simpa using hjl
        obtain rfl : j = i := by rw [← hje]; simp
        exact (hf j hil).2
      · intro d hd
        obtain ⟨j, hj, rfl⟩ := List.mem_map.1 hd
        exact (hf j (List.mem_range.1 hj)).1
end

theorem szWires_any (A : Option Addr) (n c : Nat) (left : Int) (w : World) (h0 : 0 ≤ left) (h1 : left ≤ 1048576) (hn : n ≤ 9223372036854775807) :
    Calls Try.prog 56 #[.slice A n c, .int .i64 left] w fun e w' => e = .returned (.int .i64 (if left < n then -1 else left - n)) ∧ w = w' := by
  by_cases h : left < n
  · rw [if_pos h]
    go_enter Try.func56, Try.ntmps56
    go_wp2
    go_ret
    exact ⟨rfl, rfl⟩
  · rw [if_neg h]
    go_enter Try.func56, Try.ntmps56
    go_wp2
    go_ret
    exact ⟨rfl, rfl⟩

/-- the cells of some wires -/
def waCells (P : List (Int × Int)) : List Value := P.flatMap fun d => [.int .i64 d.1, .int .i64 d.2]
theorem waCells_length : ∀ P, (waCells P).length = P.length * 2
  | [] => rfl
  | d :: P => by
    have := waCells_length P
    simp only [waCells, List.flatMap_cons, List.length_append, List.length_cons, List.length_nil] at this ⊢
    omega
theorem waCells_get : ∀ (P : List (Int × Int)) (i : Nat) (d : Int × Int), P[i]? = some d → (waCells P)[i * 2]? = some (.int .i64 d.1) ∧ (waCells P)[i * 2 + 1]? = some (.int .i64 d.2)
  | [], i, d, h => by simp at h
  | x :: P, 0, d, h => by
    obtain rfl : x = d := by simpa using h
    exact ⟨rfl, rfl⟩
  | x :: P, i + 1, d, h => by
    have ih := waCells_get P i d (by simpa using h)
    have e : ∀ j, (waCells (x :: P))[j + 2]? = (waCells P)[j]? := fun j => by
      rw [waCells, List.flatMap_cons, List.getElem?_append_right (by simp)]
      simp [waCells]
    rw [show (i + 1) * 2 = i * 2 + 2 by omega]
    refine ⟨(e _).trans ih.1, ?_⟩
    rw [show i * 2 + 2 + 1 = i * 2 + 1 + 2 by omega]
    exact (e _).trans ih.2
/-- Block g holds the wires P. -/
def WRow (w : World) (g : Nat) (P : List (Int × Int)) : Prop := w.heap[g]? = some (.cells (waCells P).toArray 38 (0, 0))
theorem WRow.lt {w : World} {g : Nat} {P : List (Int × Int)} (h : WRow w g P) : g < w.heap.size := by
  rcases Nat.lt_or_ge g w.heap.size with hlt | hge
  · exact hlt
  · unfold WRow at h
    rw [Array.getElem?_eq_none hge] at h
    cases h
theorem WRow.cell {w : World} {g : Nat} {P : List (Int × Int)} (h : WRow w g P) {j : Nat} {v : Value} (hv : (waCells P)[j]? = some v) : w.cell? ⟨g, j, none⟩ = some v := by
  rw [cell_of_row w g j _ _ _ h]
  simp only [List.getElem?_toArray]
  exact hv
theorem WRow.frozen {w : World} {g : Nat} {P : List (Int × Int)} (h : WRow w g P) (i : Nat) : w.frozen? ⟨g, i, none⟩ = false := by
  unfold WRow at h
  simp [World.frozen?, h]
theorem WRow.wires {w : World} {g : Nat} {P : List (Int × Int)} (h : WRow w g P) : Wires w (g + 1) (some ⟨g, 0, none⟩) P := fun _ => ⟨g, 0, rfl, by omega, fun i d hi => by
  obtain ⟨h0, h1⟩ := waCells_get P i d hi
  rw [Nat.zero_add]
  exact ⟨h.cell h0, h.cell h1⟩⟩
theorem WRow.later {w w' : World} {g : Nat} {P : List (Int × Int)} (h : WRow w g P) (hb : Below w.heap.size w w') : WRow w' g P := (hb.block g h.lt).trans h
theorem WRow.drew {w : World} {g : Nat} {P : List (Int × Int)} (h : WRow w g P) : WRow w.drew g P := h
theorem WRow.alloc {w : World} {g : Nat} {P : List (Int × Int)} (h : WRow w g P) (o : Obj) : WRow (w.alloc o) g P := (Below.heap_alloc w o g h.lt).trans h

def waPart (P : List (Int × Int)) (k : Nat) : List (Int × Int) := P.take k ++ List.replicate (P.length - k) (0, 0)
theorem waPart_length (P : List (Int × Int)) (k : Nat) (h : k ≤ P.length) : (waPart P k).length = P.length := by simp [waPart]; omega
theorem waPart_all (P : List (Int × Int)) : waPart P P.length = P := by simp [waPart]
theorem waCells_append (a b : List (Int × Int)) : waCells (a ++ b) = waCells a ++ waCells b := by simp [waCells]
theorem waPart_set (P : List (Int × Int)) (k : Nat) (d : Int × Int) (h : P[k]? = some d) : waCells (waPart P (k + 1)) = ((waCells (waPart P k)).set (k * 2) (.int .i64 d.1)).set (k * 2 + 1) (.int .i64 d.2) := by
  obtain ⟨hk, e⟩ := List.getElem?_eq_some_iff.1 h
  have hl : (waCells (P.take k)).length = k * 2 := by rw [waCells_length, List.length_take]; congr 1; omega
  obtain ⟨r, hr⟩ : ∃ r, P.length - k = r + 1 := ⟨P.length - k - 1, by omega⟩
  have hr2 : P.length - (k + 1) = r := by omega
  have e1 : waCells (waPart P k) = waCells (P.take k) ++ ([.int .i64 0, .int .i64 0] ++ waCells (List.replicate r (0, 0))) := by
    rw [waPart, hr, List.replicate_succ, waCells_append]
    rfl
  have e2 : waCells (waPart P (k + 1)) = waCells (P.take k) ++ ([.int .i64 d.1, .int .i64 d.2] ++ waCells (List.replicate r (0, 0))) := by
    rw [waPart, hr2, List.take_succ_eq_append_getElem hk, e, waCells_append, waCells_append, List.append_assoc]
    rfl
  rw [e1, e2]
  rw [List.set_append_right _ _ (by omega), List.set_append_right _ _ (by omega), hl]
  simp
theorem made_wires (n : Nat) : madeCells (waCells [(0, 0)]).toArray (n * 2) = (waCells (List.replicate n (0, 0))).toArray := by
  apply Array.ext
  · rw [size_madeCells]
    simp [waCells_length]
  · intro i h1 h2
    have hi : i < n * 2 := by simpa [size_madeCells] using h1
    have hd : (List.replicate n ((0, 0) : Int × Int))[i / 2]? = some (0, 0) := by rw [List.getElem?_replicate, if_pos (by omega)]
    obtain ⟨g0, g1⟩ := waCells_get _ _ _ hd
    have e : ∀ v, (waCells (List.replicate n (0, 0)))[i]? = some v → (waCells (List.replicate n (0, 0))).toArray[i] = v := fun v hv => by
      simp only [List.getElem_toArray]
      exact (List.getElem?_eq_some_iff.1 hv).2
    rcases (by omega : i % 2 = 0 ∨ i % 2 = 1) with h | h
    · rw [e _ (by rw [show i = i / 2 * 2 by omega]; exact g0)]
      simp [madeCells, waCells, h]
    · rw [e _ (by rw [show i = i / 2 * 2 + 1 by omega]; exact g1)]
      simp [madeCells, waCells, h]
theorem WRow.set2 {w : World} {g k : Nat} {P : List (Int × Int)} {d : Int × Int} (h : WRow w g (waPart P k)) (hd : P[k]? = some d) :
    WRow ((w.setCell ⟨g, k * 2, none⟩ (.int .i64 d.1)).setCell ⟨g, k * 2 + 1, none⟩ (.int .i64 d.2)) g (waPart P (k + 1)) := by
  unfold WRow at h ⊢
  rw [waPart_set P k d hd]
  simp [World.setCell, Array.getElem?_modify, h]
theorem info_wire : (Try.prog.info? 38).map (fun i => (i.zero, i.size, i.bytes)) = some (some (.agg #[.int .i64 0, .int .i64 0]), 2, 16) := by kernel_rfl
theorem make_rowW {P : Program} (t e : TypeId) (i : TypeInfo) (z : Value) (ht : P.underlying t = some (.slice e)) (hi : P.info? e = some i) (hz : i.zero = some z)
    (kl kc : IntKind) (n c : Nat) (hnc : n ≤ c) (hbytes : i.bytes * c ≤ 281474976710656) (h63 : c ≤ 9223372036854775807) (w : World) :
    (Instr.makeSlice t (.int kl (n : Int)) (.int kc (c : Int))).run P w = .ok (.slice (some ⟨w.heap.size, 0, none⟩) n c) (w.alloc (.cells (madeCells z.cells (c * i.size)) e)) := by
  have hb : (i.bytes : Int) * (c : Int) ≤ 281474976710656 := by
    have h : ((i.bytes * c : Nat) : Int) ≤ 281474976710656 := by omega
    rwa [Int.natCast_mul] at h
  have hr := run_make (P := P) w t e i z ht hi hz kl kc n c (by omega) (by omega) hb (by omega)
  simp only [Int.toNat_natCast] at hr
  exact hr

set_option maxHeartbeats 1000000 in
theorem toWires_any (A : Option Addr) (c : Nat) (P : List (Int × Int)) (B : Nat) (w : World) (h : Wires w B A P) (hB : B ≤ w.heap.size) (hn : P.length ≤ 1048576) :
    Calls Try.prog 58 #[.slice A P.length c] w fun e w' => ∃ g, e = .returned (.slice (some ⟨g, 0, none⟩) P.length P.length) ∧ w.heap.size ≤ g ∧ Below w.heap.size w w' ∧ WRow w' g P := by
  obtain ⟨i0, hi0, hz0, hz1, hz2⟩ := info_parts info_wire
  have hmk0 := fun W => make_rowW (P := Try.prog) 27 38 i0 _ Try.underlying27 hi0 hz0 .i64 .i64 P.length P.length (Nat.le_refl _) (by rw [hz2]; omega) (by omega) W
  rw [hz1] at hmk0
  obtain ⟨n, hN⟩ : ∃ n, P.length = n := ⟨_, rfl⟩
  rw [hN] at hmk0 hn
  have hmk : ∀ W : World, (Instr.makeSlice 27 (.int .i64 (n : Int)) (.int .i64 (n : Int))).run Try.prog W = .ok (.slice (some ⟨W.heap.size, 0, none⟩) n n) (W.alloc (.cells (waCells (List.replicate n (0, 0))).toArray 38)) := fun W => by
    rw [hmk0 W, ← made_wires n]
    rfl
  rw [hN]
  have H := Lib.hid h
  have HN := Lib.hid hN
  obtain ⟨ob, hob⟩ : ∃ ob, Obj.cells (waCells (List.replicate n (0, 0))).toArray 38 = ob := ⟨_, rfl⟩
  rw [hob] at hmk
  have HOB := Lib.hid hob
  clear h hN hmk0 hob hi0 hz0 hz1 hz2
  go_enter Try.func58, Try.ntmps58
  go_wp2
  clear hmk
  go_loopw [4] (fun i wr => ∃ k : Nat, k ≤ n ∧ i = .int .i64 k ∧ Hid (WRow wr w.heap.size (waPart P k)) ∧ Hid (Below w.heap.size w wr)) (fun i _ => n - (intOf i).toNat)
  case atStart =>
    refine ⟨0, Nat.zero_le _, rfl, ?_, below_box w _⟩
    show WRow _ _ _
    unfold WRow
    have e : waPart P 0 = List.replicate n (0, 0) := by rw [waPart, HN.out]; simp
    rw [e, ← HOB.out]
    exact heap_alloc_new w _
  case round =>
    obtain ⟨k, hk, rfl, HR, HB⟩ := hrel
    by_cases hlt : k < n
    · obtain ⟨d, hd⟩ : ∃ d, P[k]? = some d := ⟨P[k]'(by rw [HN.out]; exact hlt), List.getElem?_eq_getElem _⟩
      obtain ⟨b, off, rfl, hb, hcell⟩ := (H.out.below (HB.out.mono hB)) (by rw [HN.out]; omega)
      obtain ⟨c0, c1⟩ := hcell k d hd
      have hti := fun W => toWire_any d.1 d.2 W
      have HS4 := Lib.hid (fun (W : World) (hW : WRow W w.heap.size (waPart P k)) => hW.set2 hd)
      obtain ⟨a, f⟩ := d
      simp only at c0 c1 hti
      have HTI := Lib.hid hti
      have hk0 : (0 : Int) ≤ (k : Int) := Int.natCast_nonneg _
      have hk1 : (k : Int) < (n : Int) := by omega
      have hpl : (waPart P k).length = n := by rw [waPart_length P k (by rw [HN.out]; exact hk), HN.out]
      obtain ⟨x, hx⟩ : ∃ x, (waPart P k)[k]? = some x := ⟨_, List.getElem?_eq_getElem (by rw [hpl]; exact hlt)⟩
      obtain ⟨g0, g1⟩ := waCells_get _ _ _ hx
      clear hti hd hpl hx hcell
      go_wp2_with fail
      refine (HTI.out _).mono ?_
      rintro e w2 ⟨rfl, hbb⟩
      have HR2 := Lib.hid (HR.out.later hbb)
      have HB2 := Lib.hid (below_step HB.out hbb)
      have x0 := HR2.out.cell g0
      have x1 := HR2.out.cell g1
      have fz := HR2.out.frozen
      have HR3 := Lib.hid (HS4.out w2 HR2.out)
      have HB3 : Hid (Below w.heap.size w ((w2.setCell ⟨w.heap.size, k * 2, none⟩ (.int .i64 a)).setCell ⟨w.heap.size, k * 2 + 1, none⟩ (.int .i64 f))) := (HB2.out.setCell (Nat.le_refl _) _).setCell (Nat.le_refl _) _
      clear hbb c0 c1 g0 g1
      go_wp2
      go_roundw
      case rel => exact ⟨k + 1, by omega, by go_num, HR3, HB3⟩
      case measure => simp [intOf]; omega
    · have hkn : k = n := by omega
      have hr := HR.out
      rw [hkn, ← HN.out, waPart_all] at hr
      have HR3 := Lib.hid hr
      have hk1 : ¬ (k : Int) < (n : Int) := by omega
      clear hr HR hkn
      go_wp2
      go_ret
      exact ⟨w.heap.size, rfl, Nat.le_refl _, HB.out, HR3.out⟩

theorem eqWire_same (a b : Int) (w : World) :
    Calls Try.prog 98 #[.agg #[.int .i64 a, .int .i64 b], .agg #[.int .i64 a, .int .i64 b]] w fun e w' => e = .returned (.bool true) ∧ Below w.heap.size w w' := by
  go_enter Try.func98, Try.ntmps98
  go_wp2
  go_ret
  exact ⟨rfl, (below_box w _).alloc (by simp) _⟩

theorem eqWires_same (A A' : Option Addr) (c c' : Nat) (P : List (Int × Int)) (B B' : Nat) (w : World) (h : Wires w B A P) (h' : Wires w B' A' P) (hB : B ≤ w.heap.size) (hB' : B' ≤ w.heap.size) (hn : P.length ≤ 1048576) :
    Calls Try.prog 62 #[.slice A P.length c, .slice A' P.length c'] w fun e w' => e = .returned (.bool true) ∧ Below w.heap.size w w' := by
  obtain ⟨n, hN⟩ : ∃ n, P.length = n := ⟨_, rfl⟩
  rw [hN] at hn ⊢
  have H := Lib.hid h
  have H' := Lib.hid h'
  have HN := Lib.hid hN
  have HE := Lib.hid eqWire_same
  clear h h' hN
  go_enter Try.func62, Try.ntmps62
  go_wp2
  go_loopw [5] (fun i wr => ∃ k : Nat, k ≤ n ∧ i = .int .i64 k ∧ Hid (Below w.heap.size w wr)) (fun i _ => n - (intOf i).toNat)
  case atStart => exact ⟨0, Nat.zero_le _, rfl, Below.refl _ _⟩
  case round =>
    obtain ⟨k, hk, rfl, HB⟩ := hrel
    by_cases hlt : k < n
    · obtain ⟨d, hd⟩ : ∃ d, P[k]? = some d := ⟨P[k]'(by rw [HN.out]; exact hlt), List.getElem?_eq_getElem _⟩
      obtain ⟨b, off, rfl, hb, hcell⟩ := (H.out.below (HB.out.mono hB)) (by rw [HN.out]; omega)
      obtain ⟨b', off', rfl, hb', hcell'⟩ := (H'.out.below (HB.out.mono hB')) (by rw [HN.out]; omega)
      obtain ⟨c0, c1⟩ := hcell k d hd
      obtain ⟨e0, e1⟩ := hcell' k d hd
      obtain ⟨x, y⟩ := d
      simp only at c0 c1 e0 e1
      have hk0 : (0 : Int) ≤ (k : Int) := Int.natCast_nonneg _
      have hk1 : (k : Int) < (n : Int) := by omega
      clear hd hcell hcell'
      go_wp2
      go_region_with (go_at_call 98; refine (HE.out x y _).mono ?_; rintro e w2 ⟨rfl, hbb⟩; have HB1 := Lib.hid (below_step (Below.drew HB.out) hbb); clear hbb)
      all_goals
        go_wp2
        go_roundw
        case rel => exact ⟨k + 1, by omega, by go_num, HB1⟩
        case measure => simp [intOf]; omega
    · have hk1 : ¬ (k : Int) < (n : Int) := by omega
      go_wp2
      go_ret
      exact ⟨rfl, HB.out⟩

/-- Block g holds the wires P, then ex. -/
def WRowX (w : World) (g : Nat) (P : List (Int × Int)) (ex : List Value) : Prop := w.heap[g]? = some (.cells (waCells P ++ ex).toArray 38 (0, 0))
section
variable {w w' : World} {g : Nat} {P : List (Int × Int)} {ex : List Value}
theorem WRowX.lt (h : WRowX w g P ex) : g < w.heap.size := by
  rcases Nat.lt_or_ge g w.heap.size with hlt | hge
  · exact hlt
  · unfold WRowX at h
    rw [Array.getElem?_eq_none hge] at h
    cases h
theorem WRowX.cell (h : WRowX w g P ex) {j : Nat} {v : Value} (hv : (waCells P)[j]? = some v) : w.cell? ⟨g, j, none⟩ = some v := by
  rw [cell_of_row w g j _ _ _ h]
  obtain ⟨hj, _⟩ := List.getElem?_eq_some_iff.1 hv
  simp only [List.getElem?_toArray]
  rw [List.getElem?_append_left hj]
  exact hv
theorem WRowX.frozen (h : WRowX w g P ex) (i : Nat) : w.frozen? ⟨g, i, none⟩ = false := by
  unfold WRowX at h
  simp [World.frozen?, h]
theorem WRowX.later (h : WRowX w g P ex) (hb : Below w.heap.size w w') : WRowX w' g P ex := (hb.block g h.lt).trans h
theorem WRowX.within {lo hi : Nat} (h : WRowX w g P ex) (hb : Within lo hi w w') (hg : g < lo ∨ hi ≤ g) : WRowX w' g P ex := hb.cells h hg
theorem WRowX.wires (h : WRowX w g P ex) : Wires w (g + 1) (some ⟨g, 0, none⟩) P := fun _ => ⟨g, 0, rfl, by omega, fun i d hi => by
  obtain ⟨h0, h1⟩ := waCells_get P i d hi
  rw [Nat.zero_add]
  exact ⟨h.cell h0, h.cell h1⟩⟩
theorem waCells_set : ∀ (P : List (Int × Int)) (j : Nat) (d : Int × Int), j < P.length → waCells (P.set j d) = ((waCells P).set (j * 2) (.int .i64 d.1)).set (j * 2 + 1) (.int .i64 d.2)
  | [], j, d, h => by simp at h
  | x :: P, 0, d, _ => rfl
  | x :: P, j + 1, d, h => by
    have ih := waCells_set P j d (by simpa using h)
    rw [List.set_cons_succ, show (j + 1) * 2 = j * 2 + 1 + 1 by omega, show j * 2 + 1 + 1 + 1 = (j * 2 + 1) + 1 + 1 by omega]
    show [Value.int .i64 x.1, .int .i64 x.2] ++ waCells (P.set j d) = (((Value.int .i64 x.1) :: (.int .i64 x.2) :: waCells P).set (j * 2 + 1 + 1) _).set (j * 2 + 1 + 1 + 1) _
    rw [ih]
    rfl
theorem WRowX.set2 {j : Nat} (h : WRowX w g P ex) (hj : j < P.length) (a b : Int) : WRowX ((w.setCell ⟨g, j * 2, none⟩ (.int .i64 a)).setCell ⟨g, j * 2 + 1, none⟩ (.int .i64 b)) g (P.set j (a, b)) ex := by
  unfold WRowX at h ⊢
  rw [waCells_set P j (a, b) hj]
  have hl := waCells_length P
  have e : (((waCells P).set (j * 2) (.int .i64 a)).set (j * 2 + 1) (.int .i64 b)) ++ ex = ((waCells P ++ ex).set (j * 2) (.int .i64 a)).set (j * 2 + 1) (.int .i64 b) := by
    rw [List.set_append_left _ _ (by omega), List.set_append_left _ _ (by simp; omega)]
  rw [e]
  simp [World.setCell, Array.getElem?_modify, h]
end

/-- A list of wires whose memory is a block from lo up to hi. -/
structure WAt (w : World) (lo hi : Nat) (A : Option Addr) (P : List (Int × Int)) : Prop where
  top : 0 < P.length → ∃ g ex, A = some ⟨g, 0, none⟩ ∧ lo ≤ g ∧ g < hi ∧ WRowX w g P ex
  room : hi ≤ w.heap.size
section
variable {w w' : World} {lo hi lo' hi' : Nat} {A : Option Addr} {P : List (Int × Int)}
theorem WAt.nil (h : hi ≤ w.heap.size) : WAt w lo hi A [] := ⟨fun h => absurd h (by simp), h⟩
theorem WAt.later (h : WAt w lo hi A P) (hb : Below w.heap.size w w') : WAt w' lo hi A P :=
  ⟨fun h0 => by obtain ⟨g, ex, e, h1, h2, h3⟩ := h.top h0; exact ⟨g, ex, e, h1, h2, h3.later hb⟩, Nat.le_trans h.room hb.size⟩
theorem WAt.within (h : WAt w lo hi A P) (k : Within lo' hi' w w') (hd : hi ≤ lo' ∨ hi' ≤ lo) : WAt w' lo hi A P :=
  ⟨fun h0 => by obtain ⟨g, ex, e, h1, h2, h3⟩ := h.top h0; exact ⟨g, ex, e, h1, h2, h3.within k (by omega)⟩, Nat.le_trans h.room k.size⟩
theorem WAt.wires (h : WAt w lo hi A P) : Wires w w.heap.size A P := fun h0 => by
  obtain ⟨g, ex, rfl, h1, h2, h3⟩ := h.top h0
  obtain ⟨b, off, e, h4, h5⟩ := h3.wires h0
  exact ⟨b, off, e, Nat.lt_of_lt_of_le h4 h3.lt, h5⟩
/-- A slice of wires of new memory. -/
def GivesW (P : List (Int × Int)) (w : World) (e : Ending) (w' : World) : Prop :=
  ∃ A cap, e = .returned (.slice A P.length cap) ∧ Below w.heap.size w w' ∧ WAt w' w.heap.size w'.heap.size A P
/-- The same with a code. -/
def GivesWC (P : List (Int × Int)) (code : Int) (w : World) (e : Ending) (w' : World) : Prop :=
  ∃ A cap, e = .returned (.tuple #[.slice A P.length cap, .int .i64 code]) ∧ Below w.heap.size w w' ∧ WAt w' w.heap.size w'.heap.size A P

theorem own_wat {base n : Nat} {v : Value} (h : w.ownsRow base 38 2 v n (waCells P)) (hl : P.length = n) : ∃ A cap, v = .slice A P.length cap ∧ WAt w base w.heap.size A P := by
  rcases h.2 with ⟨hv, h0⟩ | ⟨g, cap, cur, hv, hb, hh, hn, _, hs, ht⟩
  · exact ⟨none, 0, by rw [hv, hl, h0], fun h => absurd h (by omega), Nat.le_refl _⟩
  · have hr : WRowX w g P (cur.toList.drop (n * 2)) := by
      unfold WRowX
      rw [hh]
      congr 2
      apply Array.ext'
      rw [← List.take_append_drop (n * 2) cur.toList, ← ht]
      simp
    exact ⟨some ⟨g, 0, none⟩, cap, by rw [hv, hl], fun _ => ⟨g, _, rfl, hb, hr.lt, hr⟩, Nat.le_refl _⟩
end

/-- laws.toWireS gives wires in a block of their own. -/
theorem toWiresAt_any (A : Option Addr) (c : Nat) (P : List (Int × Int)) (B : Nat) (w : World) (h : Wires w B A P) (hB : B ≤ w.heap.size) (hn : P.length ≤ 1048576) :
    Calls Try.prog 58 #[.slice A P.length c] w fun e w' => ∃ g, e = .returned (.slice (some ⟨g, 0, none⟩) P.length P.length) ∧ Below w.heap.size w w' ∧ WAt w' w.heap.size w'.heap.size (some ⟨g, 0, none⟩) P := by
  refine (toWires_any A c P B w h hB hn).mono ?_
  rintro e w' ⟨g, he, hg, hb, hr⟩
  refine ⟨g, he, hb, fun _ => ⟨g, [], rfl, hg, hr.lt, ?_⟩, Nat.le_refl _⟩
  unfold WRowX
  rw [List.append_nil]
  exact hr

theorem wa_news (W : World) (P : List (Int × Int)) (ob : Obj) (h : ob = .cells (waCells P).toArray 38 (0, 0)) : ∀ j u, (waCells P)[j]? = some u → (W.alloc ob).cell? ((⟨W.heap.size, 0, none⟩ : Addr).add j) = some u := by
  subst h
  intro j u hj
  have e : (⟨W.heap.size, 0, none⟩ : Addr).add j = ⟨W.heap.size, 0 + j, none⟩ := Go.WideShapes.add_plain _ _ _
  rw [e, Nat.zero_add, cell_of_row _ _ _ _ _ _ (heap_alloc_new W _)]
  simpa using hj
theorem wa_one (P : List (Int × Int)) : ∀ u ∈ waCells P, u.oneCell' = true := by
  intro u hu
  obtain ⟨d, _, hd⟩ := List.mem_flatMap.1 hu
  simp only [List.mem_cons, List.not_mem_nil, or_false] at hd
  rcases hd with rfl | rfl <;> rfl
theorem own_wire {w w' W : World} {base B : Nat} {v v' : Value} {P Q : List (Int × Int)} {ob : Obj}
    (hown : w'.ownsRow base 38 2 v' (P.length + Q.length) (waCells P ++ waCells Q)) (hgrow : (w.alloc ob).grownBy w' v.ownBlock)
    (hold : w.ownsRow base 38 2 v P.length (waCells P)) (hb : Below B W w) (hB : B ≤ base) (hs : B ≤ w.heap.size) :
    w'.ownsRow base 38 2 v' (P ++ Q).length (waCells (P ++ Q)) ∧ Below B W w' := by
  refine ⟨by rw [waCells_append, List.length_append]; exact hown, ?_⟩
  exact (hb.alloc hs _).grown hgrow (by simp; omega) (fun k hk => Nat.le_trans hB (hold.lt k hk).1)

/-- the wires after the first j are marked, the marks from k on -/
def wmk (P : List (Int × Int)) (k : Int) (j : Nat) : List (Int × Int) := P.mapIdx fun i d => if i < j then (k + 2 * i, k + 2 * i + 1) else d
theorem wmk_length (P : List (Int × Int)) (k : Int) (j : Nat) : (wmk P k j).length = P.length := by simp [wmk]
theorem wmk_get {P : List (Int × Int)} {k : Int} {j i : Nat} (h : i < P.length) : (wmk P k j)[i]? = some (if i < j then (k + 2 * i, k + 2 * i + 1) else (P[i]?.getD (0, 0))) := by
  simp [wmk, List.getElem?_eq_getElem h]
theorem wmk_zero (P : List (Int × Int)) (k : Int) : wmk P k 0 = P := by
  apply List.ext_getElem?
  intro i
  simp only [wmk, List.getElem?_mapIdx]
  cases P[i]? <;> simp
theorem wmk_set {P : List (Int × Int)} {k : Int} {j : Nat} (h : j < P.length) : (wmk P k j).set j (k + 2 * j, k + 2 * j + 1) = wmk P k (j + 1) := by
  apply List.ext_getElem?
  intro i
  rw [List.getElem?_set]
  by_cases hi : j = i
  · subst hi
    rw [if_pos rfl, if_pos (by rw [wmk_length]; exact h), wmk_get h, if_pos (by omega)]
  · rw [if_neg hi]
    simp only [wmk, List.getElem?_mapIdx]
    cases hE : P[i]? with
    | none => rfl
    | some e =>
      simp only [Option.map_some]
      by_cases h1 : i < j
      · rw [if_pos h1, if_pos (by omega)]
      · rw [if_neg h1, if_neg (by omega)]

theorem markWires_any (A : Option Addr) (c : Nat) (P : List (Int × Int)) (lo hi : Nat) (k : Int) (w : World) (h : WAt w lo hi A P) (h0 : 0 ≤ k) (h1 : k ≤ 4194304) (hn : P.length ≤ 1048576) :
    Calls Try.prog 68 #[.slice A P.length c, .int .i64 k] w fun e w' => e = .returned (.int .i64 (k + 2 * P.length)) ∧ Within lo hi w w' ∧ WAt w' lo hi A (wmk P k P.length) := by
  obtain ⟨n, hN⟩ : ∃ n, P.length = n := ⟨_, rfl⟩
  rw [hN] at hn ⊢
  have H := Lib.hid h
  have HN := Lib.hid hN
  clear h hN
  go_enter Try.func68, Try.ntmps68
  go_wp2
  go_loopw [1, 5] (fun kk i wr => ∃ j : Nat, j ≤ n ∧ i = .int .i64 j ∧ kk = .int .i64 (k + 2 * j) ∧ Hid (Within lo hi w wr) ∧ Hid (WAt wr lo hi A (wmk P k j))) (fun _ i _ => n - (intOf i).toNat)
  case atStart => exact ⟨0, Nat.zero_le _, rfl, by simp, Within.refl _ _ _, by show WAt _ _ _ _ _; rw [wmk_zero]; exact H.out⟩
  case round =>
    obtain ⟨j, hj, rfl, rfl, HW, HP⟩ := hrel
    by_cases hlt : j < n
    · obtain ⟨g, ex, rfl, g1, g2, hr⟩ := HP.out.top (by rw [wmk_length, HN.out]; omega)
      have hm := wmk_get (P := P) (k := k) (j := j) (i := j) (by rw [HN.out]; exact hlt)
      obtain ⟨c0, c1⟩ := waCells_get _ _ _ hm
      have x0 := hr.cell c0
      have x1 := hr.cell c1
      have fz := hr.frozen
      have hs := hr.set2 (j := j) (by rw [wmk_length, HN.out]; exact hlt) (k + 2 * j) (k + 2 * j + 1)
      rw [wmk_set (by rw [HN.out]; exact hlt)] at hs
      obtain ⟨V, hV⟩ : ∃ V, (wr.setCell ⟨g, j * 2, none⟩ (.int .i64 (k + 2 * j))).setCell ⟨g, j * 2 + 1, none⟩ (.int .i64 (k + 2 * j + 1)) = V := ⟨_, rfl⟩
      have HW2 : Hid (Within lo hi w V) := by
        rw [← hV]
        exact (HW.out.set g1 g2 _).set g1 g2 _
      have HP2 : Hid (WAt V lo hi (some ⟨g, 0, none⟩) (wmk P k (j + 1))) := by
        rw [hV] at hs
        refine ⟨fun _ => ⟨g, ex, rfl, g1, g2, hs⟩, ?_⟩
        rw [← hV]
        simpa [World.setCell] using HP.out.room
      have HV := Lib.hid hV
      have k0 : (0 : Int) ≤ (j : Int) := Int.natCast_nonneg _
      have k1 : (j : Int) < (n : Int) := by omega
      have k2 : (j : Int) ≤ 1048576 := by omega
      clear hm c0 c1 hr hs hV
      go_wp2
      go_roundw
      case rel =>
        refine ⟨j + 1, by omega, by go_num, ?_, ?_, ?_⟩
        · first | go_num | (congr 1; omega)
        · rw [HV.out]; exact HW2
        · rw [HV.out]; exact HP2
      case measure => simp [intOf]; omega
    · have hjn : j = n := by omega
      have k1 : ¬ (j : Int) < (n : Int) := by omega
      have HP2 : Hid (WAt wr lo hi A (wmk P k n)) := by rw [← hjn]; exact HP
      have HV : Hid ((k + 2 * (j : Int)) = k + 2 * n) := by show _ = _; rw [hjn]
      clear hjn HP
      go_wp2
      go_ret
      exact ⟨by rw [HV.out]; rfl, HW.out, HP2.out⟩

theorem heldWires_any (A : Option Addr) (c : Nat) (P : List (Int × Int)) (lo hi : Nat) (k : Int) (w : World) (h : WAt w lo hi A (wmk P k P.length)) (h0 : 0 ≤ k) (h1 : k ≤ 4194304) (hn : P.length ≤ 1048576) :
    Calls Try.prog 69 #[.slice A P.length c, .int .i64 k] w fun e w' => e = .returned (.int .i64 (k + 2 * P.length)) ∧ w = w' := by
  obtain ⟨n, hN⟩ : ∃ n, P.length = n := ⟨_, rfl⟩
  rw [hN] at h hn ⊢
  have H := Lib.hid h
  have HN := Lib.hid hN
  clear h hN
  go_enter Try.func69, Try.ntmps69
  go_wp2
  go_loop [1, 5] (fun kk i => ∃ j : Nat, j ≤ n ∧ i = .int .i64 j ∧ kk = .int .i64 (k + 2 * j)) (fun _ i => n - (intOf i).toNat)
  case atStart => exact ⟨0, Nat.zero_le _, rfl, by simp⟩
  case round =>
    obtain ⟨j, hj, rfl, rfl⟩ := hrel
    by_cases hlt : j < n
    · obtain ⟨g, ex, rfl, g1, g2, hr⟩ := H.out.top (by rw [wmk_length, HN.out]; omega)
      have hm := wmk_get (P := P) (k := k) (j := n) (i := j) (by rw [HN.out]; exact hlt)
      rw [if_pos hlt] at hm
      obtain ⟨c0, c1⟩ := waCells_get _ _ _ hm
      have x0 := hr.cell c0
      have x1 := hr.cell c1
      simp only at x0 x1
      have k0 : (0 : Int) ≤ (j : Int) := Int.natCast_nonneg _
      have k1 : (j : Int) < (n : Int) := by omega
      have k2 : (j : Int) ≤ 1048576 := by omega
      clear hm c0 c1 hr H
      go_wp2
      go_round
      case rel =>
        refine ⟨j + 1, by omega, by go_num, ?_⟩
        first | go_num | (congr 1; omega)
      case measure => simp [intOf]; omega
    · have hjn : j = n := by omega
      have k1 : ¬ (j : Int) < (n : Int) := by omega
      have HV : Hid ((k + 2 * (j : Int)) = k + 2 * n) := by show _ = _; rw [hjn]
      clear hjn H
      go_wp2
      go_ret
      exact ⟨by rw [HV.out]; rfl, rfl⟩
theorem WAt.wide {w : World} {lo lo' hi hi' : Nat} {A : Option Addr} {P : List (Int × Int)} (h : WAt w lo hi A P) (h1 : lo' ≤ lo) (h2 : hi ≤ hi') (h3 : hi' ≤ w.heap.size) : WAt w lo' hi' A P :=
  ⟨fun h0 => by obtain ⟨g, ex, e, g1, g2, g3⟩ := h.top h0; exact ⟨g, ex, e, by omega, by omega, g3⟩, h3⟩
theorem WAt.drew {w : World} {lo hi : Nat} {A : Option Addr} {P : List (Int × Int)} (h : WAt w lo hi A P) : WAt w.drew lo hi A P := ⟨h.top, h.room⟩
end Go.Proofs.Ytpklmhffgbgakaa
