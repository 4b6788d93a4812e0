/- A layout that comes in, opened to its items; and what the laws' helpers do with layouts (sizes, copies, comparisons): contracts. -/
import Derived.Test.YtmdgpkiicjmfhaaDoorItemEq
import Derived.Test.YtmdgpkiicjmfhaaDoorPost
import Derived.Deep.Slices
import Derived.Lib.SmallJoins
namespace Go.Proofs.YtmdgpkiicjmfhaaDoor
open Go.ChangeShapes Go.WideShapes Go.ChangeAt Go.RowKit

section
variable {H : Type} {enc : TypeId × Value → H}
theorem cells_str : Tryd.prog.cellsOf 9 = 1 := by kernel_rfl
theorem cells_int : Tryd.prog.cellsOf 2 = 1 := by kernel_rfl
theorem cells_fld : Tryd.prog.cellsOf 80 = 2 := by kernel_rfl
theorem cells_itm : Tryd.prog.cellsOf 82 = 4 := by kernel_rfl

set_option maxRecDepth 100000 in
theorem open_item {W : World} {B : Nat} {sp : Nat → Bool} {held : Bool} {m : Nat} {cs : List Value} {x : DataW H × List MemPlace} (h : DataW.trod enc Tryd.prog W B sp held m 82 cs = some x) :
    ∃ d : It, cs = [.string d.name, .int .i64 d.kind, .int .i64 d.f0, .int .i64 d.f1] ∧ d.name.size ≤ maxLen := by
  obtain ⟨xs, n, _, _, hlen, hxl, hf⟩ := DataW.trod_struct Tryd.underlying82 h
  rw [cells_itm] at hlen
  match cs, hlen with
  | [c0, c1, c2, c3], _ =>
    match xs, hxl with
    | [y0, y1, y2], _ =>
      have h0 : DataW.trod enc Tryd.prog W B sp held n 9 [c0] = some y0 := by have := hf 0 _ rfl; simpa [cells_str] using this
      have h1 : DataW.trod enc Tryd.prog W B sp held n 2 [c1] = some y1 := by have := hf 1 _ rfl; simpa [cells_int] using this
      have h2 : DataW.trod enc Tryd.prog W B sp held n 80 [c2, c3] = some y2 := by have := hf 2 _ rfl; simpa [cells_fld] using this
      obtain ⟨xs', n', _, _, _, hxl', hf'⟩ := DataW.trod_struct Tryd.underlying80 h2
      match xs', hxl' with
      | [z0, z1], _ =>
        have k0 : DataW.trod enc Tryd.prog W B sp held n' 2 [c2] = some z0 := by have := hf' 0 _ rfl; simpa [cells_int] using this
        have k1 : DataW.trod enc Tryd.prog W B sp held n' 2 [c3] = some z1 := by have := hf' 1 _ rfl; simpa [cells_int] using this
        obtain ⟨s, e0, _, hs⟩ := DataW.trod_string Tryd.underlying9 h0
        obtain ⟨k, e1, _, _⟩ := DataW.trod_int Tryd.underlying2 h1
        obtain ⟨a, e2, _, _⟩ := DataW.trod_int Tryd.underlying2 k0
        obtain ⟨b, e3, _, _⟩ := DataW.trod_int Tryd.underlying2 k1
        simp only [List.cons.injEq, and_true] at e0 e1 e2 e3
        subst e0 e1 e2 e3
        exact ⟨⟨s, k, a, b⟩, rfl, hs⟩

theorem add_four (a : Addr) (j : Nat) (b off : Nat) (h : a = ⟨b, off, none⟩) : a.add j = ⟨b, off + j, none⟩ := by subst h; exact Go.WideShapes.add_plain b off j

set_option maxRecDepth 100000 in
/-- A layout that comes in: its width and its items. -/
theorem open_layout {W : World} {b : Nat} {r : Reach} {v : Value} {d : DataW H} {p : List MemPlace} (hv : Value.okWide Tryd.prog W r b 24 v) (h : DataW.Trod enc Tryd.prog W 0 (fun _ => true) true 24 v d p) :
    ∃ (u : Int) (A : Option Addr) (c : Nat) (ds : List It), v = .agg #[.int .i64 u, .slice A (List.length ds) c] ∧ (Lit.int .i64 u).wf = true ∧ Items W W.heap.size A ds ∧ ds.length ≤ 9223372036854775807 ∧ (∀ d ∈ ds, d.name.size ≤ 9223372036854775807) := by
  obtain ⟨c0, c1, y0, y1, m, rfl, _, _, hy0, hy1⟩ := Go.Joins.open_agg2 Tryd.underlying24 (by kernel_rfl) (by kernel_rfl) hv h
  obtain ⟨u, e0, _, wu⟩ := DataW.trod_int Tryd.underlying2 hy0
  simp only [List.cons.injEq, and_true] at e0
  subst e0
  rcases Go.Deep.open_slice Tryd.underlying22 hy1 with ⟨hcs, _⟩ | ⟨a, len, cap, mm, n, D, Pl, hcs, _, hl, hm, hmm, _, hi⟩
  · obtain rfl : c1 = .slice none 0 0 := by simpa using hcs
    exact ⟨u, none, 0, [], rfl, wu, Items.nil, by simp, by simp⟩
  · obtain rfl : c1 = .slice (some a) len cap := by simpa using hcs
    simp only [if_true] at hmm
    unfold maxLen at hm
    have hit : ∀ i, i < len → ∃ d : It, d.name.size ≤ 9223372036854775807 ∧ W.cell? (a.add (i * 4)) = some (.string d.name) ∧ W.cell? ((a.add (i * 4)).add 1) = some (.int .i64 d.kind) ∧ W.cell? ((a.add (i * 4)).add 2) = some (.int .i64 d.f0) ∧ W.cell? ((a.add (i * 4)).add 3) = some (.int .i64 d.f1) := by
      intro i hlt
      obtain ⟨cs', hc, ht⟩ := hi i (by omega)
      obtain ⟨dd, rfl, hs⟩ := open_item ht
      rw [cells_itm] at hc
      obtain ⟨_, _, hat⟩ := World.cells?_some hc
      have g0 := hat 0 (by simp)
      have g1 := hat 1 (by simp)
      have g2 := hat 2 (by simp)
      have g3 := hat 3 (by simp)
      unfold maxLen at hs
      refine ⟨dd, hs, ?_, by simpa using g1, by simpa using g2, by simpa using g3⟩
      simpa [Addr.add] using g0
    rcases Nat.eq_zero_or_pos len with h0 | h0
    · subst h0
      exact ⟨u, some a, cap, [], rfl, wu, Items.nil, by simp, by simp⟩
    · obtain ⟨ab, ao, spot⟩ := a
      have hspot : spot = none := by
        obtain ⟨_, _, c0, _⟩ := hit 0 h0
        simpa [Addr.add] using World.cell?_spot c0
      subst hspot
      have hch : ∃ f : Nat → It, ∀ i, i < len → (f i).name.size ≤ 9223372036854775807 ∧ W.cell? ⟨ab, ao + i * 4, none⟩ = some (.string (f i).name) ∧ W.cell? ⟨ab, ao + i * 4 + 1, none⟩ = some (.int .i64 (f i).kind) ∧ W.cell? ⟨ab, ao + i * 4 + 2, none⟩ = some (.int .i64 (f i).f0) ∧ W.cell? ⟨ab, ao + i * 4 + 3, none⟩ = some (.int .i64 (f i).f1) := by
        refine ⟨fun i => if hlt : i < len then Classical.choose (hit i hlt) else itNil, fun i hlt => ?_⟩
        have := Classical.choose_spec (hit i hlt)
        simp only [dif_pos hlt]
        simpa only [Go.WideShapes.add_plain] using this
      obtain ⟨f, hf⟩ := hch
      refine ⟨u, some ⟨ab, ao, none⟩, cap, (List.range len).map f, by simp, wu, ?_, by simp; omega, ?_⟩
      · intro _
        refine ⟨ab, ao, rfl, World.block_lt_of_cell? _ _ (hf 0 h0).2.1, fun i d hd => ?_⟩
        rw [List.getElem?_map, Option.map_eq_some_iff] at hd
        obtain ⟨j, hj, rfl⟩ := hd
        obtain ⟨hjl, hje⟩ := List.getElem?_eq_some_iff.1 hj
        have hil : i < len := by simpa using hjl
        obtain rfl : j = i := by rw [← hje]; simp
        exact (hf j hil).2
      · intro d hd
        obtain ⟨j, hj, rfl⟩ := List.mem_map.1 hd
        exact (hf j (List.mem_range.1 hj)).1
end

theorem szLayout_fit (A : Option Addr) (c : Nat) (ds : List It) (B : Nat) (u : Int) (left : Nat) (w : World) (h : Items w B A ds) (hB : B ≤ w.heap.size) (h1 : left ≤ 1048576) (hfit : ds.length + itSize ds ≤ left) :
    Calls Tryd.prog 5 #[.agg #[.int .i64 u, .slice A ds.length c], .int .i64 left] w fun e w' => e = .returned (.int .i64 ((left : Int) - ds.length - itSize ds)) ∧ Below w.heap.size w w' := by
  have hs := szItems_fit A c ds B left _ (h.alloc hB (.cells #[.int .i64 u, .slice A ds.length c] 24)) (by simp; omega) h1 hfit
  obtain ⟨x, hx⟩ : ∃ x, (left : Int) - ds.length - itSize ds = x := ⟨_, rfl⟩
  have hx0 : ¬ x < 0 := by omega
  obtain ⟨n, hN⟩ : ∃ n, ds.length = n := ⟨_, rfl⟩
  rw [hx] at hs ⊢
  rw [hN] at hs ⊢
  have HS := Lib.hid hs
  clear hs hx h hN hfit
  go_enter Tryd.func5, Tryd.ntmps5
  go_wp2_with fail
  refine HS.out.mono ?_
  rintro e w1 ⟨rfl, hb⟩
  have B1 := Lib.hid (below_step (below_box w _) hb)
  clear hb
  go_wp2
  go_ret
  exact ⟨rfl, B1.out⟩

theorem szLayout_big (A : Option Addr) (c : Nat) (ds : List It) (B : Nat) (u : Int) (left : Nat) (w : World) (h : Items w B A ds) (hB : B ≤ w.heap.size) (h1 : left ≤ 1048576) (hn : ds.length ≤ 9223372036854775807) (hs : ∀ d ∈ ds, d.name.size ≤ 9223372036854775807) (hbig : left < ds.length + itSize ds) :
    Calls Tryd.prog 5 #[.agg #[.int .i64 u, .slice A ds.length c], .int .i64 left] w fun e w' => e = .returned (.int .i64 (-1)) ∧ Below w.heap.size w w' := by
  have hz := szItems_big A c ds B left _ (h.alloc hB (.cells #[.int .i64 u, .slice A ds.length c] 24)) (by simp; omega) h1 hn hs hbig
  obtain ⟨n, hN⟩ : ∃ n, ds.length = n := ⟨_, rfl⟩
  rw [hN] at hz ⊢
  have HS := Lib.hid hz
  clear hz h hN hbig hs hn
  go_enter Tryd.func5, Tryd.ntmps5
  go_wp2_with fail
  refine HS.out.mono ?_
  rintro e w1 ⟨rfl, hb⟩
  have B1 := Lib.hid (below_step (below_box w _) hb)
  clear hb
  go_wp2
  go_ret
  exact ⟨rfl, B1.out⟩

/-- A copy of a layout, its items in new memory. -/
def GivesLay (u : Int) (ds : List It) (w : World) (e : Ending) (w' : World) : Prop :=
  ∃ g, e = .returned (.agg #[.int .i64 u, .slice (some ⟨g, 0, none⟩) ds.length ds.length]) ∧ w.heap.size ≤ g ∧ Below w.heap.size w w' ∧ IRow w' g ds []

theorem toLayout_any (A : Option Addr) (c : Nat) (ds : List It) (B : Nat) (u : Int) (w : World) (h : Items w B A ds) (hB : B ≤ w.heap.size) (hn : ds.length ≤ 1048576) :
    Calls Tryd.prog 8 #[.agg #[.int .i64 u, .slice A ds.length c]] w (GivesLay u ds w) := by
  have hT := fun (W : World) (hW : Items W B A ds) (hBW : B ≤ W.heap.size) => toItems_any A c ds B W hW hBW hn
  have HT := Lib.hid hT
  obtain ⟨n, hN⟩ : ∃ n, ds.length = n := ⟨_, rfl⟩
  unfold GivesLay
  unfold GivesItems at HT
  rw [hN] at HT ⊢
  have H := Lib.hid h
  clear hT h hN
  go_enter Tryd.func8, Tryd.ntmps8
  go_wp2_with fail
  refine (HT.out _ (((H.out.alloc hB _).alloc (by simp; omega) _).alloc (by simp; omega) _) (by simp; omega)).mono ?_
  rintro e w1 ⟨rfl, hb, hrow⟩
  have c0 := cell_kept (p := ⟨w.heap.size + 1 + 1, 0, none⟩) (v := .int .i64 u) (by simp [go_sem]) hb
  have c1 := cell_kept (p := ⟨w.heap.size + 1 + 1, 1, none⟩) (v := .slice none 0 0) (by simp [go_sem]) hb
  have d0 := cell_kept (p := ⟨w.heap.size + 1, 0, none⟩) (v := .int .i64 0) (by simp [go_sem]) hb
  have d1 := cell_kept (p := ⟨w.heap.size + 1, 1, none⟩) (v := .slice none 0 0) (by simp [go_sem]) hb
  have fc : ∀ i, w1.frozen? ⟨w.heap.size + 1 + 1, i, none⟩ = false := fun i => by rw [hb.frozen (by simp)]; simp [go_sem]
  have fd : ∀ i, w1.frozen? ⟨w.heap.size + 1, i, none⟩ = false := fun i => by rw [hb.frozen (by simp)]; simp [go_sem]
  have B1 := Lib.hid (below_step (((below_box w _).alloc (by simp) _).alloc (by simp; omega) _) hb)
  have hrow' : IRow w1 (w.heap.size + 1 + 1 + 1) ds [] := by simpa using hrow
  have HR := Lib.hid hrow'
  clear hb hrow hrow'
  go_wp2
  refine bodyPost_ret (v := .agg #[.int .i64 u, .slice (some ⟨w.heap.size + 1 + 1 + 1, 0, none⟩) n n]) (by simp [results, Tryd.results8, go_sem, d0, d1]) rfl ⟨w.heap.size + 1 + 1 + 1, rfl, by omega, ?_, ?_⟩
  · exact ((B1.out.setCell (by first | (simp; done) | (simp; omega)) _).setCell (by first | (simp; done) | (simp; omega)) _).setCell (by first | (simp; done) | (simp; omega)) _
  · exact ((HR.out.far (by first | (simp; done) | (simp; omega)) _).far (by first | (simp; done) | (simp; omega)) _).far (by first | (simp; done) | (simp; omega)) _

theorem eqLayout_same (A A' : Option Addr) (c c' : Nat) (u : Int) (ds : List It) (B B' : Nat) (w : World) (h : Items w B A ds) (h' : Items w B' A' ds) (hB : B ≤ w.heap.size) (hB' : B' ≤ w.heap.size) (hn : ds.length ≤ 1048576) :
    Calls Tryd.prog 11 #[.agg #[.int .i64 u, .slice A ds.length c], .agg #[.int .i64 u, .slice A' ds.length c']] w fun e w' => e = .returned (.bool true) ∧ Below w.heap.size w w' := by
  have hE := eqItems_same A A' c c' ds B B' ((w.alloc (.cells #[.int .i64 u, .slice A ds.length c] 32)).alloc (.cells #[.int .i64 u, .slice A' ds.length c'] 32)) ((h.alloc hB _).alloc (by simp; omega) _) ((h'.alloc hB' _).alloc (by simp; omega) _) (by simp; omega) (by simp; omega) hn
  obtain ⟨n, hN⟩ : ∃ n, ds.length = n := ⟨_, rfl⟩
  rw [hN] at hE ⊢
  have HE := Lib.hid hE
  have hu : (u != u) = false := by simp
  clear hE h h' hN hn
  go_enter Tryd.func11, Tryd.ntmps11
  go_wp2_with fail
  refine HE.out.mono ?_
  rintro e w1 ⟨rfl, hb⟩
  have B1 := Lib.hid (below_step ((below_box w _).alloc (by simp) _) hb)
  clear hb
  go_wp2
  go_ret
  exact ⟨rfl, B1.out⟩
end Go.Proofs.YtmdgpkiicjmfhaaDoor
