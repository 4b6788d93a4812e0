/- Items of layouts in memory, and what the laws' helpers on items and layouts do (sizes, copies, comparisons): contracts. -/
import Derived.Test.YtmdgpkiicjmfhaaDoorMem
import Derived.Deep.QuietTactic
import Derived.BigQuiet
import Derived.Laws.Strings
import Derived.Laws.NewDeep
import Derived.Outline
namespace Go.Proofs.YtmdgpkiicjmfhaaDoor
open Go.ChangeShapes Go.WideShapes Go.ChangeAt Go.RowKit

/-- an item: its name, its kind, and the two numbers of its field -/
structure It where
  name : ByteArray
  kind : Int
  f0 : Int
  f1 : Int
deriving DecidableEq

def It.val (d : It) : Value := .agg #[.string d.name, .int .i64 d.kind, .int .i64 d.f0, .int .i64 d.f1]

theorem eqField_any (a b c d : Int) (w : World) :
    Calls Tryd.prog 68 #[.agg #[.int .i64 a, .int .i64 b], .agg #[.int .i64 c, .int .i64 d]] w fun e w' => e = .returned (.bool (decide (a = c) && decide (b = d))) ∧ Below w.heap.size w w' := by
  by_cases h1 : a = c
  · by_cases h2 : b = d
    · subst h1 h2
      have e : (decide (a = a) && decide (b = b)) = true := by simp
      rw [e]
      clear e
      go_enter Tryd.func68, Tryd.ntmps68
      go_wp2
      go_ret
      exact ⟨rfl, (below_box w _).alloc (by simp) _⟩
    · subst h1
      have e : (decide (a = a) && decide (b = d)) = false := by simp [h2]
      rw [e]
      have hne : (b != d) = true := by simpa using h2
      clear e h2
      go_enter Tryd.func68, Tryd.ntmps68
      go_wp2
      go_ret
      exact ⟨rfl, (below_box w _).alloc (by simp) _⟩
  · have e : (decide (a = c) && decide (b = d)) = false := by simp [h1]
    rw [e]
    have hne : (a != c) = true := by simpa using h1
    clear e h1
    go_enter Tryd.func68, Tryd.ntmps68
    go_wp2
    go_ret
    exact ⟨rfl, (below_box w _).alloc (by simp) _⟩

theorem toField_any (a b : Int) (w : World) :
    Calls Tryd.prog 62 #[.agg #[.int .i64 a, .int .i64 b]] w fun e w' => e = .returned (.agg #[.int .i64 a, .int .i64 b]) ∧ Below w.heap.size w w' := by
  go_enter Tryd.func62, Tryd.ntmps62
  go_wp2
  refine bodyPost_ret (v := .agg #[.int .i64 a, .int .i64 b]) (by simp [results, Tryd.results62, go_sem]) rfl ⟨rfl, ?_⟩
  exact ((below_box w _).alloc (by simp) _).alloc (by simp; omega) _

theorem toItem_any (n : ByteArray) (k a b : Int) (w : World) :
    Calls Tryd.prog 38 #[.agg #[.string n, .int .i64 k, .int .i64 a, .int .i64 b]] w fun e w' => e = .returned (.agg #[.string n, .int .i64 k, .int .i64 a, .int .i64 b]) ∧ Below w.heap.size w w' := by
  go_enter Tryd.func38, Tryd.ntmps38
  go_wp2_with fail
  refine (toField_any a b _).mono ?_
  rintro e w1 ⟨rfl, hb⟩
  have c0 := cell_kept (p := ⟨w.heap.size + 1 + 1, 0, none⟩) (v := .string n) (by simp [go_sem]) hb
  have c1 := cell_kept (p := ⟨w.heap.size + 1 + 1, 1, none⟩) (v := .int .i64 k) (by simp [go_sem]) hb
  have c2 := cell_kept (p := ⟨w.heap.size + 1 + 1, 2, none⟩) (v := .int .i64 0) (by simp [go_sem]) hb
  have c3 := cell_kept (p := ⟨w.heap.size + 1 + 1, 3, none⟩) (v := .int .i64 0) (by simp [go_sem]) hb
  have d0 := cell_kept (p := ⟨w.heap.size + 1, 0, none⟩) (v := .string ⟨#[]⟩) (by simp [go_sem]) hb
  have d1 := cell_kept (p := ⟨w.heap.size + 1, 1, none⟩) (v := .int .i64 0) (by simp [go_sem]) hb
  have d2 := cell_kept (p := ⟨w.heap.size + 1, 2, none⟩) (v := .int .i64 0) (by simp [go_sem]) hb
  have d3 := cell_kept (p := ⟨w.heap.size + 1, 3, none⟩) (v := .int .i64 0) (by simp [go_sem]) hb
  have fc : ∀ i, w1.frozen? ⟨w.heap.size + 1 + 1, i, none⟩ = false := fun i => by rw [hb.frozen (by simp)]; simp [go_sem]
  have fd : ∀ i, w1.frozen? ⟨w.heap.size + 1, i, none⟩ = false := fun i => by rw [hb.frozen (by simp)]; simp [go_sem]
  have B1 := Lib.hid (below_step (((below_box w _).alloc (by simp) _).alloc (by simp; omega) _) hb)
  clear hb
  go_wp2
  refine bodyPost_ret (v := .agg #[.string n, .int .i64 k, .int .i64 a, .int .i64 b]) (by simp [results, Tryd.results38, go_sem, d0, d1, d2, d3]) rfl ⟨rfl, ?_⟩
  exact (((((B1.out.setCell (by simp; omega) _).setCell (by simp; omega) _).setCell (by simp) _).setCell (by simp) _).setCell (by simp) _).setCell (by simp) _

theorem szItem_any (n : ByteArray) (k a b : Int) (left : Int) (w : World) (h0 : 0 ≤ left) (h1 : left ≤ 1048576) (hn : n.size ≤ 9223372036854775807) :
    Calls Tryd.prog 33 #[.agg #[.string n, .int .i64 k, .int .i64 a, .int .i64 b], .int .i64 left] w fun e w' => e = .returned (.int .i64 (if left < n.size then -1 else left - n.size)) ∧ Below w.heap.size w w' := by
  by_cases h : left < n.size
  · rw [if_pos h]
    have h' : left - (n.size : Int) < 0 := by omega
    go_enter Tryd.func33, Tryd.ntmps33
    go_wp2
    go_ret
    exact ⟨rfl, below_box w _⟩
  · rw [if_neg h]
    have h' : ¬ left - (n.size : Int) < 0 := by omega
    go_enter Tryd.func33, Tryd.ntmps33
    go_wp2
    go_ret
    exact ⟨rfl, below_box w _⟩

theorem bytes_ne {x y : ByteArray} (h : x ≠ y) : (x.toList == y.toList) = false := by
  rw [beq_eq_false_iff_ne]
  intro hh
  apply h
  rw [ByteArray.toList_eq, ByteArray.toList_eq] at hh
  obtain ⟨⟨x⟩⟩ := x
  obtain ⟨⟨y⟩⟩ := y
  simpa using hh

/-- whether two items are equal -/
def itB (c d : It) : Bool := decide (c.name = d.name) && (decide (c.kind = d.kind) && (decide (c.f0 = d.f0) && decide (c.f1 = d.f1)))
theorem itB_iff {c d : It} : itB c d = true ↔ c = d := by
  cases c; cases d
  simp [itB]

theorem eqItem_any (c d : It) (w : World) :
    Calls Tryd.prog 45 #[c.val, d.val] w fun e w' => e = .returned (.bool (itB c d)) ∧ Below w.heap.size w w' := by
  obtain ⟨n, k, a, b⟩ := c
  obtain ⟨n', k', a', b'⟩ := d
  show Calls Tryd.prog 45 #[.agg #[.string n, .int .i64 k, .int .i64 a, .int .i64 b], .agg #[.string n', .int .i64 k', .int .i64 a', .int .i64 b']] w _
  by_cases h1 : n = n'
  · subst h1
    by_cases h2 : k = k'
    · subst h2
      have e : itB ⟨n, k, a, b⟩ ⟨n, k, a', b'⟩ = (decide (a = a') && decide (b = b')) := by simp [itB]
      rw [e]
      have HE := Lib.hid (fun W => eqField_any a b a' b' W)
      obtain ⟨r, hr⟩ : ∃ r, (decide (a = a') && decide (b = b')) = r := ⟨_, rfl⟩
      rw [hr] at HE ⊢
      clear e hr
      cases r
      all_goals
        go_enter Tryd.func45, Tryd.ntmps45
        go_wp2_with fail
        refine (HE.out _).mono ?_
        rintro e w1 ⟨rfl, hb⟩
        have B1 := Lib.hid (below_step ((below_box w _).alloc (by simp) _) hb)
        clear hb
        go_wp2
        go_ret
        exact ⟨rfl, B1.out⟩
    · have e : itB ⟨n, k, a, b⟩ ⟨n, k', a', b'⟩ = false := by simp [itB, h2]
      rw [e]
      have hne : (k != k') = true := by simpa using h2
      clear e h2
      go_enter Tryd.func45, Tryd.ntmps45
      go_wp2
      go_ret
      exact ⟨rfl, (below_box w _).alloc (by simp) _⟩
  · have e : itB ⟨n, k, a, b⟩ ⟨n', k', a', b'⟩ = false := by simp [itB, h1]
    rw [e]
    have hne := bytes_ne h1
    clear e h1
    go_enter Tryd.func45, Tryd.ntmps45
    go_wp2
    go_ret
    exact ⟨rfl, (below_box w _).alloc (by simp) _⟩

/-- The items at address A, in a block below B, are ds. -/
def Items (w : World) (B : Nat) (A : Option Addr) (ds : List It) : Prop :=
  0 < ds.length → ∃ b off, A = some ⟨b, off, none⟩ ∧ b < B ∧ ∀ (i : Nat) (d : It), ds[i]? = some d → w.cell? ⟨b, off + i * 4, none⟩ = some (.string d.name) ∧ w.cell? ⟨b, off + i * 4 + 1, none⟩ = some (.int .i64 d.kind) ∧ w.cell? ⟨b, off + i * 4 + 2, none⟩ = some (.int .i64 d.f0) ∧ w.cell? ⟨b, off + i * 4 + 3, none⟩ = some (.int .i64 d.f1)
section
variable {w w' : World} {B B' : Nat} {A : Option Addr} {ds : List It}
theorem Items.nil : Items w B A [] := fun h => absurd h (by simp)
theorem Items.moved (h : Items w B A ds) (hk : ∀ p : Addr, p.block < B → w'.cell? p = w.cell? p) : Items w' B A ds := fun hn => by
  obtain ⟨b, off, rfl, hb, hc⟩ := h hn
  refine ⟨b, off, rfl, hb, fun i d hi => ?_⟩
  obtain ⟨h0, h1, h2, h3⟩ := hc i d hi
  exact ⟨(hk _ hb).trans h0, (hk _ hb).trans h1, (hk _ hb).trans h2, (hk _ hb).trans h3⟩
theorem Items.more (h : Items w B A ds) (hB : B ≤ B') : Items w B' A ds := fun hn => by
  obtain ⟨b, off, rfl, hb, hc⟩ := h hn
  exact ⟨b, off, rfl, by omega, hc⟩
theorem Items.below (h : Items w B A ds) (hb : Below B w w') : Items w' B A ds := h.moved fun _ hp => hb.cell hp
theorem Items.drew (h : Items w B A ds) : Items w.drew B A ds := h
theorem Items.drewN (h : Items w B A ds) (n : Nat) : Items (w.drewN n) B A ds := h
theorem Items.alloc (h : Items w B A ds) (hB : B ≤ w.heap.size) (o : Obj) : Items (w.alloc o) B A ds := h.moved fun p hp => World.cell?_alloc_lt w o p (by omega)
end

/-- the cells of some items -/
def itCells (ds : List It) : List Value := ds.flatMap fun d => [.string d.name, .int .i64 d.kind, .int .i64 d.f0, .int .i64 d.f1]
theorem itCells_length : ∀ ds, (itCells ds).length = ds.length * 4
  | [] => rfl
  | d :: ds => by
    have := itCells_length ds
    simp only [itCells, List.flatMap_cons, List.length_append, List.length_cons, List.length_nil] at this ⊢
    omega
theorem itCells_get : ∀ (ds : List It) (i : Nat) (d : It), ds[i]? = some d → (itCells ds)[i * 4]? = some (.string d.name) ∧ (itCells ds)[i * 4 + 1]? = some (.int .i64 d.kind) ∧ (itCells ds)[i * 4 + 2]? = some (.int .i64 d.f0) ∧ (itCells ds)[i * 4 + 3]? = some (.int .i64 d.f1)
  | [], i, d, h => by simp at h
  | x :: ds, 0, d, h => by
    obtain rfl : x = d := by simpa using h
    exact ⟨rfl, rfl, rfl, rfl⟩
  | x :: ds, i + 1, d, h => by
    have ih := itCells_get ds i d (by simpa using h)
    have e : ∀ j, (itCells (x :: ds))[j + 4]? = (itCells ds)[j]? := fun j => by
      rw [itCells, List.flatMap_cons, List.getElem?_append_right (by simp)]
      simp [itCells]
    have e0 : (i + 1) * 4 = i * 4 + 4 := by omega
    rw [e0]
    refine ⟨(e _).trans ih.1, ?_, ?_, ?_⟩
    · rw [show i * 4 + 4 + 1 = i * 4 + 1 + 4 by omega]; exact (e _).trans ih.2.1
    · rw [show i * 4 + 4 + 2 = i * 4 + 2 + 4 by omega]; exact (e _).trans ih.2.2.1
    · rw [show i * 4 + 4 + 3 = i * 4 + 3 + 4 by omega]; exact (e _).trans ih.2.2.2
/-- Block g holds the items ds, then ex. -/
def IRow (w : World) (g : Nat) (ds : List It) (ex : List Value) : Prop :=
  w.heap[g]? = some (.cells (itCells ds ++ ex).toArray 51 (0, 0))
section
variable {w w' : World} {g : Nat} {ds : List It} {ex : List Value}
theorem IRow.lt (h : IRow w g ds ex) : g < w.heap.size := by
  rcases Nat.lt_or_ge g w.heap.size with hlt | hge
  · exact hlt
  · unfold IRow at h
    rw [Array.getElem?_eq_none hge] at h
    cases h
theorem IRow.cell (h : IRow w g ds ex) {j : Nat} {v : Value} (hv : (itCells ds)[j]? = some v) : w.cell? ⟨g, j, none⟩ = some v := by
  obtain ⟨hj, _⟩ := List.getElem?_eq_some_iff.1 hv
  rw [cell_of_row w g j _ _ _ h]
  simp only [List.getElem?_toArray]
  rw [List.getElem?_append_left hj, hv]
theorem IRow.frozen (h : IRow w g ds ex) (i : Nat) : w.frozen? ⟨g, i, none⟩ = false := by
  unfold IRow at h
  simp [World.frozen?, h]
theorem IRow.items (h : IRow w g ds ex) : Items w (g + 1) (some ⟨g, 0, none⟩) ds := fun _ => ⟨g, 0, rfl, by omega, fun i d hi => by
  obtain ⟨h0, h1, h2, h3⟩ := itCells_get ds i d hi
  rw [Nat.zero_add]
  exact ⟨h.cell h0, h.cell h1, h.cell h2, h.cell h3⟩⟩
theorem IRow.drew (h : IRow w g ds ex) : IRow w.drew g ds ex := h
theorem IRow.drewN (h : IRow w g ds ex) (n : Nat) : IRow (w.drewN n) g ds ex := h
theorem IRow.alloc (h : IRow w g ds ex) (o : Obj) : IRow (w.alloc o) g ds ex := (Below.heap_alloc w o g h.lt).trans h
theorem IRow.far (h : IRow w g ds ex) {p : Addr} (hp : g ≠ p.block) (u : Value) : IRow (w.setCell p u) g ds ex := (Below.heap_setCell w p u g hp).trans h
theorem IRow.later (h : IRow w g ds ex) (hb : Below w.heap.size w w') : IRow w' g ds ex := (hb.block g h.lt).trans h
theorem IRow.onlyR {g' : Nat} (h : w.grownBy w' (some g')) (hr : IRow w g ds ex) (hne : g ≠ g') : IRow w' g ds ex := (h.block g hr.lt (fun e => hne (by injection e))).trans hr
end
end Go.Proofs.YtmdgpkiicjmfhaaDoor
