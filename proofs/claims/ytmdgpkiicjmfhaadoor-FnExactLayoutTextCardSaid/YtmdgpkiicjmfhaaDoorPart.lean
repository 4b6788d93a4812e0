/- spec.PartOf and impl.PartOf give the card that has the columns of a field, or the code, for every card of at most 1048576 columns and every field: contracts, of laws.toField too. -/
import Derived.Test.YtmdgpkiicjmfhaaDoorOwn
import Derived.Test.YtmdgpkiicjmfhaaDoorFieldOf
import Derived.Deep.RegionHeld3
import Derived.Deep.QuietTactic
import Derived.BigQuiet
import Derived.Laws.NewDeep
namespace Go.Proofs.YtmdgpkiicjmfhaaDoor
open Go.ChangeShapes Go.WideShapes Go.ChangeAt Go.RowKit

theorem toField_any (a b : Int) (w : World) :
    Calls Tryd.prog 62 #[.agg #[.int .i64 a, .int .i64 b]] w fun e w' => e = .returned (.agg #[.int .i64 a, .int .i64 b]) ∧ Below w.heap.size w w' := by
  go_enter Tryd.func62, Tryd.ntmps62
  go_wp2
  refine bodyPost_ret (v := .agg #[.int .i64 a, .int .i64 b]) (by simp [results, Tryd.results62, go_sem]) rfl ⟨rfl, ?_⟩
  exact ((below_box w _).alloc (by simp) _).alloc (by simp; omega) _

/-- the code of a card and a field -/
def partCode (xs : List Int) (a b : Int) : Int := if okB xs = false then 1 else if fieldB a b xs.length = false then 2 else 0

/-- the numbers of a field -/
def partOf (xs : List Int) (i j : Nat) : List Int := (xs.drop i).take (j - i)
theorem partOf_length (xs : List Int) (i j : Nat) (h : j ≤ xs.length) : (partOf xs i j).length = j - i := by simp [partOf]; omega
theorem Ints.part {w : World} {B b off : Nat} {xs : List Int} (h : Ints w B (some ⟨b, off, none⟩) xs) (i j : Nat) (hij : i < j) (hj : j ≤ xs.length) : Ints w B (some ⟨b, off + i, none⟩) (partOf xs i j) := by
  intro _
  obtain ⟨b', off', e, hb, hc⟩ := h (by omega)
  injection e with e
  injection e with e1 e2
  subst e1 e2
  refine ⟨b, off + i, rfl, hb, fun t ht => ?_⟩
  rw [partOf_length xs i j hj] at ht
  rw [Nat.add_assoc, hc (i + t) (by omega), partOf, List.getElem?_take_of_lt (by omega), List.getElem?_drop]

theorem l02Part_any (b off c : Nat) (xs : List Int) (p o i j : Nat) (w : World) (hp : w.cell? ⟨p, o, none⟩ = some (.slice (some ⟨b, off, none⟩) xs.length c)) (hc : xs.length ≤ c) (_ : xs.length ≤ 1048576 ∧ c ≤ 9223372036854775807) (hij : i < j) (hj : j ≤ xs.length) :
    Calls Tryd.prog 19 #[.pointer (some ⟨p, o, none⟩), .agg #[.int .i64 i, .int .i64 j]] w fun e w' => e = .returned (.slice (some ⟨b, off + i, none⟩) (j - i) (c - i)) ∧ Below w.heap.size w w' := by
  have hp1 := cell_kept hp (below_box w (.cells #[.int .i64 i, .int .i64 j] 49))
  have hlt := World.block_lt_of_cell? _ _ hp
  obtain ⟨n, hN⟩ : ∃ n, xs.length = n := ⟨_, rfl⟩
  rw [hN] at hp hp1 hc hj
  have i0 : (0 : Int) ≤ (i : Int) := Int.natCast_nonneg _
  have i1 : (i : Int) ≤ (j : Int) := by omega
  have i2 : (j : Int) ≤ (c : Int) := by omega
  have i3 : ¬ c = i := by omega
  clear hN hp
  go_enter Tryd.func19, Tryd.ntmps19
  go_wp2
  go_quiet (fail)
  go_wp2
  go_ret
  exact ⟨rfl, below_drewN (below_box w _) _⟩

theorem partCode_cases (xs : List Int) (a b : Int) : (partCode xs a b = 1 ∧ okB xs = false) ∨ (partCode xs a b = 2 ∧ okB xs = true ∧ fieldB a b xs.length = false) ∨ (partCode xs a b = 0 ∧ okB xs = true ∧ fieldB a b xs.length = true) := by
  unfold partCode
  cases okB xs <;> cases fieldB a b xs.length <;> simp

theorem columnsIn_bad (A : Option Addr) (c : Nat) (xs : List Int) (B : Nat) (a b : Int) (w : World) (h : Ints w B A xs) (hB : B ≤ w.heap.size) (hn : xs.length ≤ 1048576) (e : partCode xs a b ≠ 0) :
    Calls Tryd.prog 42 #[.agg #[.slice A xs.length c], .agg #[.int .i64 a, .int .i64 b]] w fun e w' => e = .returned (.tuple #[.slice none 0 0, .int .i64 (partCode xs a b)]) ∧ Below w.heap.size w w' := by
  have hok := implValidCard_any A c xs B ((w.alloc (.cells #[.slice A xs.length c] 56)).alloc (.cells #[.int .i64 a, .int .i64 b] 49)) ((h.alloc hB _).alloc (by simp; omega) _) (by simp; omega) hn
  rcases partCode_cases xs a b with ⟨e', hv⟩ | ⟨e', hv, hf⟩ | ⟨e', _⟩
  · rw [e']
    rw [hv] at hok
    have HO := Lib.hid hok
    clear hok h e e' hv hn
    go_enter Tryd.func42, Tryd.ntmps42
    go_wp2_with fail
    refine HO.out.mono ?_
    rintro e w1 ⟨rfl, hb1⟩
    have B1 := Lib.hid (below_step ((below_box w _).alloc (by simp) _) hb1)
    clear hb1
    go_wp2
    go_ret2
    exact ⟨rfl, B1.out⟩
  · rw [e']
    rw [hv] at hok
    have hfo := fun W => isFieldOf_any a b xs.length W
    rw [hf] at hfo
    have HO := Lib.hid hok
    have HF := Lib.hid hfo
    clear hok h e e' hv hn hf hfo
    go_enter Tryd.func42, Tryd.ntmps42
    go_wp2_with fail
    refine HO.out.mono ?_
    rintro e w1 ⟨rfl, hb1⟩
    have B1 := Lib.hid (below_step ((below_box w _).alloc (by simp) _) hb1)
    have c0 := cell_kept (p := ⟨w.heap.size, 0, none⟩) (v := .slice A xs.length c) (by simp [go_sem]) hb1
    have q0 := cell_kept (p := ⟨w.heap.size + 1, 0, none⟩) (v := .int .i64 a) (by simp [go_sem]) hb1
    have q1 := cell_kept (p := ⟨w.heap.size + 1, 1, none⟩) (v := .int .i64 b) (by simp [go_sem]) hb1
    clear hb1 HO
    go_wp2_with fail
    refine (HF.out _).mono ?_
    rintro e w2 ⟨rfl, hb2⟩
    have B2 := Lib.hid (below_step B1.out hb2)
    clear hb2 c0 q0 q1 B1
    go_wp2
    go_ret2
    exact ⟨rfl, B2.out⟩
  · exact absurd e' e

theorem columnsIn_good (b off c : Nat) (xs : List Int) (B i j : Nat) (w : World) (h : Ints w B (some ⟨b, off, none⟩) xs) (hB : B ≤ w.heap.size) (hc : xs.length ≤ c) (hcm : xs.length ≤ 1048576 ∧ c ≤ 9223372036854775807) (hij : i < j) (hj : j ≤ xs.length) (e : partCode xs i j = 0) :
    Calls Tryd.prog 42 #[.agg #[.slice (some ⟨b, off, none⟩) xs.length c], .agg #[.int .i64 i, .int .i64 j]] w fun e w' => e = .returned (.tuple #[.slice (some ⟨b, off + i, none⟩) (j - i) (c - i), .int .i64 0]) ∧ Below w.heap.size w w' := by
  have hok := implValidCard_any (some ⟨b, off, none⟩) c xs B ((w.alloc (.cells #[.slice (some ⟨b, off, none⟩) xs.length c] 56)).alloc (.cells #[.int .i64 i, .int .i64 j] 49)) ((h.alloc hB _).alloc (by simp; omega) _) (by simp; omega) (by omega)
  have hfo := fun W => isFieldOf_any i j xs.length W
  obtain ⟨hv, hf⟩ : okB xs = true ∧ fieldB i j xs.length = true := by
    rcases partCode_cases xs i j with ⟨e', _⟩ | ⟨e', _⟩ | ⟨_, hv, hf⟩
    · rw [e] at e'; exact absurd e' (by decide)
    · rw [e] at e'; exact absurd e' (by decide)
    · exact ⟨hv, hf⟩
  rw [hv] at hok
  rw [hf] at hfo
  have HO := Lib.hid hok
  have HF := Lib.hid hfo
  have i0 : (0 : Int) ≤ (i : Int) := Int.natCast_nonneg _
  have i1 : (i : Int) ≤ (j : Int) := by omega
  have i2 : (j : Int) ≤ (c : Int) := by omega
  have i3 : ¬ c = i := by omega
  clear hok hfo h e hv hf
  go_enter Tryd.func42, Tryd.ntmps42
  go_wp2_with fail
  refine HO.out.mono ?_
  rintro e w1 ⟨rfl, hb1⟩
  have B1 := Lib.hid (below_step ((below_box w _).alloc (by simp) _) hb1)
  have c0 := cell_kept (p := ⟨w.heap.size, 0, none⟩) (v := .slice (some ⟨b, off, none⟩) xs.length c) (by simp [go_sem]) hb1
  have q0 := cell_kept (p := ⟨w.heap.size + 1, 0, none⟩) (v := .int .i64 i) (by simp [go_sem]) hb1
  have q1 := cell_kept (p := ⟨w.heap.size + 1, 1, none⟩) (v := .int .i64 j) (by simp [go_sem]) hb1
  clear hb1 HO
  go_wp2_with fail
  refine (HF.out _).mono ?_
  rintro e w2 ⟨rfl, hb2⟩
  have B2 := Lib.hid (below_step B1.out hb2)
  have d0 := cell_kept c0 hb2
  have p0 := cell_kept q0 hb2
  have p1 := cell_kept q1 hb2
  clear hb2 c0 q0 q1 B1 HF
  go_wp2
  go_ret2
  exact ⟨rfl, B2.out⟩

end Go.Proofs.YtmdgpkiicjmfhaaDoor