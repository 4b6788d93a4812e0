/- spec.PartOf and impl.PartOf give the card that has the columns of a field, or the code, for every card of at most 1048576 columns and every field: contracts, of laws.toField too. -/
import Derived.Test.YtdakbbgbglgioaaDoorOwn
import Derived.Test.YtdakbbgbglgioaaDoorFieldOf
import Derived.Deep.RegionHeld3
import Derived.Deep.QuietTactic
import Derived.BigQuiet
import Derived.Laws.NewDeep
namespace Go.Proofs.YtdakbbgbglgioaaDoor
open Go.ChangeShapes Go.WideShapes Go.ChangeAt Go.RowKit

/-- the code of a card and a field -/
def partCode (xs : List Int) (a b : Int) : Int := if okB xs = false then 1 else if fieldB a b xs.length = false then 2 else 0

theorem l02Code_any (A : Option Addr) (c : Nat) (xs : List Int) (B p o : Nat) (a b : Int) (w : World) (hp : w.cell? ⟨p, o, none⟩ = some (.slice A xs.length c)) (h : Ints w B A xs) (hB : B ≤ w.heap.size) (hn : xs.length ≤ 1048576) :
    Calls Tryd.prog 50 #[.pointer (some ⟨p, o, none⟩), .agg #[.int .i64 a, .int .i64 b]] w fun e w' => e = .returned (.int .i64 (partCode xs a b)) ∧ Below w.heap.size w w' := by
  have hp1 := cell_kept hp (below_box w (.cells #[.int .i64 a, .int .i64 b] 26))
  have hok := l02Ok_any A c xs B p o _ hp1 (h.alloc hB _) hn
  cases hv : okB xs
  · have e : partCode xs a b = 1 := by simp [partCode, hv]
    rw [e]
    rw [hv] at hok
    have HO := Lib.hid hok
    clear hok e hv h hp hn hp1
    go_enter Tryd.func50, Tryd.ntmps50
    go_wp2_with (go_at_call 46; refine HO.out.mono ?_; rintro e w' ⟨rfl, rfl⟩)
    go_ret
    exact ⟨rfl, below_box w _⟩
  · rw [hv] at hok
    have hlt := World.block_lt_of_cell? _ _ hp
    obtain ⟨r, hr⟩ : ∃ r, fieldB a b xs.length = r := ⟨_, rfl⟩
    have e : partCode xs a b = if r = false then 2 else 0 := by simp [partCode, hv, hr]
    rw [e]
    obtain ⟨n, hN⟩ : ∃ n, xs.length = n := ⟨_, rfl⟩
    rw [hN] at hp hp1 hn hr
    have HO := Lib.hid hok
    have HR := Lib.hid hr
    have q0 : (w.alloc (.cells #[.int .i64 a, .int .i64 b] 26)).cell? ⟨w.heap.size, 0, none⟩ = some (.int .i64 a) := by simp
    have q1 : (w.alloc (.cells #[.int .i64 a, .int .i64 b] 26)).cell? ⟨w.heap.size, 1, none⟩ = some (.int .i64 b) := by simp
    clear hok e hv h hr hN
    go_enter Tryd.func50, Tryd.ntmps50
    go_wp2_with (go_at_call 46; refine HO.out.mono ?_; rintro e w' ⟨rfl, rfl⟩)
    go_region_held3 (fun W => W.cell? ⟨p, o, none⟩ = some (.slice A n c) ∧ W.cell? ⟨w.heap.size, 0, none⟩ = some (.int .i64 a) ∧ W.cell? ⟨w.heap.size, 1, none⟩ = some (.int .i64 b))
      (first | exact ⟨hp1, q0, q1⟩ | exact ⟨hp2, r0, r1⟩)
      (first
        | (go_at_call 47
           refine (l02Field_any a b n _).mono ?_
           rw [HR.out]
           rintro e w2 ⟨rfl, hb⟩
           have B2 := Lib.hid (below_step (below_box w _).drew hb)
           have hp2 := cell_kept (w := (w.alloc (.cells #[.int .i64 a, .int .i64 b] 26)).drew) hp1 hb
           have r0 := cell_kept (w := (w.alloc (.cells #[.int .i64 a, .int .i64 b] 26)).drew) q0 hb
           have r1 := cell_kept (w := (w.alloc (.cells #[.int .i64 a, .int .i64 b] 26)).drew) q1 hb
           clear hb))
    cases r
    all_goals
      go_wp2
      go_ret
      exact ⟨rfl, B2.out⟩

/-- the numbers of a field -/
def partOf (xs : List Int) (i j : Nat) : List Int := (xs.drop i).take (j - i)
theorem partOf_length (xs : List Int) (i j : Nat) (h : j ≤ xs.length) : (partOf xs i j).length = j - i := by simp [partOf]; omega
theorem Ints.part {w : World} {B b off : Nat} {xs : List Int} (h : Ints w B (some ⟨b, off, none⟩) xs) (i j : Nat) (hij : i < j) (hj : j ≤ xs.length) : Ints w B (some ⟨b, off + i, none⟩) (partOf xs i j) := by
  intro _
  obtain ⟨b', off', e, hb, hc⟩ := h (by omega)
  injection e with e
  injection e with e1 e2
  subst e1 e2
  refine ⟨b, off + i, rfl, hb, fun t ht => ?_⟩
  rw [partOf_length xs i j hj] at ht
  rw [Nat.add_assoc, hc (i + t) (by omega), partOf, List.getElem?_take_of_lt (by omega), List.getElem?_drop]

theorem l02Part_any (b off c : Nat) (xs : List Int) (p o i j : Nat) (w : World) (hp : w.cell? ⟨p, o, none⟩ = some (.slice (some ⟨b, off, none⟩) xs.length c)) (hc : xs.length ≤ c) (_ : xs.length ≤ 1048576 ∧ c ≤ 9223372036854775807) (hij : i < j) (hj : j ≤ xs.length) :
    Calls Tryd.prog 52 #[.pointer (some ⟨p, o, none⟩), .agg #[.int .i64 i, .int .i64 j]] w fun e w' => e = .returned (.slice (some ⟨b, off + i, none⟩) (j - i) (c - i)) ∧ Below w.heap.size w w' := by
  have hp1 := cell_kept hp (below_box w (.cells #[.int .i64 i, .int .i64 j] 26))
  have hlt := World.block_lt_of_cell? _ _ hp
  obtain ⟨n, hN⟩ : ∃ n, xs.length = n := ⟨_, rfl⟩
  rw [hN] at hp hp1 hc hj
  have i0 : (0 : Int) ≤ (i : Int) := Int.natCast_nonneg _
  have i1 : (i : Int) ≤ (j : Int) := by omega
  have i2 : (j : Int) ≤ (c : Int) := by omega
  have i3 : ¬ c = i := by omega
  clear hN hp
  go_enter Tryd.func52, Tryd.ntmps52
  go_wp2
  go_quiet (fail)
  go_wp2
  go_ret
  exact ⟨rfl, below_drewN (below_box w _) _⟩

theorem partCode_cases (xs : List Int) (a b : Int) : (partCode xs a b = 1 ∧ okB xs = false) ∨ (partCode xs a b = 2 ∧ okB xs = true ∧ fieldB a b xs.length = false) ∨ (partCode xs a b = 0 ∧ okB xs = true ∧ fieldB a b xs.length = true) := by
  unfold partCode
  cases okB xs <;> cases fieldB a b xs.length <;> simp

theorem specPart_bad (A : Option Addr) (c : Nat) (xs : List Int) (B : Nat) (a b : Int) (w : World) (h : Ints w B A xs) (hB : B ≤ w.heap.size) (hn : xs.length ≤ 1048576) (e : partCode xs a b ≠ 0) :
    Calls Tryd.prog 18 #[.agg #[.slice A xs.length c], .agg #[.int .i64 a, .int .i64 b]] w (GivesCode (partCode xs a b) w) := by
  have hat := l02Code_any A c xs B w.heap.size 0 a b (((w.alloc (.cells #[.slice A xs.length c] 36)).alloc (.cells #[.int .i64 a, .int .i64 b] 26)).alloc (.cells #[.slice none 0 0] 36)) (by simp [go_sem]) (((h.alloc hB _).alloc (by simp; omega) _).alloc (by simp; omega) _) (by simp; omega) hn
  obtain ⟨k, hk⟩ : ∃ k, partCode xs a b = k := ⟨_, rfl⟩
  rw [hk] at hat e ⊢
  have hne : (k != 0) = true := by simpa using e
  have HA := Lib.hid hat
  clear hat h hk e
  go_enter Tryd.func18, Tryd.ntmps18
  go_wp2_with fail
  refine HA.out.mono ?_
  rintro e w1 ⟨rfl, hb1⟩
  have B1 := Lib.hid (below_step (((below_box w _).alloc (by simp) _).alloc (by simp; omega) _) hb1)
  have c1 := cell_kept (p := ⟨w.heap.size + 1 + 1, 0, none⟩) (v := .slice none 0 0) (by simp [go_sem]) hb1
  have f1 : w1.frozen? ⟨w.heap.size + 1 + 1, 0, none⟩ = false := by rw [hb1.frozen (by simp)]; simp [go_sem]
  clear hb1
  go_wp2
  exact bodyPost_ret (v := .tuple #[.agg #[.slice none 0 0], .int .i64 k]) (by simp [results, Tryd.results18, go_sem, c1]) rfl ⟨rfl, B1.out.setCell (by simp; omega) _⟩

theorem specPart_good (A : Option Addr) (c : Nat) (xs : List Int) (B i j : Nat) (w : World) (h : Ints w B A xs) (hB : B ≤ w.heap.size) (hc : xs.length ≤ c) (hcm : xs.length ≤ 1048576 ∧ c ≤ 9223372036854775807) (hij : i < j) (hj : j ≤ xs.length) (e : partCode xs i j = 0) :
    Calls Tryd.prog 18 #[.agg #[.slice A xs.length c], .agg #[.int .i64 i, .int .i64 j]] w (GivesCard (partOf xs i j) w) := by
  have hat := l02Code_any A c xs B w.heap.size 0 i j (((w.alloc (.cells #[.slice A xs.length c] 36)).alloc (.cells #[.int .i64 i, .int .i64 j] 26)).alloc (.cells #[.slice none 0 0] 36)) (by simp [go_sem]) (((h.alloc hB _).alloc (by simp; omega) _).alloc (by simp; omega) _) (by simp; omega) (by omega)
  rw [e] at hat
  obtain ⟨b, off, rfl, _, _⟩ := h (by omega)
  have hl := partOf_length xs i j hj
  have HP := Lib.hid (h.part i j hij hj)
  obtain ⟨ys, hy⟩ : ∃ ys, partOf xs i j = ys := ⟨_, rfl⟩
  rw [hy] at HP hl ⊢
  have HA := Lib.hid hat
  have HL := Lib.hid hl
  clear hat h e hy hl
  go_enter Tryd.func18, Tryd.ntmps18
  go_wp2_with fail
  refine HA.out.mono ?_
  rintro e w1 ⟨rfl, hb1⟩
  have B1 := Lib.hid (below_step (((below_box w _).alloc (by simp) _).alloc (by simp; omega) _) hb1)
  have c0 := cell_kept (p := ⟨w.heap.size, 0, none⟩) (v := .slice (some ⟨b, off, none⟩) xs.length c) (by simp [go_sem]) hb1
  have q0 := cell_kept (p := ⟨w.heap.size + 1, 0, none⟩) (v := .int .i64 i) (by simp [go_sem]) hb1
  have q1 := cell_kept (p := ⟨w.heap.size + 1, 1, none⟩) (v := .int .i64 j) (by simp [go_sem]) hb1
  have c1 := cell_kept (p := ⟨w.heap.size + 1 + 1, 0, none⟩) (v := .slice none 0 0) (by simp [go_sem]) hb1
  have f1 : w1.frozen? ⟨w.heap.size + 1 + 1, 0, none⟩ = false := by rw [hb1.frozen (by simp)]; simp [go_sem]
  clear hb1 HA
  go_wp2_with fail
  refine (l02Part_any b off c xs w.heap.size 0 i j _ c0 hc hcm hij hj).mono ?_
  rintro e w2 ⟨rfl, hb2⟩
  have B2 := Lib.hid (below_step B1.out hb2)
  have c2 := cell_kept c1 hb2
  have f2 : w2.frozen? ⟨w.heap.size + 1 + 1, 0, none⟩ = false := by rw [hb2.frozen (World.block_lt_of_cell? _ _ c1)]; exact f1
  clear hb2 c0 q0 q1 c1 f1 B1
  go_wp2_with fail
  have hown := l00Own_any (some ⟨b, off + i, none⟩) (c - i) ys B w2 (HP.out.below (B2.out.mono hB)) (Nat.le_trans hB B2.out.size) (by have := HL.out; omega) (by have := HL.out; omega)
  rw [HL.out] at hown
  refine hown.mono ?_
  rintro e w3 ⟨g, cap, ex, rfl, hg, hb3, hr⟩
  have B3 := Lib.hid (below_step B2.out hb3)
  have c3 := cell_kept c2 hb3
  have f3 : w3.frozen? ⟨w.heap.size + 1 + 1, 0, none⟩ = false := by rw [hb3.frozen (World.block_lt_of_cell? _ _ c2)]; exact f2
  have hg' : w.heap.size + 1 + 1 < g := Nat.lt_of_lt_of_le (World.block_lt_of_cell? _ _ c2) hg
  have HR := Lib.hid hr
  clear hb3 hr c2 f2 B2 hown
  go_wp2
  refine bodyPost_ret (v := .tuple #[.agg #[.slice (some ⟨g, 0, none⟩) ys.length cap], .int .i64 0]) (by simp [results, Tryd.results18, go_sem, c3]) rfl ⟨g, cap, ex, rfl, by omega, ?_, ?_⟩
  · exact B3.out.setCell (by simp; omega) _
  · exact HR.out.far (by simp; omega) _

end Go.Proofs.YtdakbbgbglgioaaDoor