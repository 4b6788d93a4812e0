/- spec.TornColumns and impl.TornColumns give the card without holes in the columns of a field, or the code, for every card of at most 1048576 columns and every field: contracts. -/
import Derived.Test.YtjfogadcedgndaaSh3
import Derived.Test.YtjfogadcedgndaaPart
import Derived.Test.YtjfogadcedgndaaCloneC
import Derived.Lib.SliceRun
import Derived.BigFrame
namespace Go.Proofs.Ytjfogadcedgndaa
open Go.ChangeShapes Go.WideShapes Go.ChangeAt Go.RowKit

/-- columns without holes from i up to k -/
def zeroTo (xs : List Int) (i k : Nat) : List Int := (List.range xs.length).map fun t : Nat => if i ≤ t ∧ t < k then 0 else xs[t]?.getD 0
theorem zeroTo_length (xs : List Int) (i k : Nat) : (zeroTo xs i k).length = xs.length := by simp [zeroTo]
theorem zeroTo_start (xs : List Int) (i : Nat) : zeroTo xs i i = xs := by
  apply List.ext_getElem
  · simp [zeroTo]
  · intro t h1 h2
    simp only [zeroTo, List.getElem_map, List.getElem_range]
    rw [if_neg (by omega), List.getElem?_eq_getElem h2]
    rfl
theorem zeroTo_set (xs : List Int) (i k : Nat) (hik : i ≤ k) (_ : k < xs.length) : (zeroTo xs i k).set k 0 = zeroTo xs i (k + 1) := by
  apply List.ext_getElem
  · simp [zeroTo]
  · intro t h1 h2
    rw [List.getElem_set]
    simp only [zeroTo, List.getElem_map, List.getElem_range]
    by_cases ht : k = t
    · subst ht
      rw [if_pos rfl, if_pos (by omega)]
    · rw [if_neg ht]
      by_cases hc : i ≤ t ∧ t < k
      · rw [if_pos hc, if_pos (by omega)]
      · rw [if_neg hc, if_neg (by omega)]
theorem row_zero {g : Nat} {ex : List Value} (xs : List Int) (i : Nat) : ∀ (m k : Nat) (w : World), Row w g (zeroTo xs i k) ex → i ≤ k → k + m ≤ xs.length →
    Row (w.setCells g k (List.replicate m (.int .i64 0))) g (zeroTo xs i (k + m)) ex ∧ w.grownBy (w.setCells g k (List.replicate m (.int .i64 0))) (some g)
  | 0, k, w, h, _, _ => ⟨h, World.grownBy.refl _ _⟩
  | m + 1, k, w, h, hik, hk => by
    have h1 : Row (w.setCell ⟨g, k, none⟩ (.int .i64 0)) g (zeroTo xs i (k + 1)) ex := by
      rw [← zeroTo_set xs i k hik (by omega)]
      exact h.set (by rw [zeroTo_length]; omega) 0
    obtain ⟨h2, h3⟩ := row_zero xs i m (k + 1) _ h1 (by omega) (by omega)
    rw [show k + (m + 1) = k + 1 + m by omega]
    exact ⟨h2, only_step (only_set _ _ _ _) h3⟩

theorem specTorn_bad (A : Option Addr) (c : Nat) (xs : List Int) (B : Nat) (a b : Int) (w : World) (h : Ints w B A xs) (hB : B ≤ w.heap.size) (hn : xs.length ≤ 1048576) (e : partCode xs a b ≠ 0) :
    Calls Try.prog 45 #[.agg #[.slice A xs.length c], .agg #[.int .i64 a, .int .i64 b]] w (GivesCode (partCode xs a b) w) := by
  have hat := l02Code_any A c xs B w.heap.size 0 a b (((w.alloc (.cells #[.slice A xs.length c] 26)).alloc (.cells #[.int .i64 a, .int .i64 b] 70)).alloc (.cells #[.slice none 0 0] 26)) (by simp [go_sem]) (((h.alloc hB _).alloc (by simp; omega) _).alloc (by simp; omega) _) (by simp; omega) hn
  obtain ⟨k, hk⟩ : ∃ k, partCode xs a b = k := ⟨_, rfl⟩
  rw [hk] at hat e ⊢
  have hne : (k != 0) = true := by simpa using e
  have HA := Lib.hid hat
  clear hat h hk e
  go_enter Try.func45, Try.ntmps45
  go_wp2_with fail
  refine HA.out.mono ?_
  rintro e w1 ⟨rfl, hb1⟩
  have B1 := Lib.hid (below_step (((below_box w _).alloc (by simp) _).alloc (by simp; omega) _) hb1)
  have c1 := cell_kept (p := ⟨w.heap.size + 1 + 1, 0, none⟩) (v := .slice none 0 0) (by simp [go_sem]) hb1
  have f1 : w1.frozen? ⟨w.heap.size + 1 + 1, 0, none⟩ = false := by rw [hb1.frozen (by simp)]; simp [go_sem]
  clear hb1
  go_wp2
  exact bodyPost_ret (v := .tuple #[.agg #[.slice none 0 0], .int .i64 k]) (by simp [results, Try.results45, go_sem, c1]) rfl ⟨rfl, B1.out.setCell (by simp; omega) _⟩

theorem specTorn_good (A : Option Addr) (c : Nat) (xs : List Int) (B i j : Nat) (w : World) (h : Ints w B A xs) (hB : B ≤ w.heap.size) (hn : xs.length ≤ 1048576) (hij : i < j) (hj : j ≤ xs.length) (e : partCode xs i j = 0) :
    Calls Try.prog 45 #[.agg #[.slice A xs.length c], .agg #[.int .i64 i, .int .i64 j]] w (GivesCard (zeroTo xs i j) w) := by
  have i0 := ((h.alloc hB (.cells #[.slice A xs.length c] 26)).alloc (by simp; omega) (.cells #[.int .i64 i, .int .i64 j] 70)).alloc (by simp; omega) (.cells #[.slice none 0 0] 26)
  have hat := l02Code_any A c xs B w.heap.size 0 i j _ (by simp [go_sem]) i0 (by simp; omega) hn
  rw [e] at hat
  have HA := Lib.hid hat
  have HI := Lib.hid i0
  have h0 : 0 < xs.length := by omega
  have HLZ := Lib.hid (zeroTo_length xs i)
  clear hat i0 h e
  go_enter Try.func45, Try.ntmps45
  go_wp2_with fail
  refine HA.out.mono ?_
  rintro e w1 ⟨rfl, hb1⟩
  have B1 := Lib.hid (below_step (((below_box w _).alloc (by simp) _).alloc (by simp; omega) _) hb1)
  have I1 := Lib.hid (HI.out.below (hb1.mono (by simp; omega)))
  have a1 := cell_kept (p := ⟨w.heap.size, 0, none⟩) (v := .slice A xs.length c) (by simp [go_sem]) hb1
  have q1 := cell_kept (p := ⟨w.heap.size + 1, 0, none⟩) (v := .int .i64 i) (by simp [go_sem]) hb1
  have r1 := cell_kept (p := ⟨w.heap.size + 1, 1, none⟩) (v := .int .i64 j) (by simp [go_sem]) hb1
  have c1 := cell_kept (p := ⟨w.heap.size + 1 + 1, 0, none⟩) (v := .slice none 0 0) (by simp [go_sem]) hb1
  have f1 : w1.frozen? ⟨w.heap.size + 1 + 1, 0, none⟩ = false := by rw [hb1.frozen (by simp)]; simp [go_sem]
  clear hb1 HA HI
  go_wp2_with fail
  refine (l02Own_any A c xs B w.heap.size 0 w1 a1 I1.out (Nat.le_trans hB B1.out.size) h0 hn).mono ?_
  rintro e w2 ⟨g, cap, ex, rfl, hg, hb2, hr⟩
  have hs1 : w.heap.size + 1 + 1 < w1.heap.size := World.block_lt_of_cell? _ _ c1
  have hgw : w.heap.size + 1 + 1 < g := Nat.lt_of_lt_of_le hs1 hg
  have B2 := Lib.hid (below_step B1.out hb2)
  have q2 := cell_kept q1 hb2
  have r2 := cell_kept r1 hb2
  have c2 := cell_kept c1 hb2
  have f2 := frozen_kept' c1 f1 hb2
  have hbx := below_box w2 (.cells #[.slice (some ⟨g, 0, none⟩) xs.length cap] 26)
  have gl := hr.lt
  have B3 := Lib.hid (below_step B2.out hbx)
  have q3 := cell_kept q2 hbx
  have r3 := Lib.hid (cell_kept r2 hbx)
  have c3 := Lib.hid (cell_kept c2 hbx)
  have f3 := Lib.hid (frozen_kept' c2 f2 hbx)
  have b3 : Hid ((w2.alloc (.cells #[.slice (some ⟨g, 0, none⟩) xs.length cap] 26)).cell? ⟨w2.heap.size, 0, none⟩ = some (.slice (some ⟨g, 0, none⟩) xs.length cap)) := by
    show _ = _
    simp
  have R3 := Lib.hid (hr.later hbx)
  have hltg : Hid (w2.heap.size ≠ g) := Nat.ne_of_gt gl
  clear hb2 hr hg hbx c1 f1 q1 r1 a1 c2 f2 q2 r2 B1 B2 I1
  go_wp2
  clear q3
  generalize (w2.alloc (.cells #[.slice (some ⟨g, 0, none⟩) xs.length cap] 26)) = w3 at *
  go_loopw [8] (fun v wr => ∃ k : Nat, i ≤ k ∧ k ≤ j ∧ v = .int .i64 k ∧ w3.grownBy wr (some g) ∧ Row wr g (zeroTo xs i k) ex) (fun v _ => j - (intOf v).toNat)
  case atStart => exact ⟨i, Nat.le_refl _, by omega, rfl, World.grownBy.refl _ _, by rw [zeroTo_start]; exact R3.out⟩
  case round =>
    obtain ⟨k, hik, hk, rfl, hgr, hrow⟩ := hrel
    have e1 := Lib.hid (cell_only hgr b3.out hltg.out)
    have e2 := Lib.hid (cell_only hgr r3.out (Nat.ne_of_lt (by show w.heap.size + 1 < g; omega)))
    have hll := Lib.hid (HLZ.out k)
    by_cases hlt : k < j
    · have hx : k < xs.length := by omega
      have x1 := hrow.cell (i := k) (by rw [hll.out]; exact hx)
      have z1 := hrow.frozen k
      have hset := Lib.hid (zeroTo_set xs i k hik hx)
      obtain ⟨v, hv⟩ : ∃ v, (zeroTo xs i k)[k]?.getD 0 = v := ⟨_, rfl⟩
      rw [hv] at x1
      have HG := Lib.hid hgr
      have HRW := Lib.hid hrow
      have e3 := e1.out
      have e4 := e2.out
      have hk0 : (0 : Int) ≤ (k : Int) := Int.natCast_nonneg _
      have hk1 : (k : Int) < (j : Int) := by omega
      have hk2 : (k : Int) < (xs.length : Int) := by omega
      clear hgr hrow hv e1 e2
      go_wp2
      go_roundw
      case rel =>
        refine ⟨k + 1, by omega, by omega, by go_num, only_step HG.out (only_set _ _ _ _), ?_⟩
        rw [← hset.out]
        exact HRW.out.set (by rw [hll.out]; exact hx) _
      case measure => simp [intOf]; omega
    · obtain rfl : k = j := by omega
      have hk1 : ¬ (k : Int) < (k : Int) := by omega
      have c4 := cell_only hgr c3.out (Nat.ne_of_lt (by show w.heap.size + 1 + 1 < g; omega))
      have f4 := frozen_onlyO hgr c3.out f3.out (Nat.ne_of_lt (by show w.heap.size + 1 + 1 < g; omega))
      have B4 := Lib.hid (below_only B3.out hgr (by omega))
      have HRW := Lib.hid hrow
      have e3 := e1.out
      have e4 := e2.out
      clear hgr hrow e1 e2
      go_wp2
      refine bodyPost_ret (v := .tuple #[.agg #[.slice (some ⟨g, 0, none⟩) xs.length cap], .int .i64 0]) (by simp [results, Try.results45, go_sem, c4]) rfl ⟨g, cap, ex, by rw [hll.out], by omega, ?_, ?_⟩
      · exact B4.out.setCell (by simp; omega) _
      · exact HRW.out.far (by simp; omega) _

theorem implTorn_bad (A : Option Addr) (c : Nat) (xs : List Int) (B : Nat) (a b : Int) (w : World) (h : Ints w B A xs) (hB : B ≤ w.heap.size) (hn : xs.length ≤ 1048576) (e : partCode xs a b ≠ 0) :
    Calls Try.prog 44 #[.agg #[.slice A xs.length c], .agg #[.int .i64 a, .int .i64 b]] w (GivesCode (partCode xs a b) w) := by
  have hat := columnsIn_bad A c xs B a b (((w.alloc (.cells #[.slice A xs.length c] 26)).alloc (.cells #[.int .i64 a, .int .i64 b] 70)).alloc (.cells #[.slice none 0 0] 26)) (((h.alloc hB _).alloc (by simp; omega) _).alloc (by simp; omega) _) (by simp; omega) hn e
  obtain ⟨k, hk⟩ : ∃ k, partCode xs a b = k := ⟨_, rfl⟩
  rw [hk] at hat e ⊢
  have hne : (k != 0) = true := by simpa using e
  have HA := Lib.hid hat
  clear hat h hk e
  go_enter Try.func44, Try.ntmps44
  go_wp2_with fail
  refine HA.out.mono ?_
  rintro e w1 ⟨rfl, hb1⟩
  have B1 := Lib.hid (below_step (((below_box w _).alloc (by simp) _).alloc (by simp; omega) _) hb1)
  have c1 := cell_kept (p := ⟨w.heap.size + 1 + 1, 0, none⟩) (v := .slice none 0 0) (by simp [go_sem]) hb1
  have f1 : w1.frozen? ⟨w.heap.size + 1 + 1, 0, none⟩ = false := by rw [hb1.frozen (by simp)]; simp [go_sem]
  clear hb1
  go_wp2
  exact bodyPost_ret (v := .tuple #[.agg #[.slice none 0 0], .int .i64 k]) (by simp [results, Try.results44, go_sem, c1]) rfl ⟨rfl, B1.out.setCell (by simp; omega) _⟩

/-- A card whose capacity is told, and no error. -/
def GivesCap (ys : List Int) (w : World) (e : Ending) (w' : World) : Prop :=
  ∃ g cap ex, e = .returned (.tuple #[.agg #[.slice (some ⟨g, 0, none⟩) ys.length cap], .int .i64 0]) ∧ (ys.length ≤ cap ∧ cap ≤ 9223372036854775807) ∧ w.heap.size ≤ g ∧ Below w.heap.size w w' ∧ Row w' g ys ex

theorem implTorn_goodC (b off c : Nat) (xs : List Int) (B i j : Nat) (w : World) (h : Ints w B (some ⟨b, off, none⟩) xs) (hB : B ≤ w.heap.size) (hc : xs.length ≤ c) (hcm : xs.length ≤ 1048576 ∧ c ≤ 9223372036854775807) (hij : i < j) (hj : j ≤ xs.length) (e : partCode xs i j = 0) :
    Calls Try.prog 44 #[.agg #[.slice (some ⟨b, off, none⟩) xs.length c], .agg #[.int .i64 i, .int .i64 j]] w (GivesCap (zeroTo xs i j) w) := by
  have hat := columnsIn_good b off c xs B i j (((w.alloc (.cells #[.slice (some ⟨b, off, none⟩) xs.length c] 26)).alloc (.cells #[.int .i64 i, .int .i64 j] 70)).alloc (.cells #[.slice none 0 0] 26)) (((h.alloc hB _).alloc (by simp; omega) _).alloc (by simp; omega) _) (by simp; omega) hc hcm hij hj e
  have hcl := fun W hI hB' => cloneC_any (some ⟨b, off, none⟩) c xs B W hI hB' (by omega) hcm.1
  have HA := Lib.hid hat
  have HL := Lib.hid hcl
  have HLZ := Lib.hid (zeroTo_length xs i j)
  have HH := Lib.hid h
  clear hat h e hcl
  go_enter Try.func44, Try.ntmps44
  go_wp2_with fail
  refine HA.out.mono ?_
  rintro e w1 ⟨rfl, hb1⟩
  have B1 := Lib.hid (below_step (((below_box w _).alloc (by simp) _).alloc (by simp; omega) _) hb1)
  have a1 := cell_kept (p := ⟨w.heap.size, 0, none⟩) (v := .slice (some ⟨b, off, none⟩) xs.length c) (by simp [go_sem]) hb1
  have q1 := cell_kept (p := ⟨w.heap.size + 1, 0, none⟩) (v := .int .i64 i) (by simp [go_sem]) hb1
  have r1 := cell_kept (p := ⟨w.heap.size + 1, 1, none⟩) (v := .int .i64 j) (by simp [go_sem]) hb1
  have c1 := cell_kept (p := ⟨w.heap.size + 1 + 1, 0, none⟩) (v := .slice none 0 0) (by simp [go_sem]) hb1
  have f1 : w1.frozen? ⟨w.heap.size + 1 + 1, 0, none⟩ = false := by rw [hb1.frozen (by simp)]; simp [go_sem]
  clear hb1 HA
  go_wp2_with fail
  refine (HL.out w1 (HH.out.below (B1.out.mono hB)) (Nat.le_trans hB B1.out.size)).mono ?_
  rintro e w2 ⟨g, cap, ex, rfl, hcp, hcm2, hg, hb2, hr⟩
  have hs1 : w.heap.size + 1 + 1 < w1.heap.size := World.block_lt_of_cell? _ _ c1
  have hgw : w.heap.size + 1 + 1 < g := Nat.lt_of_lt_of_le hs1 hg
  have B2 := Lib.hid (below_step B1.out hb2)
  have q2 := cell_kept q1 hb2
  have r2 := cell_kept r1 hb2
  have c2 := cell_kept c1 hb2
  have f2 := frozen_kept' c1 f1 hb2
  have hcl : ∀ ty, (Builtin.clear_ #[24] ty #[.slice (some ⟨g, i, none⟩) (j - i) (cap - i)]).run Try.prog w2 = .ok (.tuple #[]) (w2.setCells g i (List.replicate (j - i) (.int .i64 0))) := fun ty => by
    have := Lib.run_clear_slice w2 24 2 ty (.int .i64 0) Try.underlying24 (fun _ => by kernel_rfl) rfl rfl g i (j - i) (cap - i) (by omega) (fun t ht => by rw [hr.cell (by omega)]; rfl) (fun t ht => hr.frozen _)
    exact this
  obtain ⟨hz1, hz2⟩ := row_zero (g := g) (ex := ex) xs i (j - i) i w2 (by rw [zeroTo_start]; exact hr) (Nat.le_refl _) (by omega)
  rw [show i + (j - i) = j by omega] at hz1
  have c3 := cell_only hz2 c2 (Nat.ne_of_lt (by show w.heap.size + 1 + 1 < g; omega))
  have f3 := frozen_onlyO hz2 c2 f2 (Nat.ne_of_lt (by show w.heap.size + 1 + 1 < g; omega))
  have B3 := Lib.hid (below_only B2.out hz2 (by omega))
  have R3 := Lib.hid hz1
  have i0 : (0 : Int) ≤ (i : Int) := Int.natCast_nonneg _
  have i1 : (i : Int) ≤ (j : Int) := by omega
  have i2 : (j : Int) ≤ (cap : Int) := by omega
  have i3 : ¬ cap = i := by omega
  clear hb2 hr hg c1 f1 q1 r1 a1 B1 HH HL hz1 hz2
  go_wp2_with (simp only [hcl])
  refine bodyPost_ret (v := .tuple #[.agg #[.slice (some ⟨g, 0, none⟩) xs.length cap], .int .i64 0]) (by simp [results, Try.results44, go_sem, c3]) rfl ⟨g, cap, ex, by rw [HLZ.out], ⟨by rw [HLZ.out]; exact hcp, Nat.le_trans hcm2 (by decide)⟩, by omega, ?_, ?_⟩
  · exact B3.out.setCell (by simp; omega) _
  · exact R3.out.far (by simp; omega) _
theorem implTorn_good (b off c : Nat) (xs : List Int) (B i j : Nat) (w : World) (h : Ints w B (some ⟨b, off, none⟩) xs) (hB : B ≤ w.heap.size) (hc : xs.length ≤ c) (hcm : xs.length ≤ 1048576 ∧ c ≤ 9223372036854775807) (hij : i < j) (hj : j ≤ xs.length) (e : partCode xs i j = 0) :
    Calls Try.prog 44 #[.agg #[.slice (some ⟨b, off, none⟩) xs.length c], .agg #[.int .i64 i, .int .i64 j]] w (GivesCard (zeroTo xs i j) w) :=
  (implTorn_goodC b off c xs B i j w h hB hc hcm hij hj e).mono (by
    rintro e w' ⟨g, cap, ex, he, _, hr⟩
    exact ⟨g, cap, ex, he, hr⟩)
end Go.Proofs.Ytjfogadcedgndaa
