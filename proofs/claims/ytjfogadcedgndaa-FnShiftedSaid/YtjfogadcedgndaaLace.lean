/- spec.LaceColumn and impl.LaceColumn give the card with all holes in a column, or the code, for every card of at most 1048576 columns and every column: contracts. -/
import Derived.Test.YtjfogadcedgndaaSh3
namespace Go.Proofs.Ytjfogadcedgndaa
open Go.ChangeShapes Go.WideShapes Go.ChangeAt Go.RowKit

theorem orAll_parts : ∀ a b : Fin 64, bits .or .i64 ((64 * a.val + b.val : Nat) : Int) 4095 = 4095 := by decide +kernel
theorem orAll {x : Int} (h : 0 ≤ x ∧ x ≤ 4095) : bits .or .i64 x 4095 = 4095 := by
  obtain ⟨m, rfl⟩ : ∃ m : Nat, x = m := ⟨x.toNat, by omega⟩
  have e : 64 * (m / 64) + m % 64 = m := by omega
  have := orAll_parts ⟨m / 64, by omega⟩ ⟨m % 64, by omega⟩
  simp only [e] at this
  exact this
theorem colCode_zero {xs : List Int} {col : Int} (h : colCode xs col = 0) : okB xs = true ∧ ∃ k : Nat, col = k ∧ k < xs.length := by
  rcases colCode_cases xs col with ⟨e, _⟩ | ⟨e, _⟩ | ⟨_, hv, hc⟩
  · rw [h] at e; exact absurd e (by decide)
  · rw [h] at e; exact absurd e (by decide)
  · exact ⟨hv, column_of hc⟩
theorem inB_col (n : Nat) (col : Int) : inB col 0 ((n : Int) - 1) = (decide (0 ≤ col) && decide (col < (n : Int))) := by
  have e1 : decide (col < (n : Int)) = decide (col ≤ (n : Int) - 1) := decide_eq_decide.2 (by omega)
  rw [inB, e1]

theorem specLace_bad (A : Option Addr) (c : Nat) (xs : List Int) (B : Nat) (col : Int) (w : World) (h : Ints w B A xs) (hB : B ≤ w.heap.size) (hn : xs.length ≤ 1048576) (e : colCode xs col ≠ 0) :
    Calls Try.prog 36 #[.agg #[.slice A xs.length c], .int .i64 col] w (GivesCode (colCode xs col) w) := by
  have ho := l02Ok_any A c xs B w.heap.size 0 ((w.alloc (.cells #[.slice A xs.length c] 26)).alloc (.cells #[.slice none 0 0] 26)) (by simp) ((h.alloc hB _).alloc (by simp; omega) _) hn
  have hi := fun W => in_any col 0 ((xs.length : Int) - 1) W
  rw [inB_col] at hi
  rcases colCode_cases xs col with ⟨e', hv⟩ | ⟨e', hv, hc⟩ | ⟨e', _⟩
  · rw [e']
    rw [hv] at ho
    have HO := Lib.hid ho
    clear ho hi e e' hv h hn
    go_enter Try.func36, Try.ntmps36
    go_wp2_with (go_at_call 57; refine HO.out.mono ?_; rintro e w' ⟨rfl, rfl⟩)
    exact bodyPost_ret (v := .tuple #[.agg #[.slice none 0 0], .int .i64 1]) (by simp [results, Try.results36, go_sem]) rfl ⟨rfl, ((below_box w _).alloc (by simp) _)⟩
  · rw [e']
    rw [hv] at ho
    rw [hc] at hi
    obtain ⟨n, hN⟩ : ∃ n, xs.length = n := ⟨_, rfl⟩
    rw [hN] at ho hi hn ⊢
    have HO := Lib.hid ho
    have HI := Lib.hid hi
    clear ho hi e e' hv h hc hN
    go_enter Try.func36, Try.ntmps36
    go_wp2_with (first | (go_at_call 57; refine HO.out.mono ?_; rintro e w' ⟨rfl, rfl⟩) | (go_at_call 84; refine (HI.out _).mono ?_; rintro e w' ⟨rfl, rfl⟩))
    exact bodyPost_ret (v := .tuple #[.agg #[.slice none 0 0], .int .i64 2]) (by simp [results, Try.results36, go_sem]) rfl ⟨rfl, ((below_box w _).alloc (by simp) _)⟩
  · exact absurd e' e

theorem specLace_good (A : Option Addr) (c : Nat) (xs : List Int) (B k : Nat) (w : World) (h : Ints w B A xs) (hB : B ≤ w.heap.size) (hn : xs.length ≤ 1048576) (hk : k < xs.length) (eo : okB xs = true) :
    Calls Try.prog 36 #[.agg #[.slice A xs.length c], .int .i64 k] w (GivesCard (xs.set k 4095) w) := by
  have HH := Lib.hid ((h.alloc hB (.cells #[.slice A xs.length c] 26)).alloc (by simp; omega) (.cells #[.slice none 0 0] 26))
  have ho := l02Ok_any A c xs B w.heap.size 0 ((w.alloc (.cells #[.slice A xs.length c] 26)).alloc (.cells #[.slice none 0 0] 26)) (by simp) HH.out hn
  have hi := fun W => in_any (k : Int) 0 ((xs.length : Int) - 1) W
  have ei : inB (k : Int) 0 ((xs.length : Int) - 1) = true := by simp [inB]; omega
  rw [eo] at ho
  rw [ei] at hi
  have hls : (xs.set k 4095).length = xs.length := by simp
  have HO := Lib.hid ho
  have HI := Lib.hid hi
  have HLS := Lib.hid hls
  have hk0 : (0 : Int) ≤ (k : Int) := Int.natCast_nonneg _
  have hk1 : (k : Int) < (xs.length : Int) := by omega
  clear ho hi eo ei h hls
  go_enter Try.func36, Try.ntmps36
  go_wp2_with (first | (go_at_call 57; refine HO.out.mono ?_; rintro e w' ⟨rfl, rfl⟩) | (go_at_call 84; refine (HI.out _).mono ?_; rintro e w' ⟨rfl, rfl⟩))
  have b0 := (below_box w (.cells #[.slice A xs.length c] 26)).alloc (by simp) (.cells #[.slice none 0 0] 26)
  refine (l02Own_any A c xs B w.heap.size 0 _ (by simp) HH.out (by simp; omega) (by omega) hn).mono ?_
  rintro e w1 ⟨g, cap, ex, rfl, hg, hb1, hr⟩
  have B1 := Lib.hid (below_step b0 hb1)
  have c1 := cell_kept (p := ⟨w.heap.size + 1, 0, none⟩) (v := .slice none 0 0) (by simp) hb1
  have f1 : w1.frozen? ⟨w.heap.size + 1, 0, none⟩ = false := by rw [hb1.frozen (by simp)]; simp
  have hg' : w.heap.size + 2 ≤ g := by simpa using hg
  have s1 : w.heap.size + 1 < w1.heap.size := World.block_lt_of_cell? _ _ c1
  have hr2 := hr.alloc (.cells #[.slice (some ⟨g, 0, none⟩) xs.length cap] 26)
  have e1 := hr2.cell hk
  have e2 := hr2.frozen k
  have gl := hr.lt
  have e3 := hr.cell hk
  have e4 := hr.frozen k
  have HR := Lib.hid hr
  clear b0 hb1 hr hg HH HO
  go_wp2
  have c2 : (w1.setCell ⟨g, k, none⟩ (.int .i64 4095)).cell? ⟨w.heap.size + 1, 0, none⟩ = some (.slice none 0 0) := by
    rw [World.cell?_setCell_other _ _ _ _ (by intro e; injection e with e; omega)]; exact c1
  have c3 : (((w1.setCell ⟨g, k, none⟩ (.int .i64 4095)).setCell ⟨w.heap.size + 1, 0, none⟩ (.slice (some ⟨g, 0, none⟩) xs.length cap)).alloc (.cells #[.slice (some ⟨g, 0, none⟩) xs.length cap] 26)).cell? ⟨w.heap.size + 1, 0, none⟩ = some (.slice (some ⟨g, 0, none⟩) xs.length cap) := by
    rw [World.cell?_alloc_lt _ _ _ (by simp [World.setCell]; omega)]
    exact cell_stored c2 _
  refine bodyPost_ret (v := .tuple #[.agg #[.slice (some ⟨g, 0, none⟩) xs.length cap], .int .i64 0]) (by simp [results, Try.results36, go_sem, c3]) rfl ⟨g, cap, ex, by rw [HLS.out], by omega, ?_, ?_⟩
  · exact (((B1.out.setCell (by simp; omega) _).setCell (by simp) _).alloc (by simp [World.setCell]; omega) _)
  · exact (((HR.out.set hk 4095).far (by simp; omega) _).alloc _)

theorem implLace_bad (A : Option Addr) (c : Nat) (xs : List Int) (B : Nat) (col : Int) (w : World) (h : Ints w B A xs) (hB : B ≤ w.heap.size) (hn : xs.length ≤ 1048576) (e : colCode xs col ≠ 0) :
    Calls Try.prog 35 #[.agg #[.slice A xs.length c], .int .i64 col] w (GivesCode (colCode xs col) w) := by
  have ho := checkColumn_any A c xs B col ((w.alloc (.cells #[.slice A xs.length c] 26)).alloc (.cells #[.slice none 0 0] 26)) ((h.alloc hB _).alloc (by simp; omega) _) (by simp; omega) hn
  obtain ⟨a, ha⟩ : ∃ a, colCode xs col = a := ⟨_, rfl⟩
  rw [ha] at ho e ⊢
  have ha' : (a == 0) = false := by simpa using e
  have HO := Lib.hid ho
  clear ho ha e h
  go_enter Try.func35, Try.ntmps35
  go_wp2_with fail
  refine HO.out.mono ?_
  rintro e w1 ⟨rfl, hb1⟩
  have B1 := Lib.hid (below_step ((below_box w _).alloc (by simp) _) hb1)
  have c1 := cell_kept (p := ⟨w.heap.size + 1, 0, none⟩) (v := .slice none 0 0) (by simp) hb1
  have f1 : w1.frozen? ⟨w.heap.size + 1, 0, none⟩ = false := by rw [hb1.frozen (by simp)]; simp
  clear hb1 HO
  go_wp2
  exact bodyPost_ret (v := .tuple #[.agg #[.slice none 0 0], .int .i64 a]) (by simp [results, Try.results35, go_sem, c1]) rfl ⟨rfl, B1.out.setCell (by simp) _⟩

theorem implLace_good (A : Option Addr) (c : Nat) (xs : List Int) (B k : Nat) (w : World) (h : Ints w B A xs) (hB : B ≤ w.heap.size) (hn : xs.length ≤ 1048576) (hk : k < xs.length) (eo : okB xs = true) :
    Calls Try.prog 35 #[.agg #[.slice A xs.length c], .int .i64 k] w (GivesCard (xs.set k 4095) w) := by
  have HH := Lib.hid h
  have ho := checkColumn_any A c xs B k ((w.alloc (.cells #[.slice A xs.length c] 26)).alloc (.cells #[.slice none 0 0] 26)) ((h.alloc hB _).alloc (by simp; omega) _) (by simp; omega) hn
  have ec : colCode xs k = 0 := by
    have e1 : (decide ((0 : Int) ≤ (k : Int)) && decide ((k : Int) < (xs.length : Int))) = true := by simp; omega
    rw [colCode, eo, if_neg (by decide), e1, if_neg (by decide)]
  rw [ec] at ho
  have hw := fun W hI hB' => with_any A c xs B k 4095 W hI hB' hk hn
  rw [orAll (legal_at (okB_parts eo).1 hk)] at hw
  obtain ⟨zs, hz⟩ : ∃ zs, xs.set k 4095 = zs := ⟨_, rfl⟩
  have hls : zs.length = xs.length := by rw [← hz]; simp
  rw [hz] at hw ⊢
  have HO := Lib.hid ho
  have HW := Lib.hid hw
  have hk0 : (0 : Int) ≤ (k : Int) := Int.natCast_nonneg _
  have hk1 : (k : Int) < (xs.length : Int) := by omega
  clear ho hw eo ec h hz hls
  go_enter Try.func35, Try.ntmps35
  go_wp2_with fail
  refine HO.out.mono ?_
  rintro e w1 ⟨rfl, hb1⟩
  have B1 := Lib.hid (below_step ((below_box w _).alloc (by simp) _) hb1)
  have c0 := cell_kept (p := ⟨w.heap.size, 0, none⟩) (v := .slice A xs.length c) (by simp) hb1
  have c1 := cell_kept (p := ⟨w.heap.size + 1, 0, none⟩) (v := .slice none 0 0) (by simp) hb1
  have f1 : w1.frozen? ⟨w.heap.size + 1, 0, none⟩ = false := by rw [hb1.frozen (by simp)]; simp
  clear hb1 HO
  go_wp2_with fail
  refine (HW.out _ (HH.out.below (B1.out.mono hB)) (Nat.le_trans hB B1.out.size)).mono ?_
  rintro e w2 ⟨g, cap, ex, rfl, hg, hb2, hr⟩
  have B2 := Lib.hid (below_step B1.out hb2)
  have c2 := cell_kept c1 hb2
  have f2 : w2.frozen? ⟨w.heap.size + 1, 0, none⟩ = false := by rw [hb2.frozen (World.block_lt_of_cell? _ _ c1)]; exact f1
  have hg' : w.heap.size + 1 < g := Nat.lt_of_lt_of_le (World.block_lt_of_cell? _ _ c1) hg
  have HR := Lib.hid hr
  clear hb2 hr c0 c1 f1
  go_wp2
  refine bodyPost_ret (v := .tuple #[.agg #[.slice (some ⟨g, 0, none⟩) zs.length cap], .int .i64 0]) (by simp [results, Try.results35, go_sem, c2]) rfl ⟨g, cap, ex, rfl, by omega, ?_, ?_⟩
  · exact B2.out.setCell (by simp) _
  · exact HR.out.far (by simp; omega) _
end Go.Proofs.Ytjfogadcedgndaa
