/- spec.CorrectColumn and impl.CorrectColumn give the card with another character in a column, or the code, for every card of at most 1048576 columns, every column and byte: contracts. -/
import Derived.Test.YthkfdfocghmmeaaPunch
import Derived.Test.YthkfdfocghmmeaaCodes
namespace Go.Proofs.Ythkfdfocghmmeaa
open Go.ChangeShapes Go.WideShapes Go.ChangeAt Go.RowKit

theorem codeOf_all (c : Int) (h0 : 0 ≤ c) (h1 : c ≤ 255) (w : World) :
    Calls Try.prog 70 #[.int .u8 c] w fun e w' => e = .returned (.tuple #[.int .i64 (if codeS c < 0 then 0 else codeS c), .bool (!decide (codeS c < 0))]) ∧ w = w' := by
  rcases same_code c h0 h1 with ⟨e1, e2⟩ | ⟨e1, k, e2, e3, e4⟩
  · rw [if_pos e1, decide_eq_true e1]
    exact implCodeOf_no c e2 w
  · rw [if_neg (by omega), decide_eq_false (by omega), ← e4]
    exact implCodeOf_yes c k e2 e3 w

/-- the code of a card, a column and a byte -/
def corrCode (xs : List Int) (col ch : Int) : Int := if okB xs = true then (if inB col 0 ((xs.length : Int) - 1) = true then (if codeS ch < 0 then 7 else 0) else 2) else 1

theorem specCorrect_bad (A : Option Addr) (c : Nat) (xs : List Int) (B : Nat) (col ch : Int) (h0 : 0 ≤ ch) (h1 : ch ≤ 255) (w : World) (h : Ints w B A xs) (hB : B ≤ w.heap.size) (hn : xs.length ≤ 1048576) (e : corrCode xs col ch ≠ 0) :
    Calls Try.prog 43 #[.agg #[.slice A xs.length c], .int .i64 col, .int .u8 ch] w (GivesCode (corrCode xs col ch) w) := by
  have ho := l02Ok_any A c xs B w.heap.size 0 ((w.alloc (.cells #[.slice A xs.length c] 28)).alloc (.cells #[.slice none 0 0] 28)) (by simp) ((h.alloc hB _).alloc (by simp; omega) _) hn
  have hi := fun W => in_any col 0 ((xs.length : Int) - 1) W
  have hc := fun W => l03Code_any ch h0 h1 W
  obtain ⟨n, hN⟩ : ∃ n, xs.length = n := ⟨_, rfl⟩
  have hcc : corrCode xs col ch = if okB xs = true then (if inB col 0 ((n : Int) - 1) = true then (if codeS ch < 0 then 7 else 0) else 2) else 1 := by rw [corrCode, hN]
  rw [hcc] at e ⊢
  rw [hN] at ho hi hn ⊢
  clear hN hcc h
  cases hok : okB xs
  · rw [hok] at ho
    have HO := Lib.hid ho
    rw [if_neg (by simp)]
    clear ho hok hi hc e
    go_enter Try.func43, Try.ntmps43
    go_wp2_with (go_at_call 51; refine HO.out.mono ?_; rintro e w' ⟨rfl, rfl⟩)
    exact bodyPost_ret (v := .tuple #[.agg #[.slice none 0 0], .int .i64 1]) (by simp [results, Try.results43, go_sem]) rfl ⟨rfl, ((below_box w _).alloc (by simp) _)⟩
  · rw [hok] at ho e
    have HO := Lib.hid ho
    rw [if_pos rfl] at e ⊢
    clear ho hok
    cases hin : inB col 0 ((n : Int) - 1)
    · rw [hin] at hi
      have HI := Lib.hid hi
      rw [if_neg (by simp)]
      clear hi hin hc e
      go_enter Try.func43, Try.ntmps43
      go_wp2_with (first | (go_at_call 51; refine HO.out.mono ?_; rintro e w' ⟨rfl, rfl⟩) | (go_at_call 52; refine (HI.out _).mono ?_; rintro e w' ⟨rfl, rfl⟩))
      exact bodyPost_ret (v := .tuple #[.agg #[.slice none 0 0], .int .i64 2]) (by simp [results, Try.results43, go_sem]) rfl ⟨rfl, ((below_box w _).alloc (by simp) _)⟩
    · rw [hin] at hi e
      have HI := Lib.hid hi
      rw [if_pos rfl] at e ⊢
      clear hi hin
      by_cases hneg : codeS ch < 0
      · rw [if_pos hneg]
        obtain ⟨m, hm⟩ : ∃ m, codeS ch = m := ⟨_, rfl⟩
        rw [hm] at hc hneg
        have HC := Lib.hid hc
        clear hc hm e
        go_enter Try.func43, Try.ntmps43
        go_wp2_with (first | (go_at_call 51; refine HO.out.mono ?_; rintro e w' ⟨rfl, rfl⟩) | (go_at_call 52; refine (HI.out _).mono ?_; rintro e w' ⟨rfl, rfl⟩) | (go_at_call 69; refine (HC.out _).mono ?_; rintro e w' ⟨rfl, rfl⟩))
        exact bodyPost_ret (v := .tuple #[.agg #[.slice none 0 0], .int .i64 7]) (by simp [results, Try.results43, go_sem]) rfl ⟨rfl, ((below_box w _).alloc (by simp) _)⟩
      · rw [if_neg hneg] at e
        exact absurd rfl e

theorem specCorrect_good (A : Option Addr) (c : Nat) (xs : List Int) (B k : Nat) (ch : Int) (h0 : 0 ≤ ch) (h1 : ch ≤ 255) (w : World) (h : Ints w B A xs) (hB : B ≤ w.heap.size) (hn : xs.length ≤ 1048576) (hk : k < xs.length) (e : corrCode xs k ch = 0) :
    Calls Try.prog 43 #[.agg #[.slice A xs.length c], .int .i64 k, .int .u8 ch] w (GivesCard (xs.set k (codeS ch)) w) := by
  obtain ⟨eo, ei, ec⟩ : okB xs = true ∧ inB (k : Int) 0 ((xs.length : Int) - 1) = true ∧ ¬ codeS ch < 0 := by
    unfold corrCode at e
    by_cases a : okB xs = true
    · rw [if_pos a] at e
      by_cases b : inB (k : Int) 0 ((xs.length : Int) - 1) = true
      · rw [if_pos b] at e
        by_cases d : codeS ch < 0
        · rw [if_pos d] at e; cases e
        · exact ⟨a, b, d⟩
      · rw [if_neg b] at e; cases e
    · rw [if_neg a] at e; cases e
  have HH := Lib.hid ((h.alloc hB (.cells #[.slice A xs.length c] 28)).alloc (by simp; omega) (.cells #[.slice none 0 0] 28))
  have ho := l02Ok_any A c xs B w.heap.size 0 ((w.alloc (.cells #[.slice A xs.length c] 28)).alloc (.cells #[.slice none 0 0] 28)) (by simp) HH.out hn
  have hi := fun W => in_any (k : Int) 0 ((xs.length : Int) - 1) W
  have hc := fun W => l03Code_any ch h0 h1 W
  rw [eo] at ho
  rw [ei] at hi
  obtain ⟨m, hm⟩ : ∃ m, codeS ch = m := ⟨_, rfl⟩
  rw [hm] at hc ec ⊢
  have hls : (xs.set k m).length = xs.length := by simp
  have HO := Lib.hid ho
  have HI := Lib.hid hi
  have HC := Lib.hid hc
  have HLS := Lib.hid hls
  have hk0 : (0 : Int) ≤ (k : Int) := Int.natCast_nonneg _
  have hk1 : (k : Int) < (xs.length : Int) := by omega
  clear ho hi hc e eo ei hm h hls
  go_enter Try.func43, Try.ntmps43
  go_wp2_with (first | (go_at_call 51; refine HO.out.mono ?_; rintro e w' ⟨rfl, rfl⟩) | (go_at_call 52; refine (HI.out _).mono ?_; rintro e w' ⟨rfl, rfl⟩) | (go_at_call 69; refine (HC.out _).mono ?_; rintro e w' ⟨rfl, rfl⟩))
  have b0 := (below_box w (.cells #[.slice A xs.length c] 28)).alloc (by simp) (.cells #[.slice none 0 0] 28)
  refine (l02Own_any A c xs B w.heap.size 0 _ (by simp) HH.out (by simp; omega) (by omega) hn).mono ?_
  rintro e w1 ⟨g, cap, ex, rfl, hg, hb1, hr⟩
  have B1 := Lib.hid (below_step b0 hb1)
  have c1 := cell_kept (p := ⟨w.heap.size + 1, 0, none⟩) (v := .slice none 0 0) (by simp) hb1
  have f1 : w1.frozen? ⟨w.heap.size + 1, 0, none⟩ = false := by rw [hb1.frozen (by simp)]; simp
  have hg' : w.heap.size + 2 ≤ g := by simpa using hg
  have s1 : w.heap.size + 1 < w1.heap.size := World.block_lt_of_cell? _ _ c1
  have hr2 := hr.alloc (.cells #[.slice (some ⟨g, 0, none⟩) xs.length cap] 28)
  have e1 := hr2.cell hk
  have e2 := hr2.frozen k
  have gl := hr.lt
  have e3 := hr.cell hk
  have e4 := hr.frozen k
  have HR := Lib.hid hr
  clear b0 hb1 hr hg HH HO
  go_wp2
  have c2 : (w1.setCell ⟨g, k, none⟩ (.int .i64 m)).cell? ⟨w.heap.size + 1, 0, none⟩ = some (.slice none 0 0) := by
    rw [World.cell?_setCell_other _ _ _ _ (by intro e; injection e with e; omega)]; exact c1
  have c3 : (((w1.setCell ⟨g, k, none⟩ (.int .i64 m)).setCell ⟨w.heap.size + 1, 0, none⟩ (.slice (some ⟨g, 0, none⟩) xs.length cap)).alloc (.cells #[.slice (some ⟨g, 0, none⟩) xs.length cap] 28)).cell? ⟨w.heap.size + 1, 0, none⟩ = some (.slice (some ⟨g, 0, none⟩) xs.length cap) := by
    rw [World.cell?_alloc_lt _ _ _ (by simp [World.setCell]; omega)]
    exact cell_stored c2 _
  refine bodyPost_ret (v := .tuple #[.agg #[.slice (some ⟨g, 0, none⟩) xs.length cap], .int .i64 0]) (by simp [results, Try.results43, go_sem, c3]) rfl ⟨g, cap, ex, by rw [HLS.out], by omega, ?_, ?_⟩
  · exact (((B1.out.setCell (by simp; omega) _).setCell (by simp) _).alloc (by simp [World.setCell]; omega) _)
  · exact (((HR.out.set hk m).far (by simp; omega) _).alloc _)

theorem corr_col (xs : List Int) (col ch : Int) : corrCode xs col ch = if colCode xs col = 0 then (if codeS ch < 0 then 7 else 0) else colCode xs col := by
  have hib : (decide (0 ≤ col) && decide (col < (xs.length : Int))) = inB col 0 ((xs.length : Int) - 1) := by
    have e1 : decide (col < (xs.length : Int)) = decide (col ≤ (xs.length : Int) - 1) := decide_eq_decide.2 (by omega)
    rw [inB, e1]
  rw [corrCode, colCode, hib]
  cases okB xs <;> cases inB col 0 ((xs.length : Int) - 1) <;> simp

theorem implCorrect_bad (A : Option Addr) (c : Nat) (xs : List Int) (B : Nat) (col ch : Int) (h0 : 0 ≤ ch) (h1 : ch ≤ 255) (w : World) (h : Ints w B A xs) (hB : B ≤ w.heap.size) (hn : xs.length ≤ 1048576) (e : corrCode xs col ch ≠ 0) :
    Calls Try.prog 44 #[.agg #[.slice A xs.length c], .int .i64 col, .int .u8 ch] w (GivesCode (corrCode xs col ch) w) := by
  have ho := checkColumn_any A c xs B col ((w.alloc (.cells #[.slice A xs.length c] 28)).alloc (.cells #[.slice none 0 0] 28)) ((h.alloc hB _).alloc (by simp; omega) _) (by simp; omega) hn
  have hc := fun W => codeOf_all ch h0 h1 W
  rw [corr_col] at e ⊢
  by_cases hcol : colCode xs col = 0
  · rw [if_pos hcol] at e ⊢
    rw [hcol] at ho
    by_cases hneg : codeS ch < 0
    · rw [if_pos hneg]
      rw [if_pos hneg, decide_eq_true hneg] at hc
      have HO := Lib.hid ho
      have HC := Lib.hid hc
      clear hc ho e h hcol
      go_enter Try.func44, Try.ntmps44
      go_wp2_with fail
      refine HO.out.mono ?_
      rintro e w1 ⟨rfl, hb1⟩
      have B1 := Lib.hid (below_step ((below_box w _).alloc (by simp) _) hb1)
      have c1 := cell_kept (p := ⟨w.heap.size + 1, 0, none⟩) (v := .slice none 0 0) (by simp) hb1
      have f1 : w1.frozen? ⟨w.heap.size + 1, 0, none⟩ = false := by rw [hb1.frozen (by simp)]; simp
      clear hb1 HO
      go_wp2_with (go_at_call 70; refine (HC.out _).mono ?_; rintro e w' ⟨rfl, rfl⟩)
      exact bodyPost_ret (v := .tuple #[.agg #[.slice none 0 0], .int .i64 7]) (by simp [results, Try.results44, go_sem, c1]) rfl ⟨rfl, B1.out.setCell (by simp) _⟩
    · rw [if_neg hneg] at e
      exact absurd rfl e
  · rw [if_neg hcol]
    obtain ⟨a, ha⟩ : ∃ a, colCode xs col = a := ⟨_, rfl⟩
    rw [ha] at ho hcol ⊢
    have ha' : (a == 0) = false := by simpa using hcol
    have HO := Lib.hid ho
    clear ho ha e h hcol hc
    go_enter Try.func44, Try.ntmps44
    go_wp2_with fail
    refine HO.out.mono ?_
    rintro e w1 ⟨rfl, hb1⟩
    have B1 := Lib.hid (below_step ((below_box w _).alloc (by simp) _) hb1)
    have c1 := cell_kept (p := ⟨w.heap.size + 1, 0, none⟩) (v := .slice none 0 0) (by simp) hb1
    have f1 : w1.frozen? ⟨w.heap.size + 1, 0, none⟩ = false := by rw [hb1.frozen (by simp)]; simp
    clear hb1 HO
    go_wp2
    exact bodyPost_ret (v := .tuple #[.agg #[.slice none 0 0], .int .i64 a]) (by simp [results, Try.results44, go_sem, c1]) rfl ⟨rfl, B1.out.setCell (by simp) _⟩

theorem corr_parts {xs : List Int} {k : Nat} {ch : Int} (e : corrCode xs k ch = 0) : okB xs = true ∧ inB (k : Int) 0 ((xs.length : Int) - 1) = true ∧ ¬ codeS ch < 0 := by
  unfold corrCode at e
  by_cases a : okB xs = true
  · rw [if_pos a] at e
    by_cases b : inB (k : Int) 0 ((xs.length : Int) - 1) = true
    · rw [if_pos b] at e
      by_cases d : codeS ch < 0
      · rw [if_pos d] at e; cases e
      · exact ⟨a, b, d⟩
    · rw [if_neg b] at e; cases e
  · rw [if_neg a] at e; cases e

theorem implCorrect_good (A : Option Addr) (c : Nat) (xs : List Int) (B k : Nat) (ch : Int) (h0 : 0 ≤ ch) (h1 : ch ≤ 255) (w : World) (h : Ints w B A xs) (hB : B ≤ w.heap.size) (hn : xs.length ≤ 1048576) (hk : k < xs.length) (e : corrCode xs k ch = 0) :
    Calls Try.prog 44 #[.agg #[.slice A xs.length c], .int .i64 k, .int .u8 ch] w (GivesCard (xs.set k (codeS ch)) w) := by
  obtain ⟨eo, ei, ec⟩ := corr_parts e
  have HH := Lib.hid h
  have ho := checkColumn_any A c xs B k ((w.alloc (.cells #[.slice A xs.length c] 28)).alloc (.cells #[.slice none 0 0] 28)) ((h.alloc hB _).alloc (by simp; omega) _) (by simp; omega) hn
  have eo' : colCode xs k = 0 := by
    have e1 : (decide ((0 : Int) ≤ (k : Int)) && decide ((k : Int) < (xs.length : Int))) = true := by simp; omega
    rw [colCode, eo, if_neg (by decide), e1, if_neg (by decide)]
  have hc := fun W => codeOf_all ch h0 h1 W
  rw [if_neg ec, decide_eq_false ec] at hc
  have hcl := fun W hI hB' => clone_any A c xs B W hI hB' (by omega) hn
  rw [eo'] at ho
  obtain ⟨m, hm⟩ : ∃ m, codeS ch = m := ⟨_, rfl⟩
  rw [hm] at hc ec ⊢
  have hls : (xs.set k m).length = xs.length := by simp
  have HO := Lib.hid ho
  have HC := Lib.hid hc
  have HL := Lib.hid hcl
  have HLS := Lib.hid hls
  have hk0 : (0 : Int) ≤ (k : Int) := Int.natCast_nonneg _
  have hk1 : (k : Int) < (xs.length : Int) := by omega
  clear ho hc hcl e eo ei hm h hls eo'
  go_enter Try.func44, Try.ntmps44
  go_wp2_with fail
  refine HO.out.mono ?_
  rintro e w1 ⟨rfl, hb1⟩
  have B1 := Lib.hid (below_step ((below_box w _).alloc (by simp) _) hb1)
  have c0 := cell_kept (p := ⟨w.heap.size, 0, none⟩) (v := .slice A xs.length c) (by simp) hb1
  have c1 := cell_kept (p := ⟨w.heap.size + 1, 0, none⟩) (v := .slice none 0 0) (by simp) hb1
  have f1 : w1.frozen? ⟨w.heap.size + 1, 0, none⟩ = false := by rw [hb1.frozen (by simp)]; simp
  clear hb1
  go_wp2_with (go_at_call 70; refine (HC.out _).mono ?_; rintro e w' ⟨rfl, rfl⟩)
  refine (HL.out _ (HH.out.below (B1.out.mono hB)) (Nat.le_trans hB B1.out.size)).mono ?_
  rintro e w2 ⟨g, cap, ex, rfl, hg, hb2, hr⟩
  have B2 := Lib.hid (below_step B1.out hb2)
  have c2 := cell_kept c1 hb2
  have f2 : w2.frozen? ⟨w.heap.size + 1, 0, none⟩ = false := by rw [hb2.frozen (World.block_lt_of_cell? _ _ c1)]; exact f1
  have hg' : w.heap.size + 1 < g := Nat.lt_of_lt_of_le (World.block_lt_of_cell? _ _ c1) hg
  have s2 := World.block_lt_of_cell? _ _ c2
  have gl := hr.lt
  have e3 := hr.cell hk
  have e4 := hr.frozen k
  have HR := Lib.hid hr
  clear hb2 hr c0 c1 f1
  go_wp2
  have c3 : (w2.setCell ⟨g, k, none⟩ (.int .i64 m)).cell? ⟨w.heap.size + 1, 0, none⟩ = some (.slice none 0 0) := by
    rw [World.cell?_setCell_other _ _ _ _ (by intro e; injection e with e; omega)]; exact c2
  have c4 : ((w2.setCell ⟨g, k, none⟩ (.int .i64 m)).setCell ⟨w.heap.size + 1, 0, none⟩ (.slice (some ⟨g, 0, none⟩) xs.length cap)).cell? ⟨w.heap.size + 1, 0, none⟩ = some (.slice (some ⟨g, 0, none⟩) xs.length cap) := cell_stored c3 _
  refine bodyPost_ret (v := .tuple #[.agg #[.slice (some ⟨g, 0, none⟩) xs.length cap], .int .i64 0]) (by simp [results, Try.results44, go_sem, c4]) rfl ⟨g, cap, ex, by rw [HLS.out], by omega, ?_, ?_⟩
  · exact (B2.out.setCell (by simp; omega) _).setCell (by simp) _
  · exact (HR.out.set hk m).far (by simp; omega) _
end Go.Proofs.Ythkfdfocghmmeaa
