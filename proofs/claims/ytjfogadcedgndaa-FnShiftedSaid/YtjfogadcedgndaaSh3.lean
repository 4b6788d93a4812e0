/- spec.HasHole and impl.HasHole answer the same for every card of at most 1048576 columns, every column and row: contracts, of spec.l02At, impl.bitOn, impl.BitOf and impl.isColumnOf too. -/
import Derived.Test.YtjfogadcedgndaaSh1
import Derived.Deep.QuietTactic
import Derived.BigQuiet
import Derived.Test.YtjfogadcedgndaaSh2
import Derived.Deep.RegionLaw
import Derived.Laws.NewDeep
import Derived.RegionTactic
import Derived.ChangeAlike
namespace Go.Proofs.Ytjfogadcedgndaa
open Go.ChangeShapes Go.WideShapes Go.ChangeAt Go.RowKit

theorem rowBit_some (r : Int) (h : ¬ (r < 0 ∨ r = 10 ∨ 12 < r)) : 1 ≤ rowBit r ∧ rowBit r ≤ 2048 := by
  rcases rowBit_cases r with h' | h' | h' | h' | h' | h' | h' | h' | h' | h' | h' | h' | h' | h' | h'
  · exact absurd (Or.inl h') h
  · exact absurd (Or.inr (Or.inl h')) h
  · exact absurd (Or.inr (Or.inr h')) h
  all_goals (subst h'; decide)

theorem implBitOf_no (r : Int) (h : rowBit r = 0) (w : World) :
    Calls Try.prog 13 #[.int .i64 r] w fun e w' => e = .returned (.tuple #[.int .i64 0, .int .i64 2]) ∧ w = w' := by
  have h' : r < 0 ∨ r = 10 ∨ 12 < r := by
    rcases Classical.em (r < 0 ∨ r = 10 ∨ 12 < r) with hr | hr
    · exact hr
    · have := rowBit_some r hr; omega
  clear h
  rcases h' with h | h | h
  · go_enter Try.func13, Try.ntmps13
    go_wp2
    go_ret2
    exact ⟨rfl, rfl⟩
  · subst h
    go_enter Try.func13, Try.ntmps13
    go_wp2
    go_ret2
    exact ⟨rfl, rfl⟩
  · go_enter Try.func13, Try.ntmps13
    go_wp2
    go_ret2
    exact ⟨rfl, rfl⟩

theorem implBitOf_yes (r : Int) (h : rowBit r ≠ 0) (w : World) :
    Calls Try.prog 13 #[.int .i64 r] w fun e w' => e = .returned (.tuple #[.int .i64 (rowBit r), .int .i64 0]) ∧ w = w' := by
  rcases rowBit_cases r with h' | h' | h' | h' | h' | h' | h' | h' | h' | h' | h' | h' | h' | h' | h'
  · exact absurd (rowBit_out r (by omega)) h
  · exact absurd (rowBit_out r (by omega)) h
  · exact absurd (rowBit_out r (by omega)) h
  all_goals
    subst h'
    clear h
    go_enter Try.func13, Try.ntmps13
    go_wp2
    go_ret2
    exact ⟨rfl, rfl⟩

theorem isColumnOf_any (n m : Int) (w : World) :
    Calls Try.prog 116 #[.int .i64 n, .int .i64 m] w fun e w' => e = .returned (.bool (decide (0 ≤ n) && decide (n < m))) ∧ w = w' := by
  by_cases h1 : 0 ≤ n
  · by_cases h2 : n < m
    · have e : (decide (0 ≤ n) && decide (n < m)) = true := by simp [h1, h2]
      rw [e]
      clear e
      go_enter Try.func116, Try.ntmps116
      go_wp2
      go_ret
      exact ⟨rfl, rfl⟩
    · have e : (decide (0 ≤ n) && decide (n < m)) = false := by simp [h2]
      rw [e]
      clear e
      go_enter Try.func116, Try.ntmps116
      go_wp2
      go_ret
      exact ⟨rfl, rfl⟩
  · have e : (decide (0 ≤ n) && decide (n < m)) = false := by simp [h1]
    rw [e]
    clear e
    go_enter Try.func116, Try.ntmps116
    go_wp2
    go_ret
    exact ⟨rfl, rfl⟩

/-- the code of a card, a column and a row -/
def atCode (xs : List Int) (col row : Int) : Int := if okB xs = false then 1 else if (decide (0 ≤ col) && decide (col < xs.length)) = false ∨ rowBit row = 0 then 2 else 0

theorem atCode_cases (xs : List Int) (col row : Int) : (atCode xs col row = 1 ∧ okB xs = false) ∨ (atCode xs col row = 2 ∧ okB xs = true ∧ (decide (0 ≤ col) && decide (col < xs.length)) = false) ∨
    (atCode xs col row = 2 ∧ okB xs = true ∧ (decide (0 ≤ col) && decide (col < xs.length)) = true ∧ rowBit row = 0) ∨ (atCode xs col row = 0 ∧ okB xs = true ∧ (decide (0 ≤ col) && decide (col < xs.length)) = true ∧ rowBit row ≠ 0) := by
  unfold atCode
  cases okB xs <;> cases (decide (0 ≤ col) && decide (col < xs.length)) <;> by_cases h : rowBit row = 0 <;> simp [h]

/-- the code of a card and a column -/
def colCode (xs : List Int) (col : Int) : Int := if okB xs = false then 1 else if (decide (0 ≤ col) && decide (col < xs.length)) = false then 2 else 0
theorem colCode_cases (xs : List Int) (col : Int) : (colCode xs col = 1 ∧ okB xs = false) ∨ (colCode xs col = 2 ∧ okB xs = true ∧ (decide (0 ≤ col) && decide (col < xs.length)) = false) ∨
    (colCode xs col = 0 ∧ okB xs = true ∧ (decide (0 ≤ col) && decide (col < xs.length)) = true) := by
  unfold colCode
  cases okB xs <;> cases (decide (0 ≤ col) && decide (col < xs.length)) <;> simp
theorem atCode_col (xs : List Int) (col row : Int) : (colCode xs col ≠ 0 ∧ atCode xs col row = colCode xs col) ∨ (colCode xs col = 0 ∧ rowBit row = 0 ∧ atCode xs col row = 2) ∨ (colCode xs col = 0 ∧ rowBit row ≠ 0 ∧ atCode xs col row = 0) := by
  unfold colCode atCode
  cases okB xs <;> cases (decide (0 ≤ col) && decide (col < xs.length)) <;> by_cases h : rowBit row = 0 <;> simp [h]

theorem checkColumn_any (A : Option Addr) (c : Nat) (xs : List Int) (B : Nat) (col : Int) (w : World) (h : Ints w B A xs) (hB : B ≤ w.heap.size) (hn : xs.length ≤ 1048576) :
    Calls Try.prog 86 #[.agg #[.slice A xs.length c], .int .i64 col] w fun e w' =>
      e = .returned (.int .i64 (colCode xs col)) ∧ Below w.heap.size w w' := by
  have hok := implValidCard_any A c xs B (w.alloc (.cells #[.slice A xs.length c] 26)) (h.alloc hB _) (by simp; omega) hn
  rcases colCode_cases xs col with ⟨e, hv⟩ | ⟨e, hv, hc⟩ | ⟨e, hv, hc⟩
  · rw [e]
    rw [hv] at hok
    have HO := Lib.hid hok
    clear hok e hv h hn
    go_enter Try.func86, Try.ntmps86
    go_wp2_with fail
    refine HO.out.mono ?_
    rintro e w1 ⟨rfl, hb⟩
    have B1 := Lib.hid (below_step (below_box w _) hb)
    clear hb
    go_wp2
    go_ret
    exact ⟨rfl, B1.out⟩
  · rw [e]
    rw [hv] at hok
    have hin := isColumnOf_any col xs.length
    rw [hc] at hin
    have HO := Lib.hid hok
    have HI := Lib.hid hin
    clear hok hin hc e hv h hn
    go_enter Try.func86, Try.ntmps86
    go_wp2_with fail
    refine HO.out.mono ?_
    rintro e w1 ⟨rfl, hb⟩
    have B1 := Lib.hid (below_step (below_box w _) hb)
    have c1 := cell_kept (p := ⟨w.heap.size, 0, none⟩) (v := .slice A xs.length c) (by simp) hb
    clear hb
    go_wp2_with (go_at_call 116; refine (HI.out _).mono ?_; rintro e w' ⟨rfl, rfl⟩)
    go_ret
    exact ⟨rfl, B1.out⟩
  · rw [e]
    rw [hv] at hok
    have hin := isColumnOf_any col xs.length
    rw [hc] at hin
    have HO := Lib.hid hok
    have HI := Lib.hid hin
    clear hok hin hc e hv h hn
    go_enter Try.func86, Try.ntmps86
    go_wp2_with fail
    refine HO.out.mono ?_
    rintro e w1 ⟨rfl, hb⟩
    have B1 := Lib.hid (below_step (below_box w _) hb)
    have c1 := cell_kept (p := ⟨w.heap.size, 0, none⟩) (v := .slice A xs.length c) (by simp) hb
    clear hb
    go_wp2_with (go_at_call 116; refine (HI.out _).mono ?_; rintro e w' ⟨rfl, rfl⟩)
    go_ret
    exact ⟨rfl, B1.out⟩

theorem bitOn_any (A : Option Addr) (c : Nat) (xs : List Int) (B : Nat) (col row : Int) (w : World) (h : Ints w B A xs) (hB : B ≤ w.heap.size) (hn : xs.length ≤ 1048576) :
    Calls Try.prog 53 #[.agg #[.slice A xs.length c], .int .i64 col, .int .i64 row] w fun e w' =>
      e = .returned (.tuple #[.int .i64 (if atCode xs col row = 0 then rowBit row else 0), .int .i64 (atCode xs col row)]) ∧ Below w.heap.size w w' := by
  have hok := checkColumn_any A c xs B col (w.alloc (.cells #[.slice A xs.length c] 26)) (h.alloc hB _) (by simp; omega) hn
  rcases atCode_col xs col row with ⟨hc, e⟩ | ⟨hc, hr, e⟩ | ⟨hc, hr, e⟩
  · rw [e, if_neg hc]
    obtain ⟨a, ha⟩ : ∃ a, colCode xs col = a := ⟨_, rfl⟩
    rw [ha] at hok hc ⊢
    have ha' : (a == 0) = false := by simpa using hc
    have HO := Lib.hid hok
    clear hok e h hn ha
    go_enter Try.func53, Try.ntmps53
    go_wp2_with (go_at_call 86; refine HO.out.mono ?_; rintro e w1 ⟨rfl, hb⟩; have B1 := Lib.hid (below_step (below_box w _) hb); clear hb)
    go_ret2
    exact ⟨rfl, B1.out⟩
  · rw [e, if_neg (by decide)]
    rw [hc] at hok
    have HR := Lib.hid (implBitOf_no row hr)
    have HO := Lib.hid hok
    clear hok e h hn hr hc
    go_enter Try.func53, Try.ntmps53
    go_wp2_with (first | (go_at_call 86; refine HO.out.mono ?_; rintro e w1 ⟨rfl, hb⟩; have B1 := Lib.hid (below_step (below_box w _) hb); clear hb) | (go_at_call 13; refine (HR.out _).mono ?_; rintro e w' ⟨rfl, rfl⟩))
    go_ret2
    exact ⟨rfl, B1.out⟩
  · rw [e, if_pos rfl]
    rw [hc] at hok
    have hbit := implBitOf_yes row hr
    obtain ⟨b, hb⟩ : ∃ b, rowBit row = b := ⟨_, rfl⟩
    rw [hb] at hbit ⊢
    have HR := Lib.hid hbit
    have HO := Lib.hid hok
    clear hok e h hn hr hbit hb hc
    go_enter Try.func53, Try.ntmps53
    go_wp2_with (first | (go_at_call 86; refine HO.out.mono ?_; rintro e w1 ⟨rfl, hb⟩; have B1 := Lib.hid (below_step (below_box w _) hb); clear hb) | (go_at_call 13; refine (HR.out _).mono ?_; rintro e w' ⟨rfl, rfl⟩))
    go_ret2
    exact ⟨rfl, B1.out⟩

/-- whether a valid card has the hole -/
def holeB (xs : List Int) (col row : Int) : Bool := bits .and .i64 (xs[col.toNat]?.getD 0) (rowBit row) != 0

theorem column_of {n : Nat} {col : Int} (h : (decide (0 ≤ col) && decide (col < n)) = true) : ∃ k : Nat, col = k ∧ k < n := by
  simp only [Bool.and_eq_true, decide_eq_true_eq] at h
  exact ⟨col.toNat, by omega, by omega⟩

theorem implHasHole_any (A : Option Addr) (c : Nat) (xs : List Int) (B : Nat) (col row : Int) (w : World) (h : Ints w B A xs) (hB : B ≤ w.heap.size) (hn : xs.length ≤ 1048576) :
    Calls Try.prog 10 #[.agg #[.slice A xs.length c], .int .i64 col, .int .i64 row] w fun e w' =>
      e = .returned (.tuple #[.bool (if atCode xs col row = 0 then holeB xs col row else false), .int .i64 (atCode xs col row)]) ∧ Below w.heap.size w w' := by
  have hat := bitOn_any A c xs B col row (w.alloc (.cells #[.slice A xs.length c] 26)) (h.alloc hB _) (by simp; omega) hn
  by_cases e : atCode xs col row = 0
  · rw [if_pos e]
    rw [if_pos e, e] at hat
    rw [e]
    obtain ⟨e', hv, hc, hr⟩ : atCode xs col row = 0 ∧ okB xs = true ∧ (decide (0 ≤ col) && decide (col < xs.length)) = true ∧ rowBit row ≠ 0 := by
      rcases atCode_cases xs col row with h' | h' | h' | h' <;> first | exact h' | (rw [e] at h'; exact absurd h'.1 (by decide))
    obtain ⟨k, rfl, hk⟩ := column_of hc
    obtain ⟨b, off, rfl, hb, hcell⟩ := h (by omega)
    have h1 := hcell k hk
    unfold holeB
    rw [Int.toNat_natCast]
    obtain ⟨x, hx⟩ : ∃ x, xs[k]?.getD 0 = x := ⟨_, rfl⟩
    obtain ⟨y, hy⟩ : ∃ y, rowBit row = y := ⟨_, rfl⟩
    obtain ⟨n, hN⟩ : ∃ n, xs.length = n := ⟨_, rfl⟩
    rw [hx] at h1
    rw [hx, hy]
    rw [hy] at hat
    rw [hN] at hat hk hn ⊢
    have HA := Lib.hid hat
    have hk0 : (0 : Int) ≤ (k : Int) := Int.natCast_nonneg _
    have hk1 : (k : Int) < (n : Int) := by omega
    clear hat e e' hv hc hr h hcell hx hy hN
    go_enter Try.func10, Try.ntmps10
    go_wp2_with fail
    refine HA.out.mono ?_
    rintro e w1 ⟨rfl, hb⟩
    have B1 := Lib.hid (below_step (below_box w _) hb)
    have c1 := cell_kept (p := ⟨w.heap.size, 0, none⟩) (v := .slice (some ⟨b, off, none⟩) n c) (by simp) hb
    have x1 := cell_kept h1 B1.out
    clear hb h1
    go_wp2
    go_ret2
    exact ⟨rfl, B1.out⟩
  · rw [if_neg e]
    rw [if_neg e] at hat
    obtain ⟨a, ha⟩ : ∃ a, atCode xs col row = a := ⟨_, rfl⟩
    rw [ha] at hat e ⊢
    have hne : (a != 0) = true := by simpa using e
    have HA := Lib.hid hat
    clear hat h ha e
    go_enter Try.func10, Try.ntmps10
    go_wp2_with fail
    refine HA.out.mono ?_
    rintro e w1 ⟨rfl, hb⟩
    have B1 := Lib.hid (below_step (below_box w _) hb)
    clear hb
    go_wp2
    go_ret2
    exact ⟨rfl, B1.out⟩
end Go.Proofs.Ytjfogadcedgndaa

/- spec.PunchHole and impl.PunchHole give the card with one more hole, or the code, for every card of at most 1048576 columns, every column and row: contracts. -/
namespace Go.Proofs.Ytjfogadcedgndaa
open Go.ChangeShapes Go.WideShapes Go.ChangeAt Go.RowKit

theorem cell_stored {w : World} {p : Addr} {v : Value} (h : w.cell? p = some v) (u : Value) : (w.setCell p u).cell? p = some u :=
  World.cell?_setCell_same w p u h

theorem l02Own_any (A : Option Addr) (c : Nat) (xs : List Int) (B p o : Nat) (w : World) (hp : w.cell? ⟨p, o, none⟩ = some (.slice A xs.length c)) (h : Ints w B A xs) (hB : B ≤ w.heap.size) (h0 : 0 < xs.length) (hn : xs.length ≤ 1048576) :
    Calls Try.prog 87 #[.pointer (some ⟨p, o, none⟩)] w fun e w' => ∃ g cap ex, e = .returned (.agg #[.slice (some ⟨g, 0, none⟩) xs.length cap]) ∧ w.heap.size ≤ g ∧ Below w.heap.size w w' ∧ Row w' g xs ex := by
  have hc := l00Own_any A c xs B (w.alloc (.cells #[.slice none 0 0] 26)) (h.alloc hB _) (by simp; omega) h0 hn
  have HC := Lib.hid hc
  have hlt := World.block_lt_of_cell? _ _ hp
  have hp2 := cell_kept hp (below_box w (.cells #[.slice none 0 0] 26))
  clear hc h
  go_enter Try.func87, Try.ntmps87
  go_wp2_with fail
  refine HC.out.mono ?_
  rintro e w1 ⟨g, cap, ex, rfl, hg, hb, hr⟩
  have B1 := Lib.hid (below_step (below_box w _) hb)
  have c1 := cell_kept (p := ⟨w.heap.size, 0, none⟩) (v := .slice none 0 0) (by simp) hb
  have f1 : w1.frozen? ⟨w.heap.size, 0, none⟩ = false := by rw [hb.frozen (by simp)]; simp
  have HR := Lib.hid hr
  have hg' : w.heap.size + 1 ≤ g := by simpa using hg
  clear hb hr hg
  go_wp2
  refine bodyPost_ret (v := .agg #[.slice (some ⟨g, 0, none⟩) xs.length cap]) (by simp [results, Try.results87, go_sem, c1]) rfl ⟨g, cap, ex, rfl, by omega, ?_, ?_⟩
  · exact B1.out.setCell (by simp) _
  · exact HR.out.far (by simp; omega) _

theorem with_any (A : Option Addr) (c : Nat) (xs : List Int) (B k : Nat) (m : Int) (w : World) (h : Ints w B A xs) (hB : B ≤ w.heap.size) (hk : k < xs.length) (hn : xs.length ≤ 1048576) :
    Calls Try.prog 54 #[.slice A xs.length c, .int .i64 k, .int .i64 m] w (GivesInts (xs.set k (bits .or .i64 (xs[k]?.getD 0) m)) w) := by
  have hc := cloneCols_any A c xs B w h hB (by omega) hn
  have HC := Lib.hid hc
  have hls : (xs.set k (bits .or .i64 (xs[k]?.getD 0) m)).length = xs.length := by simp
  have HLS := Lib.hid hls
  have hk0 : (0 : Int) ≤ (k : Int) := Int.natCast_nonneg _
  have hk1 : (k : Int) < (xs.length : Int) := by omega
  clear hc h hls
  go_enter Try.func54, Try.ntmps54
  go_wp2_with fail
  refine HC.out.mono ?_
  rintro e w1 ⟨g, cap, ex, rfl, hg, hb, hr⟩
  have B1 := Lib.hid hb
  have c1 := hr.cell hk
  have f1 := hr.frozen k
  have HR := Lib.hid hr
  obtain ⟨x, hx⟩ : ∃ x, xs[k]?.getD 0 = x := ⟨_, rfl⟩
  rw [hx] at c1
  have HX := Lib.hid hx
  clear hb hr hx
  go_wp2
  go_ret
  refine ⟨g, cap, ex, by rw [HLS.out]; rfl, hg, B1.out.setCell hg _, ?_⟩
  rw [HX.out]
  exact HR.out.set hk _

theorem implPunch_bad (A : Option Addr) (c : Nat) (xs : List Int) (B : Nat) (col row : Int) (w : World) (h : Ints w B A xs) (hB : B ≤ w.heap.size) (hn : xs.length ≤ 1048576) (e : atCode xs col row ≠ 0) :
    Calls Try.prog 11 #[.agg #[.slice A xs.length c], .int .i64 col, .int .i64 row] w (GivesCode (atCode xs col row) w) := by
  have hat := bitOn_any A c xs B col row ((w.alloc (.cells #[.slice A xs.length c] 26)).alloc (.cells #[.slice none 0 0] 26)) ((h.alloc hB _).alloc (by simp; omega) _) (by simp; omega) hn
  rw [if_neg e] at hat
  obtain ⟨a, ha⟩ : ∃ a, atCode xs col row = a := ⟨_, rfl⟩
  rw [ha] at hat e ⊢
  have hne : (a != 0) = true := by simpa using e
  have HA := Lib.hid hat
  clear hat h ha e
  go_enter Try.func11, Try.ntmps11
  go_wp2_with fail
  refine HA.out.mono ?_
  rintro e w1 ⟨rfl, hb1⟩
  have B1 := Lib.hid (below_step ((below_box w _).alloc (by simp) _) hb1)
  have c1 := cell_kept (p := ⟨w.heap.size + 1, 0, none⟩) (v := .slice none 0 0) (by simp) hb1
  have f1 : w1.frozen? ⟨w.heap.size + 1, 0, none⟩ = false := by rw [hb1.frozen (by simp)]; simp
  clear hb1
  go_wp2
  exact bodyPost_ret (v := .tuple #[.agg #[.slice none 0 0], .int .i64 a]) (by simp [results, Try.results11, go_sem, c1]) rfl ⟨rfl, B1.out.setCell (by simp) _⟩

theorem implPunch_there (A : Option Addr) (c : Nat) (xs : List Int) (B k : Nat) (row : Int) (w : World) (h : Ints w B A xs) (hB : B ≤ w.heap.size) (hn : xs.length ≤ 1048576) (hk : k < xs.length) (e : atCode xs k row = 0) (hh : holeB xs k row = true) :
    Calls Try.prog 11 #[.agg #[.slice A xs.length c], .int .i64 k, .int .i64 row] w (GivesCode 4 w) := by
  have hat := bitOn_any A c xs B k row ((w.alloc (.cells #[.slice A xs.length c] 26)).alloc (.cells #[.slice none 0 0] 26)) ((h.alloc hB _).alloc (by simp; omega) _) (by simp; omega) hn
  rw [if_pos e, e] at hat
  obtain ⟨b, off, rfl, hb, hcell⟩ := h (by omega)
  have h1 := hcell k hk
  unfold holeB at hh
  rw [Int.toNat_natCast] at hh
  obtain ⟨x, hx⟩ : ∃ x, xs[k]?.getD 0 = x := ⟨_, rfl⟩
  obtain ⟨y, hy⟩ : ∃ y, rowBit row = y := ⟨_, rfl⟩
  obtain ⟨n, hN⟩ : ∃ n, xs.length = n := ⟨_, rfl⟩
  rw [hx] at h1 hh
  rw [hy] at hat hh
  rw [hN] at hat hk hn ⊢
  have HA := Lib.hid hat
  have hk0 : (0 : Int) ≤ (k : Int) := Int.natCast_nonneg _
  have hk1 : (k : Int) < (n : Int) := by omega
  clear hat e hcell hx hy hN h
  go_enter Try.func11, Try.ntmps11
  go_wp2_with fail
  refine HA.out.mono ?_
  rintro e w1 ⟨rfl, hb1⟩
  have B1 := Lib.hid (below_step ((below_box w _).alloc (by simp) _) hb1)
  have c0 := cell_kept (p := ⟨w.heap.size, 0, none⟩) (v := .slice (some ⟨b, off, none⟩) n c) (by simp) hb1
  have c1 := cell_kept (p := ⟨w.heap.size + 1, 0, none⟩) (v := .slice none 0 0) (by simp) hb1
  have f1 : w1.frozen? ⟨w.heap.size + 1, 0, none⟩ = false := by rw [hb1.frozen (by simp)]; simp
  have x1 := cell_kept h1 B1.out
  clear hb1 h1 HA
  go_wp2
  exact bodyPost_ret (v := .tuple #[.agg #[.slice none 0 0], .int .i64 4]) (by simp [results, Try.results11, go_sem, c1]) rfl ⟨rfl, B1.out.setCell (by simp) _⟩

theorem implPunch_good (A : Option Addr) (c : Nat) (xs : List Int) (B k : Nat) (row : Int) (w : World) (h : Ints w B A xs) (hB : B ≤ w.heap.size) (hn : xs.length ≤ 1048576) (hk : k < xs.length) (e : atCode xs k row = 0) (hh : holeB xs k row = false) :
    Calls Try.prog 11 #[.agg #[.slice A xs.length c], .int .i64 k, .int .i64 row] w (GivesCard (xs.set k (bits .or .i64 (xs[k]?.getD 0) (rowBit row))) w) := by
  have hat := bitOn_any A c xs B k row ((w.alloc (.cells #[.slice A xs.length c] 26)).alloc (.cells #[.slice none 0 0] 26)) ((h.alloc hB _).alloc (by simp; omega) _) (by simp; omega) hn
  rw [if_pos e, e] at hat
  have HH := Lib.hid h
  obtain ⟨b, off, rfl, hb, hcell⟩ := h (by omega)
  have h1 := hcell k hk
  unfold holeB at hh
  rw [Int.toNat_natCast] at hh
  obtain ⟨y, hy⟩ : ∃ y, rowBit row = y := ⟨_, rfl⟩
  rw [hy] at hat hh ⊢
  have HW := Lib.hid (fun W hI hB' => with_any (some ⟨b, off, none⟩) c xs B k y W hI hB' hk hn)
  obtain ⟨zs, hz⟩ : ∃ zs, xs.set k (bits .or .i64 (xs[k]?.getD 0) y) = zs := ⟨_, rfl⟩
  have hls : zs.length = xs.length := by rw [← hz]; simp
  rw [hz] at HW ⊢
  obtain ⟨x, hx⟩ : ∃ x, xs[k]?.getD 0 = x := ⟨_, rfl⟩
  rw [hx] at h1 hh
  have HA := Lib.hid hat
  have hk0 : (0 : Int) ≤ (k : Int) := Int.natCast_nonneg _
  have hk1 : (k : Int) < (xs.length : Int) := by omega
  clear hat e hcell hx hy hls hz
  go_enter Try.func11, Try.ntmps11
  go_wp2_with fail
  refine HA.out.mono ?_
  rintro e w1 ⟨rfl, hb1⟩
  have B1 := Lib.hid (below_step ((below_box w _).alloc (by simp) _) hb1)
  have c0 := cell_kept (p := ⟨w.heap.size, 0, none⟩) (v := .slice (some ⟨b, off, none⟩) xs.length c) (by simp) hb1
  have c1 := cell_kept (p := ⟨w.heap.size + 1, 0, none⟩) (v := .slice none 0 0) (by simp) hb1
  have f1 : w1.frozen? ⟨w.heap.size + 1, 0, none⟩ = false := by rw [hb1.frozen (by simp)]; simp
  have x1 := cell_kept h1 B1.out
  clear hb1 h1 HA
  go_wp2_with fail
  refine (HW.out _ (HH.out.below (B1.out.mono hB)) (Nat.le_trans hB B1.out.size)).mono ?_
  rintro e w2 ⟨g, cap, ex, rfl, hg, hb2, hr⟩
  have B2 := Lib.hid (below_step B1.out hb2)
  have c2 := cell_kept c1 hb2
  have f2 : w2.frozen? ⟨w.heap.size + 1, 0, none⟩ = false := by rw [hb2.frozen (World.block_lt_of_cell? _ _ c1)]; exact f1
  have hg' : w.heap.size + 1 < g := Nat.lt_of_lt_of_le (World.block_lt_of_cell? _ _ c1) hg
  have HR := Lib.hid hr
  clear hb2 hr c0 c1 f1 x1
  go_wp2
  refine bodyPost_ret (v := .tuple #[.agg #[.slice (some ⟨g, 0, none⟩) zs.length cap], .int .i64 0]) (by simp [results, Try.results11, go_sem, c2]) rfl ⟨g, cap, ex, rfl, by omega, ?_, ?_⟩
  · exact B2.out.setCell (by simp) _
  · exact HR.out.far (by simp; omega) _
end Go.Proofs.Ytjfogadcedgndaa

/- spec.Overlay and impl.Overlay give the card with the holes of two cards, or the code, for cards of at most 1048576 columns: contracts. -/
namespace Go.Proofs.Ytjfogadcedgndaa
open Go.ChangeShapes Go.WideShapes Go.ChangeAt Go.RowKit

/-- the numbers of both -/
def orOf : List Int → List Int → List Int
  | x :: xs, y :: ys => bits .or .i64 x y :: orOf xs ys
  | _, _ => []
theorem orOf_length : ∀ (xs ys : List Int), xs.length = ys.length → (orOf xs ys).length = xs.length
  | [], [], _ => rfl
  | [], _ :: _, h => by simp at h
  | _ :: _, [], h => by simp at h
  | x :: xs, y :: ys, h => by
    simp only [orOf, List.length_cons, Nat.add_right_cancel_iff]
    exact orOf_length xs ys (by simpa using h)
theorem orOf_get : ∀ (xs ys : List Int) (k : Nat), xs.length = ys.length → k < xs.length → (orOf xs ys)[k]? = some (bits .or .i64 (xs[k]?.getD 0) (ys[k]?.getD 0))
  | [], _, _, _, h => by simp at h
  | _ :: _, [], _, h, _ => by simp at h
  | x :: xs, y :: ys, 0, _, _ => rfl
  | x :: xs, y :: ys, k + 1, h, hk => by
    simp only [orOf, List.getElem?_cons_succ]
    exact orOf_get xs ys k (by simpa using h) (by simpa using hk)

/-- what the answer holds after k rounds -/
def overAt (xs ys : List Int) (k : Nat) : List Int := (orOf xs ys).take k ++ xs.drop k
theorem overAt_zero (xs ys : List Int) : overAt xs ys 0 = xs := by simp [overAt]
theorem overAt_length (xs ys : List Int) (h : xs.length = ys.length) (k : Nat) (hk : k ≤ xs.length) : (overAt xs ys k).length = xs.length := by
  simp [overAt, orOf_length xs ys h]; omega
theorem overAt_all (xs ys : List Int) (h : xs.length = ys.length) : overAt xs ys xs.length = orOf xs ys := by
  rw [overAt, List.take_of_length_le (by rw [orOf_length xs ys h]; omega)]; simp
theorem overAt_get (xs ys : List Int) (h : xs.length = ys.length) (k : Nat) (hk : k < xs.length) : (overAt xs ys k)[k]?.getD 0 = xs[k]?.getD 0 := by
  have h1 : ((orOf xs ys).take k).length = k := by simp [orOf_length xs ys h]; omega
  rw [overAt, List.getElem?_append_right (by omega), h1, List.getElem?_drop]
  simp
theorem overAt_set (xs ys : List Int) (h : xs.length = ys.length) (k : Nat) (hk : k < xs.length) : (overAt xs ys k).set k (bits .or .i64 (xs[k]?.getD 0) (ys[k]?.getD 0)) = overAt xs ys (k + 1) := by
  apply List.ext_getElem?
  intro i
  have h1 : ((orOf xs ys).take k).length = k := by simp [orOf_length xs ys h]; omega
  have h2 : ((orOf xs ys).take (k + 1)).length = k + 1 := by simp [orOf_length xs ys h]; omega
  have h3 : k < (overAt xs ys k).length := by rw [overAt_length xs ys h k (by omega)]; exact hk
  rw [List.getElem?_set]
  unfold overAt at h3 ⊢
  by_cases hi : k = i
  · subst hi
    rw [if_pos rfl, if_pos h3, List.getElem?_append_left (by omega), List.getElem?_take_of_lt (by omega), orOf_get xs ys k h hk]
  · rw [if_neg hi]
    by_cases hlt : i < k
    · rw [List.getElem?_append_left (by omega), List.getElem?_append_left (by omega), List.getElem?_take_of_lt hlt, List.getElem?_take_of_lt (by omega)]
    · rw [List.getElem?_append_right (by omega), List.getElem?_append_right (by omega), h1, h2, List.getElem?_drop, List.getElem?_drop]
      congr 1
      omega

/-- the code of two cards -/
def overCode (xs ys : List Int) : Int := if okB xs = false then 1 else if okB ys = false then 1 else if xs.length = ys.length then 0 else 6
theorem overCode_cases (xs ys : List Int) : (overCode xs ys = 1 ∧ okB xs = false) ∨ (overCode xs ys = 1 ∧ okB xs = true ∧ okB ys = false) ∨ (overCode xs ys = 6 ∧ okB xs = true ∧ okB ys = true ∧ xs.length ≠ ys.length) ∨
    (overCode xs ys = 0 ∧ okB xs = true ∧ okB ys = true ∧ xs.length = ys.length) := by
  unfold overCode
  cases okB xs <;> cases okB ys <;> by_cases h : xs.length = ys.length <;> simp [h]

theorem only_drew {a w : World} {g : Nat} (h : a.grownBy w (some g)) : a.grownBy w.drew (some g) := ⟨h.os, h.tape, h.output, h.size, h.block⟩

theorem frozen_onlyO {w w' : World} {g : Nat} (h : w.grownBy w' (some g)) {p : Addr} {v : Value} (hc : w.cell? p = some v) (f : w.frozen? p = false) (hne : p.block ≠ g) : w'.frozen? p = false := by
  rw [World.frozen?_of_block (h.block p.block (World.block_lt_of_cell? _ _ hc) (fun e => hne (by injection e)))]
  exact f

theorem frozen_kept' {w w' : World} {p : Addr} {v : Value} (h : w.cell? p = some v) (f : w.frozen? p = false) (hb : Below w.heap.size w w') : w'.frozen? p = false := by
  rw [hb.frozen (World.block_lt_of_cell? _ _ h)]
  exact f

theorem implOver_bad (A A' : Option Addr) (c c' : Nat) (xs ys : List Int) (B B' : Nat) (w : World) (h : Ints w B A xs) (h' : Ints w B' A' ys) (hB : B ≤ w.heap.size) (hB' : B' ≤ w.heap.size) (hn : xs.length ≤ 1048576) (hn' : ys.length ≤ 1048576) (e : overCode xs ys ≠ 0) :
    Calls Try.prog 16 #[.agg #[.slice A xs.length c], .agg #[.slice A' ys.length c']] w (GivesCode (overCode xs ys) w) := by
  have i1 := ((h.alloc hB (.cells #[.slice A xs.length c] 26)).alloc (by simp; omega) (.cells #[.slice A' ys.length c'] 26)).alloc (by simp; omega) (.cells #[.slice none 0 0] 26)
  have o1 := implValidCard_any A c xs B _ i1 (by simp; omega) hn
  rcases overCode_cases xs ys with ⟨e', hv⟩ | ⟨e', hv, hv'⟩ | ⟨e', hv, hv', hl⟩ | ⟨e', _⟩
  · rw [e']
    rw [hv] at o1
    have H1 := Lib.hid o1
    clear o1 i1 h h' e e' hv
    go_enter Try.func16, Try.ntmps16
    go_wp2_with fail
    refine H1.out.mono ?_
    rintro e w1 ⟨rfl, hb1⟩
    have B1 := Lib.hid (below_step (((below_box w _).alloc (by simp) _).alloc (by simp; omega) _) hb1)
    have a1 := cell_kept (p := ⟨w.heap.size, 0, none⟩) (v := .slice A xs.length c) (by simp [go_sem]) hb1
    have d1 := cell_kept (p := ⟨w.heap.size + 1, 0, none⟩) (v := .slice A' ys.length c') (by simp [go_sem]) hb1
    have c1 := cell_kept (p := ⟨w.heap.size + 1 + 1, 0, none⟩) (v := .slice none 0 0) (by simp [go_sem]) hb1
    have f1 : w1.frozen? ⟨w.heap.size + 1 + 1, 0, none⟩ = false := by rw [hb1.frozen (by simp)]; simp [go_sem]
    clear hb1 H1
    go_wp2
    exact bodyPost_ret (v := .tuple #[.agg #[.slice none 0 0], .int .i64 1]) (by simp [results, Try.results16, go_sem, c1]) rfl ⟨rfl, B1.out.setCell (by simp; omega) _⟩
  · rw [e']
    rw [hv] at o1
    have H1 := Lib.hid o1
    clear o1 i1 h e e' hv
    have H' := Lib.hid h'
    clear h'
    go_enter Try.func16, Try.ntmps16
    go_wp2_with fail
    refine H1.out.mono ?_
    rintro e w1 ⟨rfl, hb1⟩
    have B1 := Lib.hid (below_step (((below_box w _).alloc (by simp) _).alloc (by simp; omega) _) hb1)
    have a1 := cell_kept (p := ⟨w.heap.size, 0, none⟩) (v := .slice A xs.length c) (by simp [go_sem]) hb1
    have d1 := cell_kept (p := ⟨w.heap.size + 1, 0, none⟩) (v := .slice A' ys.length c') (by simp [go_sem]) hb1
    have c1 := cell_kept (p := ⟨w.heap.size + 1 + 1, 0, none⟩) (v := .slice none 0 0) (by simp [go_sem]) hb1
    have f1 : w1.frozen? ⟨w.heap.size + 1 + 1, 0, none⟩ = false := by rw [hb1.frozen (by simp)]; simp [go_sem]
    clear hb1 H1
    go_wp2_with fail
    have o2 := implValidCard_any A' c' ys w.heap.size w1 ((H'.out.more hB').below B1.out) B1.out.size hn'
    rw [hv'] at o2
    refine o2.mono ?_
    rintro e w2 ⟨rfl, hb2⟩
    have B2 := Lib.hid (below_step B1.out hb2)
    have a2 := cell_kept a1 hb2
    have d2 := cell_kept d1 hb2
    have c2 := cell_kept c1 hb2
    have f2 := frozen_kept' c1 f1 hb2
    clear hb2 a1 d1 c1 f1 o2 B1
    go_wp2
    exact bodyPost_ret (v := .tuple #[.agg #[.slice none 0 0], .int .i64 1]) (by simp [results, Try.results16, go_sem, c2]) rfl ⟨rfl, B2.out.setCell (by simp; omega) _⟩
  · rw [e']
    rw [hv] at o1
    have H1 := Lib.hid o1
    have H' := Lib.hid h'
    have hne : ((xs.length : Int) != (ys.length : Int)) = true := by rw [bne_iff_ne]; omega
    clear o1 i1 h h' e e' hv
    go_enter Try.func16, Try.ntmps16
    go_wp2_with fail
    refine H1.out.mono ?_
    rintro e w1 ⟨rfl, hb1⟩
    have B1 := Lib.hid (below_step (((below_box w _).alloc (by simp) _).alloc (by simp; omega) _) hb1)
    have a1 := cell_kept (p := ⟨w.heap.size, 0, none⟩) (v := .slice A xs.length c) (by simp [go_sem]) hb1
    have d1 := cell_kept (p := ⟨w.heap.size + 1, 0, none⟩) (v := .slice A' ys.length c') (by simp [go_sem]) hb1
    have c1 := cell_kept (p := ⟨w.heap.size + 1 + 1, 0, none⟩) (v := .slice none 0 0) (by simp [go_sem]) hb1
    have f1 : w1.frozen? ⟨w.heap.size + 1 + 1, 0, none⟩ = false := by rw [hb1.frozen (by simp)]; simp [go_sem]
    clear hb1 H1
    go_wp2_with fail
    have o2 := implValidCard_any A' c' ys w.heap.size w1 ((H'.out.more hB').below B1.out) B1.out.size hn'
    rw [hv'] at o2
    refine o2.mono ?_
    rintro e w2 ⟨rfl, hb2⟩
    have B2 := Lib.hid (below_step B1.out hb2)
    have a2 := cell_kept a1 hb2
    have d2 := cell_kept d1 hb2
    have c2 := cell_kept c1 hb2
    have f2 := frozen_kept' c1 f1 hb2
    clear hb2 a1 d1 c1 f1 o2 B1
    go_wp2
    exact bodyPost_ret (v := .tuple #[.agg #[.slice none 0 0], .int .i64 6]) (by simp [results, Try.results16, go_sem, c2]) rfl ⟨rfl, B2.out.setCell (by simp; omega) _⟩
  · exact absurd e' e

theorem implOver_good (A A' : Option Addr) (c c' : Nat) (xs ys : List Int) (B B' : Nat) (w : World) (h : Ints w B A xs) (h' : Ints w B' A' ys) (hB : B ≤ w.heap.size) (hB' : B' ≤ w.heap.size) (hn : xs.length ≤ 1048576) (h0 : 0 < xs.length) (hl : xs.length = ys.length) (hv : okB xs = true) (hv' : okB ys = true) :
    Calls Try.prog 16 #[.agg #[.slice A xs.length c], .agg #[.slice A' ys.length c']] w (GivesCard (orOf xs ys) w) := by
  have i1 := ((h.alloc hB (.cells #[.slice A xs.length c] 26)).alloc (by simp; omega) (.cells #[.slice A' ys.length c'] 26)).alloc (by simp; omega) (.cells #[.slice none 0 0] 26)
  have o1 := implValidCard_any A c xs B _ i1 (by simp; omega) hn
  rw [hv] at o1
  have hn' : ys.length ≤ 1048576 := by omega
  obtain ⟨b', off', rfl, hb', hcell'⟩ := h' (by omega)
  have H' := Lib.hid h'
  have HC' := Lib.hid hcell'
  have H := Lib.hid h
  have H1 := Lib.hid o1
  have HLO := Lib.hid (orOf_length xs ys hl)
  have HL := Lib.hid hl
  have HV' := Lib.hid hv'
  have hne : ((xs.length : Int) != (ys.length : Int)) = false := by rw [hl]; simp
  clear o1 i1 h h' hv hcell' hl hv'
  go_enter Try.func16, Try.ntmps16
  go_wp2_with fail
  refine H1.out.mono ?_
  rintro e w1 ⟨rfl, hb1⟩
  have B1 := Lib.hid (below_step (((below_box w _).alloc (by simp) _).alloc (by simp; omega) _) hb1)
  have a1 := cell_kept (p := ⟨w.heap.size, 0, none⟩) (v := .slice A xs.length c) (by simp [go_sem]) hb1
  have d1 := cell_kept (p := ⟨w.heap.size + 1, 0, none⟩) (v := .slice (some ⟨b', off', none⟩) ys.length c') (by simp [go_sem]) hb1
  have c1 := cell_kept (p := ⟨w.heap.size + 1 + 1, 0, none⟩) (v := .slice none 0 0) (by simp [go_sem]) hb1
  have f1 : w1.frozen? ⟨w.heap.size + 1 + 1, 0, none⟩ = false := by rw [hb1.frozen (by simp)]; simp [go_sem]
  clear hb1 H1
  go_wp2_with fail
  have o2 := implValidCard_any (some ⟨b', off', none⟩) c' ys w.heap.size w1 ((H'.out.more hB').below B1.out) B1.out.size hn'
  rw [HV'.out] at o2
  refine o2.mono ?_
  rintro e w2 ⟨rfl, hb2⟩
  have B2 := Lib.hid (below_step B1.out hb2)
  have a2 := cell_kept a1 hb2
  have d2 := cell_kept d1 hb2
  have c2 := cell_kept c1 hb2
  have f2 := frozen_kept' c1 f1 hb2
  clear hb2 a1 d1 c1 f1 o2 B1
  go_wp2_with fail
  refine (clone_any A c xs w.heap.size _ ((H.out.more hB).below B2.out) B2.out.size h0 hn).mono ?_
  rintro e w3 ⟨g, cap, ex, rfl, hg, hb3, hr⟩
  have B3 := Lib.hid (below_step B2.out hb3)
  have d3 := cell_kept d2 hb3
  have c3 := Lib.hid (cell_kept c2 hb3)
  have f3 := Lib.hid (frozen_kept' c2 f2 hb3)
  have hg' : w.heap.size + 1 + 1 < g := Nat.lt_of_lt_of_le (World.block_lt_of_cell? _ _ c2) hg
  have R3 := Lib.hid hr
  clear hb3 hr hg a2 d2 c2 f2 B2 H
  have hyn : ys.length = xs.length := HL.out.symm
  have hb0 := HC'.out
  go_wp2
  clear d3
  have HY := Lib.hid hyn
  clear hyn hne
  go_loopw [32] (fun i wr => ∃ k : Nat, k ≤ ys.length ∧ i = .int .i64 k ∧ w3.grownBy wr (some g) ∧ Row wr g (overAt xs ys k) ex) (fun i _ => ys.length - (intOf i).toNat)
  case atStart => exact ⟨0, Nat.zero_le _, rfl, World.grownBy.refl _ _, by rw [overAt_zero]; exact R3.out⟩
  case round =>
    obtain ⟨k, hk, rfl, hgr, hrow⟩ := hrel
    by_cases hlt : k < ys.length
    · have hx : k < xs.length := by rw [← HY.out]; exact hlt
      have y1 := cell_only hgr (cell_kept (hb0 k hlt) B3.out) (Nat.ne_of_lt (by have := World.block_lt_of_cell? _ _ (hb0 k hlt); simp at this ⊢; omega))
      have x1 := hrow.cell (i := k) (by rw [overAt_length xs ys HL.out k (by omega)]; exact hx)
      rw [overAt_get xs ys HL.out k hx] at x1
      have z1 := hrow.frozen k
      have hset := Lib.hid (overAt_set xs ys HL.out k hx)
      have hll := Lib.hid (overAt_length xs ys HL.out k (by omega))
      obtain ⟨x, hxx⟩ : ∃ x, xs[k]?.getD 0 = x := ⟨_, rfl⟩
      obtain ⟨y, hyy⟩ : ∃ y, ys[k]?.getD 0 = y := ⟨_, rfl⟩
      rw [hxx] at x1
      rw [hyy] at y1
      rw [hxx, hyy] at hset
      have HG := Lib.hid hgr
      have HRW := Lib.hid hrow
      have hk0 : (0 : Int) ≤ (k : Int) := Int.natCast_nonneg _
      have hk1 : (k : Int) < (ys.length : Int) := by omega
      have hk2 : (k : Int) < (xs.length : Int) := by omega
      clear hgr hrow hxx hyy hb0
      go_wp2
      go_roundw
      case rel =>
        refine ⟨k + 1, by omega, by go_num, only_step HG.out (only_set _ _ _ _), ?_⟩
        rw [← hset.out]
        exact HRW.out.set (by rw [hll.out]; exact hx) _
      case measure => simp [intOf]; omega
    · have hkn : k = ys.length := by omega
      have c4 := cell_only hgr c3.out (Nat.ne_of_lt (by show w.heap.size + 1 + 1 < g; omega))
      have f4 := frozen_onlyO hgr c3.out f3.out (Nat.ne_of_lt (by show w.heap.size + 1 + 1 < g; omega))
      have B4 := Lib.hid (below_only B3.out hgr (by omega))
      have hrow2 : Row wr g (orOf xs ys) ex := by rw [← overAt_all xs ys HL.out, ← HY.out, ← hkn]; exact hrow
      have HRW := Lib.hid hrow2
      clear hgr hrow hrow2 hb0
      have hk1 : ¬ (k : Int) < (xs.length : Int) := by have := HL.out; omega
      clear hkn
      go_wp2
      refine bodyPost_ret (v := .tuple #[.agg #[.slice (some ⟨g, 0, none⟩) xs.length cap], .int .i64 0]) (by simp [results, Try.results16, go_sem, c4]) rfl ⟨g, cap, ex, by rw [HLO.out], by omega, ?_, ?_⟩
      · exact B4.out.setCell (by simp; omega) _
      · exact HRW.out.far (by simp; omega) _
end Go.Proofs.Ytjfogadcedgndaa
