/- spec.HasHole and impl.HasHole answer the same for every card of at most 1048576 columns, every column and row: contracts, of spec.l02At, impl.bitOn, impl.BitOf and impl.isColumnOf too. -/
import Derived.Test.YtjfogadcedgndaaValid
import Derived.Deep.QuietTactic
import Derived.BigQuiet
namespace Go.Proofs.Ytjfogadcedgndaa
open Go.ChangeShapes Go.WideShapes Go.ChangeAt Go.RowKit

theorem rowBit_some (r : Int) (h : ¬ (r < 0 ∨ r = 10 ∨ 12 < r)) : 1 ≤ rowBit r ∧ rowBit r ≤ 2048 := by
  rcases rowBit_cases r with h' | h' | h' | h' | h' | h' | h' | h' | h' | h' | h' | h' | h' | h' | h'
  · exact absurd (Or.inl h') h
  · exact absurd (Or.inr (Or.inl h')) h
  · exact absurd (Or.inr (Or.inr h')) h
  all_goals (subst h'; decide)

theorem implBitOf_no (r : Int) (h : rowBit r = 0) (w : World) :
    Calls Try.prog 13 #[.int .i64 r] w fun e w' => e = .returned (.tuple #[.int .i64 0, .int .i64 2]) ∧ w = w' := by
  have h' : r < 0 ∨ r = 10 ∨ 12 < r := by
    rcases Classical.em (r < 0 ∨ r = 10 ∨ 12 < r) with hr | hr
    · exact hr
    · have := rowBit_some r hr; omega
  clear h
  rcases h' with h | h | h
  · go_enter Try.func13, Try.ntmps13
    go_wp2
    go_ret2
    exact ⟨rfl, rfl⟩
  · subst h
    go_enter Try.func13, Try.ntmps13
    go_wp2
    go_ret2
    exact ⟨rfl, rfl⟩
  · go_enter Try.func13, Try.ntmps13
    go_wp2
    go_ret2
    exact ⟨rfl, rfl⟩

theorem implBitOf_yes (r : Int) (h : rowBit r ≠ 0) (w : World) :
    Calls Try.prog 13 #[.int .i64 r] w fun e w' => e = .returned (.tuple #[.int .i64 (rowBit r), .int .i64 0]) ∧ w = w' := by
  rcases rowBit_cases r with h' | h' | h' | h' | h' | h' | h' | h' | h' | h' | h' | h' | h' | h' | h'
  · exact absurd (rowBit_out r (by omega)) h
  · exact absurd (rowBit_out r (by omega)) h
  · exact absurd (rowBit_out r (by omega)) h
  all_goals
    subst h'
    clear h
    go_enter Try.func13, Try.ntmps13
    go_wp2
    go_ret2
    exact ⟨rfl, rfl⟩

theorem isColumnOf_any (n m : Int) (w : World) :
    Calls Try.prog 116 #[.int .i64 n, .int .i64 m] w fun e w' => e = .returned (.bool (decide (0 ≤ n) && decide (n < m))) ∧ w = w' := by
  by_cases h1 : 0 ≤ n
  · by_cases h2 : n < m
    · have e : (decide (0 ≤ n) && decide (n < m)) = true := by simp [h1, h2]
      rw [e]
      clear e
      go_enter Try.func116, Try.ntmps116
      go_wp2
      go_ret
      exact ⟨rfl, rfl⟩
    · have e : (decide (0 ≤ n) && decide (n < m)) = false := by simp [h2]
      rw [e]
      clear e
      go_enter Try.func116, Try.ntmps116
      go_wp2
      go_ret
      exact ⟨rfl, rfl⟩
  · have e : (decide (0 ≤ n) && decide (n < m)) = false := by simp [h1]
    rw [e]
    clear e
    go_enter Try.func116, Try.ntmps116
    go_wp2
    go_ret
    exact ⟨rfl, rfl⟩

/-- the code of a card, a column and a row -/
def atCode (xs : List Int) (col row : Int) : Int := if okB xs = false then 1 else if (decide (0 ≤ col) && decide (col < xs.length)) = false ∨ rowBit row = 0 then 2 else 0

theorem atCode_cases (xs : List Int) (col row : Int) : (atCode xs col row = 1 ∧ okB xs = false) ∨ (atCode xs col row = 2 ∧ okB xs = true ∧ (decide (0 ≤ col) && decide (col < xs.length)) = false) ∨
    (atCode xs col row = 2 ∧ okB xs = true ∧ (decide (0 ≤ col) && decide (col < xs.length)) = true ∧ rowBit row = 0) ∨ (atCode xs col row = 0 ∧ okB xs = true ∧ (decide (0 ≤ col) && decide (col < xs.length)) = true ∧ rowBit row ≠ 0) := by
  unfold atCode
  cases okB xs <;> cases (decide (0 ≤ col) && decide (col < xs.length)) <;> by_cases h : rowBit row = 0 <;> simp [h]

/-- the code of a card and a column -/
def colCode (xs : List Int) (col : Int) : Int := if okB xs = false then 1 else if (decide (0 ≤ col) && decide (col < xs.length)) = false then 2 else 0
theorem colCode_cases (xs : List Int) (col : Int) : (colCode xs col = 1 ∧ okB xs = false) ∨ (colCode xs col = 2 ∧ okB xs = true ∧ (decide (0 ≤ col) && decide (col < xs.length)) = false) ∨
    (colCode xs col = 0 ∧ okB xs = true ∧ (decide (0 ≤ col) && decide (col < xs.length)) = true) := by
  unfold colCode
  cases okB xs <;> cases (decide (0 ≤ col) && decide (col < xs.length)) <;> simp
theorem atCode_col (xs : List Int) (col row : Int) : (colCode xs col ≠ 0 ∧ atCode xs col row = colCode xs col) ∨ (colCode xs col = 0 ∧ rowBit row = 0 ∧ atCode xs col row = 2) ∨ (colCode xs col = 0 ∧ rowBit row ≠ 0 ∧ atCode xs col row = 0) := by
  unfold colCode atCode
  cases okB xs <;> cases (decide (0 ≤ col) && decide (col < xs.length)) <;> by_cases h : rowBit row = 0 <;> simp [h]

theorem checkColumn_any (A : Option Addr) (c : Nat) (xs : List Int) (B : Nat) (col : Int) (w : World) (h : Ints w B A xs) (hB : B ≤ w.heap.size) (hn : xs.length ≤ 1048576) :
    Calls Try.prog 86 #[.agg #[.slice A xs.length c], .int .i64 col] w fun e w' =>
      e = .returned (.int .i64 (colCode xs col)) ∧ Below w.heap.size w w' := by
  have hok := implValidCard_any A c xs B (w.alloc (.cells #[.slice A xs.length c] 26)) (h.alloc hB _) (by simp; omega) hn
  rcases colCode_cases xs col with ⟨e, hv⟩ | ⟨e, hv, hc⟩ | ⟨e, hv, hc⟩
  · rw [e]
    rw [hv] at hok
    have HO := Lib.hid hok
    clear hok e hv h hn
    go_enter Try.func86, Try.ntmps86
    go_wp2_with fail
    refine HO.out.mono ?_
    rintro e w1 ⟨rfl, hb⟩
    have B1 := Lib.hid (below_step (below_box w _) hb)
    clear hb
    go_wp2
    go_ret
    exact ⟨rfl, B1.out⟩
  · rw [e]
    rw [hv] at hok
    have hin := isColumnOf_any col xs.length
    rw [hc] at hin
    have HO := Lib.hid hok
    have HI := Lib.hid hin
    clear hok hin hc e hv h hn
    go_enter Try.func86, Try.ntmps86
    go_wp2_with fail
    refine HO.out.mono ?_
    rintro e w1 ⟨rfl, hb⟩
    have B1 := Lib.hid (below_step (below_box w _) hb)
    have c1 := cell_kept (p := ⟨w.heap.size, 0, none⟩) (v := .slice A xs.length c) (by simp) hb
    clear hb
    go_wp2_with (go_at_call 116; refine (HI.out _).mono ?_; rintro e w' ⟨rfl, rfl⟩)
    go_ret
    exact ⟨rfl, B1.out⟩
  · rw [e]
    rw [hv] at hok
    have hin := isColumnOf_any col xs.length
    rw [hc] at hin
    have HO := Lib.hid hok
    have HI := Lib.hid hin
    clear hok hin hc e hv h hn
    go_enter Try.func86, Try.ntmps86
    go_wp2_with fail
    refine HO.out.mono ?_
    rintro e w1 ⟨rfl, hb⟩
    have B1 := Lib.hid (below_step (below_box w _) hb)
    have c1 := cell_kept (p := ⟨w.heap.size, 0, none⟩) (v := .slice A xs.length c) (by simp) hb
    clear hb
    go_wp2_with (go_at_call 116; refine (HI.out _).mono ?_; rintro e w' ⟨rfl, rfl⟩)
    go_ret
    exact ⟨rfl, B1.out⟩

theorem bitOn_any (A : Option Addr) (c : Nat) (xs : List Int) (B : Nat) (col row : Int) (w : World) (h : Ints w B A xs) (hB : B ≤ w.heap.size) (hn : xs.length ≤ 1048576) :
    Calls Try.prog 53 #[.agg #[.slice A xs.length c], .int .i64 col, .int .i64 row] w fun e w' =>
      e = .returned (.tuple #[.int .i64 (if atCode xs col row = 0 then rowBit row else 0), .int .i64 (atCode xs col row)]) ∧ Below w.heap.size w w' := by
  have hok := checkColumn_any A c xs B col (w.alloc (.cells #[.slice A xs.length c] 26)) (h.alloc hB _) (by simp; omega) hn
  rcases atCode_col xs col row with ⟨hc, e⟩ | ⟨hc, hr, e⟩ | ⟨hc, hr, e⟩
  · rw [e, if_neg hc]
    obtain ⟨a, ha⟩ : ∃ a, colCode xs col = a := ⟨_, rfl⟩
    rw [ha] at hok hc ⊢
    have ha' : (a == 0) = false := by simpa using hc
    have HO := Lib.hid hok
    clear hok e h hn ha
    go_enter Try.func53, Try.ntmps53
    go_wp2_with (go_at_call 86; refine HO.out.mono ?_; rintro e w1 ⟨rfl, hb⟩; have B1 := Lib.hid (below_step (below_box w _) hb); clear hb)
    go_ret2
    exact ⟨rfl, B1.out⟩
  · rw [e, if_neg (by decide)]
    rw [hc] at hok
    have HR := Lib.hid (implBitOf_no row hr)
    have HO := Lib.hid hok
    clear hok e h hn hr hc
    go_enter Try.func53, Try.ntmps53
    go_wp2_with (first | (go_at_call 86; refine HO.out.mono ?_; rintro e w1 ⟨rfl, hb⟩; have B1 := Lib.hid (below_step (below_box w _) hb); clear hb) | (go_at_call 13; refine (HR.out _).mono ?_; rintro e w' ⟨rfl, rfl⟩))
    go_ret2
    exact ⟨rfl, B1.out⟩
  · rw [e, if_pos rfl]
    rw [hc] at hok
    have hbit := implBitOf_yes row hr
    obtain ⟨b, hb⟩ : ∃ b, rowBit row = b := ⟨_, rfl⟩
    rw [hb] at hbit ⊢
    have HR := Lib.hid hbit
    have HO := Lib.hid hok
    clear hok e h hn hr hbit hb hc
    go_enter Try.func53, Try.ntmps53
    go_wp2_with (first | (go_at_call 86; refine HO.out.mono ?_; rintro e w1 ⟨rfl, hb⟩; have B1 := Lib.hid (below_step (below_box w _) hb); clear hb) | (go_at_call 13; refine (HR.out _).mono ?_; rintro e w' ⟨rfl, rfl⟩))
    go_ret2
    exact ⟨rfl, B1.out⟩

/-- whether a valid card has the hole -/
def holeB (xs : List Int) (col row : Int) : Bool := bits .and .i64 (xs[col.toNat]?.getD 0) (rowBit row) != 0

theorem column_of {n : Nat} {col : Int} (h : (decide (0 ≤ col) && decide (col < n)) = true) : ∃ k : Nat, col = k ∧ k < n := by
  simp only [Bool.and_eq_true, decide_eq_true_eq] at h
  exact ⟨col.toNat, by omega, by omega⟩

theorem implHasHole_any (A : Option Addr) (c : Nat) (xs : List Int) (B : Nat) (col row : Int) (w : World) (h : Ints w B A xs) (hB : B ≤ w.heap.size) (hn : xs.length ≤ 1048576) :
    Calls Try.prog 10 #[.agg #[.slice A xs.length c], .int .i64 col, .int .i64 row] w fun e w' =>
      e = .returned (.tuple #[.bool (if atCode xs col row = 0 then holeB xs col row else false), .int .i64 (atCode xs col row)]) ∧ Below w.heap.size w w' := by
  have hat := bitOn_any A c xs B col row (w.alloc (.cells #[.slice A xs.length c] 26)) (h.alloc hB _) (by simp; omega) hn
  by_cases e : atCode xs col row = 0
  · rw [if_pos e]
    rw [if_pos e, e] at hat
    rw [e]
    obtain ⟨e', hv, hc, hr⟩ : atCode xs col row = 0 ∧ okB xs = true ∧ (decide (0 ≤ col) && decide (col < xs.length)) = true ∧ rowBit row ≠ 0 := by
      rcases atCode_cases xs col row with h' | h' | h' | h' <;> first | exact h' | (rw [e] at h'; exact absurd h'.1 (by decide))
    obtain ⟨k, rfl, hk⟩ := column_of hc
    obtain ⟨b, off, rfl, hb, hcell⟩ := h (by omega)
    have h1 := hcell k hk
    unfold holeB
    rw [Int.toNat_natCast]
    obtain ⟨x, hx⟩ : ∃ x, xs[k]?.getD 0 = x := ⟨_, rfl⟩
    obtain ⟨y, hy⟩ : ∃ y, rowBit row = y := ⟨_, rfl⟩
    obtain ⟨n, hN⟩ : ∃ n, xs.length = n := ⟨_, rfl⟩
    rw [hx] at h1
    rw [hx, hy]
    rw [hy] at hat
    rw [hN] at hat hk hn ⊢
    have HA := Lib.hid hat
    have hk0 : (0 : Int) ≤ (k : Int) := Int.natCast_nonneg _
    have hk1 : (k : Int) < (n : Int) := by omega
    clear hat e e' hv hc hr h hcell hx hy hN
    go_enter Try.func10, Try.ntmps10
    go_wp2_with fail
    refine HA.out.mono ?_
    rintro e w1 ⟨rfl, hb⟩
    have B1 := Lib.hid (below_step (below_box w _) hb)
    have c1 := cell_kept (p := ⟨w.heap.size, 0, none⟩) (v := .slice (some ⟨b, off, none⟩) n c) (by simp) hb
    have x1 := cell_kept h1 B1.out
    clear hb h1
    go_wp2
    go_ret2
    exact ⟨rfl, B1.out⟩
  · rw [if_neg e]
    rw [if_neg e] at hat
    obtain ⟨a, ha⟩ : ∃ a, atCode xs col row = a := ⟨_, rfl⟩
    rw [ha] at hat e ⊢
    have hne : (a != 0) = true := by simpa using e
    have HA := Lib.hid hat
    clear hat h ha e
    go_enter Try.func10, Try.ntmps10
    go_wp2_with fail
    refine HA.out.mono ?_
    rintro e w1 ⟨rfl, hb⟩
    have B1 := Lib.hid (below_step (below_box w _) hb)
    clear hb
    go_wp2
    go_ret2
    exact ⟨rfl, B1.out⟩
end Go.Proofs.Ytjfogadcedgndaa
