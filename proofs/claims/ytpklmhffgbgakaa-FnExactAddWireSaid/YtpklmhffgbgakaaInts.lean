/- The laws' helpers on slices of int64 and on cards (sizes, copies, comparisons, marks) answer what they should, for every slice of at most 1048576 elements: contracts of laws.szInt64S, szCard, toInt64S, toCard, eqInt64S, eqCard. -/
import Derived.Test.YtpklmhffgbgakaaMem
import Derived.Deep.QuietTactic
import Derived.BigQuiet
import Derived.Outline
namespace Go.Proofs.Ytpklmhffgbgakaa
open Go.ChangeShapes Go.WideShapes Go.ChangeAt Go.RowKit

theorem szInts_any (A : Option Addr) (n c : Nat) (left : Int) (w : World) (h0 : 0 ≤ left) (h1 : left ≤ 1048576) (hn : n ≤ 9223372036854775807) :
    Calls Try.prog 85 #[.slice A n c, .int .i64 left] w fun e w' => e = .returned (.int .i64 (if left < n then -1 else left - n)) ∧ w = w' := by
  by_cases h : left < n
  · rw [if_pos h]
    go_enter Try.func85, Try.ntmps85
    go_wp2
    go_ret
    exact ⟨rfl, rfl⟩
  · rw [if_neg h]
    go_enter Try.func85, Try.ntmps85
    go_wp2
    go_ret
    exact ⟨rfl, rfl⟩

theorem szCard_any (A : Option Addr) (n c : Nat) (left : Int) (w : World) (h0 : 0 ≤ left) (h1 : left ≤ 1048576) (hn : n ≤ 9223372036854775807) :
    Calls Try.prog 45 #[.agg #[.slice A n c], .int .i64 left] w fun e w' => e = .returned (.int .i64 (if left < n then -1 else left - n)) ∧ Below w.heap.size w w' := by
  by_cases h : left < n
  · have e : (if left < (n : Int) then (-1 : Int) else left - n) = -1 := if_pos h
    have hs := fun W => szInts_any A n c left W h0 h1 hn
    rw [e] at hs ⊢
    go_enter Try.func45, Try.ntmps45
    go_wp2_with (go_at_call 85; refine (hs _).mono ?_; rintro e w' ⟨rfl, rfl⟩)
    go_ret
    exact ⟨rfl, (Below.refl _ _).alloc (Nat.le_refl _) _⟩
  · have e : (if left < (n : Int) then (-1 : Int) else left - n) = left - n := if_neg h
    have hs := fun W => szInts_any A n c left W h0 h1 hn
    rw [e] at hs ⊢
    go_enter Try.func45, Try.ntmps45
    go_wp2_with (go_at_call 85; refine (hs _).mono ?_; rintro e w' ⟨rfl, rfl⟩)
    go_ret
    exact ⟨rfl, (Below.refl _ _).alloc (Nat.le_refl _) _⟩

/-- what 'out' holds after k rounds -/
def part (xs : List Int) (k : Nat) : List Int := xs.take k ++ List.replicate (xs.length - k) 0
theorem part_length (xs : List Int) (k : Nat) (hk : k ≤ xs.length) : (part xs k).length = xs.length := by simp [part]; omega
theorem part_zero (xs : List Int) : part xs 0 = List.replicate xs.length 0 := by simp [part]
theorem part_all (xs : List Int) : part xs xs.length = xs := by simp [part]
theorem part_set (xs : List Int) (k : Nat) (hk : k < xs.length) : (part xs k).set k (xs[k]?.getD 0) = part xs (k + 1) := by
  apply List.ext_getElem?
  intro i
  have h1 : (xs.take k).length = k := by simp; omega
  have h2 : (xs.take (k + 1)).length = k + 1 := by simp; omega
  have h3 : k < (part xs k).length := by rw [part_length _ _ (by omega)]; omega
  rw [List.getElem?_set]
  unfold part at h3 ⊢
  by_cases hi : k = i
  · subst hi
    rw [if_pos rfl, if_pos h3, List.getElem?_append_left (by omega), List.getElem?_take_of_lt (by omega)]
    simp [List.getElem?_eq_getElem hk]
  · rw [if_neg hi]
    by_cases hlt : i < k
    · rw [List.getElem?_append_left (by omega), List.getElem?_append_left (by omega), List.getElem?_take_of_lt hlt, List.getElem?_take_of_lt (by omega)]
    · rw [List.getElem?_append_right (by omega), List.getElem?_append_right (by omega), h1, h2, List.getElem?_replicate, List.getElem?_replicate]
      congr 1
      simp only [eq_iff_iff]
      omega

theorem part_set' (xs : List Int) (k : Nat) (hk : k < xs.length) : (part xs k).set k xs[k] = part xs (k + 1) := by
  rw [← part_set xs k hk, List.getElem?_eq_getElem hk]
  rfl

theorem info_int64 : (Try.prog.info? 2).map (fun i => (i.zero, i.size, i.bytes)) = some (some (.int .i64 0), 1, 8) := by kernel_rfl

theorem madeCells_int (n : Nat) : madeCells #[Value.int .i64 0] n = ((List.replicate n (0 : Int)).map (Value.int .i64) ++ []).toArray := by
  apply Array.ext
  · simp [size_madeCells]
  · intro i h1 h2
    simp [madeCells, Nat.mod_one]

/-- A call has laid one block, of the list xs, and turned nothing. -/
structure Copied (w w' : World) (xs : List Int) : Prop where
  below : Below w.heap.size w w'
  size : w'.heap.size = w.heap.size + 1
  row : Row w' w.heap.size xs []

theorem toInts_any (A : Option Addr) (c : Nat) (xs : List Int) (B : Nat) (w : World) (h : Ints w B A xs) (hB : B ≤ w.heap.size) (hn : xs.length ≤ 1048576) :
    Calls Try.prog 87 #[.slice A xs.length c] w fun e w' => e = .returned (.slice (some ⟨w.heap.size, 0, none⟩) xs.length xs.length) ∧ Copied w w' xs := by
  have hmk := run_make_row' (P := Try.prog) 44 2 (.int .i64 0) 8 Try.underlying44 info_int64 rfl .i64 .i64 xs.length (by omega) (by omega)
  have H := Lib.hid h
  clear h
  go_enter Try.func87, Try.ntmps87
  go_wp2
  clear hmk
  go_loopw [4] (fun i wr => ∃ k : Nat, k ≤ xs.length ∧ i = .int .i64 k ∧ Copied w wr (part xs k)) (fun i _ => xs.length - (intOf i).toNat)
  case atStart =>
    refine ⟨0, Nat.zero_le _, rfl, (Below.refl _ _).alloc (Nat.le_refl _) _, by simp, ?_⟩
    rw [madeCells_int, part_zero]
    exact heap_alloc_new w _
  case round =>
    obtain ⟨k, hk, rfl, hc⟩ := hrel
    by_cases hlt : k < xs.length
    · obtain ⟨b, off, rfl, hb, hcell⟩ := (H.out.below (hc.below.mono hB)) (by omega)
      have h1 := hcell k hlt
      have hp := part_length xs k hk
      have h2 := hc.row.cell (i := k) (by omega)
      have h3 := hc.row.frozen k
      have HC := Lib.hid hc
      clear hc hcell H
      have Hp := Lib.hid hp
      clear hp
      go_wp2
      go_roundw
      case rel =>
        refine ⟨k + 1, by omega, by go_num, ?_, ?_, ?_⟩
        · exact HC.out.below.setCell (by simp) _
        · have := HC.out.size
          simpa [World.setCell] using this
        · rw [← part_set' xs k hlt]
          exact HC.out.row.set (by rw [Hp.out]; exact hlt) _
      case measure => simp [intOf]; omega
    · obtain rfl : k = xs.length := by omega
      rw [part_all] at hc
      have HC := Lib.hid hc
      clear hc H
      go_wp2
      go_ret
      exact ⟨rfl, HC.out⟩

theorem toCard_any (A : Option Addr) (c : Nat) (xs : List Int) (B : Nat) (w : World) (h : Ints w B A xs) (hB : B ≤ w.heap.size) (hn : xs.length ≤ 1048576) :
    Calls Try.prog 47 #[.agg #[.slice A xs.length c]] w fun e w' => ∃ g, e = .returned (.agg #[.slice (some ⟨g, 0, none⟩) xs.length xs.length]) ∧ w.heap.size ≤ g ∧ Below w.heap.size w w' ∧ Row w' g xs [] := by
  have H := Lib.hid h
  clear h
  go_enter Try.func47, Try.ntmps47
  go_wp2_with fail
  refine (toInts_any A c xs B _ ((((H.out.alloc hB _).alloc (by simp; omega) _).alloc (by simp; omega) _)) (by simp; omega) hn).mono ?_
  rintro e w' ⟨rfl, hc⟩
  obtain ⟨hr1, hr2⟩ := below_reads hc.below
  have HC := Lib.hid hc
  clear hc
  go_wp2
  refine bodyPost_ret (v := .agg #[.slice (some ⟨w.heap.size + 1 + 1 + 1, 0, none⟩) xs.length xs.length]) (by simp [results, Try.results47, go_sem, hr1]) rfl ⟨_, rfl, by omega, ?_, ?_⟩
  · exact ((((((Below.refl _ _).alloc (Nat.le_refl _) _).alloc (by simp) _).alloc (by simp; omega) _).trans (HC.out.below.mono (by simp; omega))).setCell (by simp; omega) _).setCell (by simp) _
  · have hr := HC.out.row
    simp only [World.size_alloc] at hr
    exact (hr.far (by simp) _).far (by simp; omega) _

theorem take_more (xs ys : List Int) (k : Nat) (hx : k < xs.length) (hy : k < ys.length) (h : xs.take k = ys.take k) (e : xs[k]?.getD 0 = ys[k]?.getD 0) : xs.take (k + 1) = ys.take (k + 1) := by
  rw [List.getElem?_eq_getElem hx, List.getElem?_eq_getElem hy] at e
  have e' : xs[k] = ys[k] := e
  rw [List.take_succ_eq_append_getElem hx, List.take_succ_eq_append_getElem hy, h, e']
theorem parts_at (xs ys : List Int) (k : Nat) (e : ¬ xs[k]?.getD 0 = ys[k]?.getD 0) : decide (xs = ys) = false := by
  simp only [decide_eq_false_iff_not]
  rintro rfl
  exact e rfl

theorem eqInts_any (A A' : Option Addr) (c c' : Nat) (xs ys : List Int) (B B' : Nat) (w : World) (h : Ints w B A xs) (h' : Ints w B' A' ys) (hn : xs.length ≤ 1048576) (hn' : ys.length ≤ 140737488355328) :
    Calls Try.prog 31 #[.slice A xs.length c, .slice A' ys.length c'] w fun e w' => e = .returned (.bool (decide (xs = ys))) ∧ ∃ n, w' = w.drewN n := by
  by_cases hl : xs.length = ys.length
  · obtain ⟨n, hN⟩ : ∃ n, xs.length = n := ⟨_, rfl⟩
    obtain ⟨r, hr⟩ : ∃ r, decide (xs = ys) = r := ⟨_, rfl⟩
    rw [hr]
    rw [hN] at hn ⊢
    rw [← hl, hN]
    have H := Lib.hid h
    have H' := Lib.hid h'
    have HN := Lib.hid hN
    have HL := Lib.hid hl
    have HR := Lib.hid hr
    clear h h' hN hl hr
    go_enter Try.func31, Try.ntmps31
    go_wp2
    go_loopw [5] (fun i wr => ∃ k m : Nat, k ≤ n ∧ i = .int .i64 k ∧ wr = w.drewN m ∧ Hid (xs.take k = ys.take k)) (fun i _ => n - (intOf i).toNat)
    case atStart => exact ⟨0, 0, Nat.zero_le _, rfl, rfl, by simp [Hid]⟩
    case round =>
      obtain ⟨k, m, hk, rfl, rfl, HK⟩ := hrel
      by_cases hlt : k < n
      · have hx : k < xs.length := by rw [HN.out]; exact hlt
        have hy : k < ys.length := by rw [← HL.out, HN.out]; exact hlt
        obtain ⟨b, off, rfl, hb, hcell⟩ := H.out (by omega)
        obtain ⟨b', off', rfl, hb', hcell'⟩ := H'.out (by omega)
        have h1 := hcell k hx
        have h2 := hcell' k hy
        obtain ⟨x, hxx⟩ : ∃ x, xs[k]?.getD 0 = x := ⟨_, rfl⟩
        obtain ⟨y, hyy⟩ : ∃ y, ys[k]?.getD 0 = y := ⟨_, rfl⟩
        rw [hxx] at h1
        rw [hyy] at h2
        have Hx := Lib.hid hxx
        have Hy := Lib.hid hyy
        have hx' := Lib.hid hx
        have hy' := Lib.hid hy
        have hk0 : (0 : Int) ≤ (k : Int) := Int.natCast_nonneg _
        have hk1 : (k : Int) < (n : Int) := by omega
        clear hcell hcell' hxx hyy hx hy H H'
        by_cases hxy : x = y
        · have HK1 : Hid (xs.take (k + 1) = ys.take (k + 1)) := take_more xs ys k hx'.out hy'.out HK.out (by rw [Hx.out, Hy.out, hxy])
          subst hxy
          go_wp2
          go_quiet (fail)
          go_wp2
          go_roundw
          case rel => exact ⟨k + 1, _, by omega, by go_num, rfl, HK1⟩
          case measure => simp [intOf]; omega
        · obtain rfl : r = false := by rw [← HR.out]; exact parts_at xs ys k (by rw [Hx.out, Hy.out]; exact hxy)
          go_wp2
          go_quiet (fail)
          go_wp2
          go_ret
          exact ⟨rfl, _, World.drewN_drewN _ _ _⟩
      · obtain rfl : k = n := by omega
        obtain rfl : r = true := by
          rw [← HR.out]
          have := HK.out
          rw [List.take_of_length_le (by rw [HN.out]; omega), List.take_of_length_le (by rw [← HL.out, HN.out]; omega)] at this
          simpa using this
        go_wp2
        go_ret
        exact ⟨rfl, _, rfl⟩
  · have e : decide (xs = ys) = false := by
      simp only [decide_eq_false_iff_not]
      rintro rfl
      exact hl rfl
    rw [e]
    clear e
    go_enter Try.func31, Try.ntmps31
    go_wp2
    go_ret
    exact ⟨rfl, 0, rfl⟩

/-- Cards: any two blocks may be laid for the boxes; no old cell turns. -/
theorem eqCard_any (A A' : Option Addr) (c c' : Nat) (xs ys : List Int) (B B' : Nat) (w : World) (h : Ints w B A xs) (h' : Ints w B' A' ys) (hB : B ≤ w.heap.size) (hB' : B' ≤ w.heap.size) (hn : xs.length ≤ 1048576) (hn' : ys.length ≤ 140737488355328) :
    Calls Try.prog 49 #[.agg #[.slice A xs.length c], .agg #[.slice A' ys.length c']] w fun e w' => e = .returned (.bool (decide (xs = ys))) ∧ Below w.heap.size w w' := by
  have hc := eqInts_any A A' c c' xs ys B B' _ ((h.alloc hB (.cells #[.slice A xs.length c] 58)).alloc (by simp; omega) (.cells #[.slice A' ys.length c'] 58)) ((h'.alloc hB' _).alloc (by simp; omega) _) hn hn'
  obtain ⟨r, hr⟩ : ∃ r, decide (xs = ys) = r := ⟨_, rfl⟩
  rw [hr] at hc ⊢
  have HC := Lib.hid hc
  clear hc hr h h'
  cases r
  all_goals
    go_enter Try.func49, Try.ntmps49
    go_wp2_with fail
    refine HC.out.mono ?_
    rintro e w' ⟨rfl, n, rfl⟩
    go_wp2
    go_ret
    exact ⟨rfl, below_drewN (((Below.refl _ _).alloc (Nat.le_refl _) _).alloc (by simp) _) _⟩
end Go.Proofs.Ytpklmhffgbgakaa
