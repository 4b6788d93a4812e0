/- The laws' helpers on slices of int64 and on cards (sizes, copies, comparisons, marks) answer what they should, for every slice of at most 1048576 elements: contracts of laws.szInt64S, szCard, toInt64S, toCard, eqInt64S, eqCard. -/
import Derived.Test.YtdakbbgbglgioaaDoorM1
import Derived.Deep.QuietTactic
import Derived.BigQuiet
import Derived.Outline
import Derived.Test.YtdakbbgbglgioaaDoorBits
namespace Go.Proofs.YtdakbbgbglgioaaDoor
open Go.ChangeShapes Go.WideShapes Go.ChangeAt Go.RowKit

/-- what 'out' holds after k rounds -/
def part (xs : List Int) (k : Nat) : List Int := xs.take k ++ List.replicate (xs.length - k) 0
theorem part_length (xs : List Int) (k : Nat) (hk : k ≤ xs.length) : (part xs k).length = xs.length := by simp [part]; omega
theorem part_zero (xs : List Int) : part xs 0 = List.replicate xs.length 0 := by simp [part]
theorem part_all (xs : List Int) : part xs xs.length = xs := by simp [part]
theorem part_set (xs : List Int) (k : Nat) (hk : k < xs.length) : (part xs k).set k (xs[k]?.getD 0) = part xs (k + 1) := by
  apply List.ext_getElem?
  intro i
  have h1 : (xs.take k).length = k := by simp; omega
  have h2 : (xs.take (k + 1)).length = k + 1 := by simp; omega
  have h3 : k < (part xs k).length := by rw [part_length _ _ (by omega)]; omega
  rw [List.getElem?_set]
  unfold part at h3 ⊢
  by_cases hi : k = i
  · subst hi
    rw [if_pos rfl, if_pos h3, List.getElem?_append_left (by omega), List.getElem?_take_of_lt (by omega)]
    simp [List.getElem?_eq_getElem hk]
  · rw [if_neg hi]
    by_cases hlt : i < k
    · rw [List.getElem?_append_left (by omega), List.getElem?_append_left (by omega), List.getElem?_take_of_lt hlt, List.getElem?_take_of_lt (by omega)]
    · rw [List.getElem?_append_right (by omega), List.getElem?_append_right (by omega), h1, h2, List.getElem?_replicate, List.getElem?_replicate]
      congr 1
      simp only [eq_iff_iff]
      omega

theorem part_set' (xs : List Int) (k : Nat) (hk : k < xs.length) : (part xs k).set k xs[k] = part xs (k + 1) := by
  rw [← part_set xs k hk, List.getElem?_eq_getElem hk]
  rfl

theorem info_int64 : (Tryd.prog.info? 2).map (fun i => (i.zero, i.size, i.bytes)) = some (some (.int .i64 0), 1, 8) := by kernel_rfl

theorem madeCells_int (n : Nat) : madeCells #[Value.int .i64 0] n = ((List.replicate n (0 : Int)).map (Value.int .i64) ++ []).toArray := by
  apply Array.ext
  · simp [size_madeCells]
  · intro i h1 h2
    simp [madeCells, Nat.mod_one]

/-- A call has laid one block, of the list xs, and turned nothing. -/
structure Copied (w w' : World) (xs : List Int) : Prop where
  below : Below w.heap.size w w'
  size : w'.heap.size = w.heap.size + 1
  row : Row w' w.heap.size xs []

theorem take_more (xs ys : List Int) (k : Nat) (hx : k < xs.length) (hy : k < ys.length) (h : xs.take k = ys.take k) (e : xs[k]?.getD 0 = ys[k]?.getD 0) : xs.take (k + 1) = ys.take (k + 1) := by
  rw [List.getElem?_eq_getElem hx, List.getElem?_eq_getElem hy] at e
  have e' : xs[k] = ys[k] := e
  rw [List.take_succ_eq_append_getElem hx, List.take_succ_eq_append_getElem hy, h, e']
theorem parts_at (xs ys : List Int) (k : Nat) (e : ¬ xs[k]?.getD 0 = ys[k]?.getD 0) : decide (xs = ys) = false := by
  simp only [decide_eq_false_iff_not]
  rintro rfl
  exact e rfl

end Go.Proofs.YtdakbbgbglgioaaDoor
/- The laws' helpers that write marks into a slice of int64 (or a card) and look for them again do so: contracts of laws.markInt64S, markCard, heldInt64S, heldCard, for slices of at most 1048576 elements. -/
namespace Go.Proofs.YtdakbbgbglgioaaDoor
open Go.ChangeShapes Go.WideShapes Go.ChangeAt Go.RowKit

/-- the n marks from k on -/
def marks (k : Int) (n : Nat) : List Int := (List.range n).map fun i : Nat => k + (i : Int)
theorem marks_length (k : Int) (n : Nat) : (marks k n).length = n := by simp [marks]
theorem marks_get (k : Int) (n i : Nat) (h : i < n) : (marks k n)[i]?.getD 0 = k + (i : Int) := by simp [marks, h]

/-- what a slice holds after j marks -/
def marked (xs : List Int) (k : Int) (j : Nat) : List Int := marks k j ++ xs.drop j
theorem marked_length (xs : List Int) (k : Int) (j : Nat) (h : j ≤ xs.length) : (marked xs k j).length = xs.length := by simp [marked, marks]; omega
theorem marked_all (xs : List Int) (k : Int) : marked xs k xs.length = marks k xs.length := by simp [marked]
theorem marked_set (xs : List Int) (k : Int) (j : Nat) (h : j < xs.length) : (marked xs k j).set j (k + (j : Int)) = marked xs k (j + 1) := by
  apply List.ext_getElem?
  intro i
  have h1 : (marks k j).length = j := marks_length k j
  have h2 : (marks k (j + 1)).length = j + 1 := marks_length k (j + 1)
  have h3 : j < (marked xs k j).length := by rw [marked_length xs k j (by omega)]; exact h
  rw [List.getElem?_set]
  unfold marked at h3 ⊢
  by_cases hi : j = i
  · subst hi
    rw [if_pos rfl, if_pos h3, List.getElem?_append_left (by omega)]
    simp [marks]
  · rw [if_neg hi]
    by_cases hlt : i < j
    · rw [List.getElem?_append_left (by omega), List.getElem?_append_left (by omega)]
      simp [marks, hlt, show i < j + 1 by omega]
    · rw [List.getElem?_append_right (by omega), List.getElem?_append_right (by omega), h1, h2, List.getElem?_drop, List.getElem?_drop]
      congr 1
      omega

end Go.Proofs.YtdakbbgbglgioaaDoor
/- spec.ValidCard and impl.ValidCard answer whether a card has 1 to 20 columns with numbers from 0 to 4095, for every card of at most 1048576 columns: contracts, of the functions that they call too. -/
namespace Go.Proofs.YtdakbbgbglgioaaDoor
open Go.ChangeShapes Go.WideShapes Go.ChangeAt Go.RowKit

def maskB (x : Int) : Bool := inB x 0 4095
def legalB (xs : List Int) : Bool := xs.all maskB
def okB (xs : List Int) : Bool := legalB xs && inB xs.length 1 20

theorem legalB_take (xs : List Int) (k : Nat) (hk : k < xs.length) : legalB (xs.take (k + 1)) = (legalB (xs.take k) && maskB (xs[k]?.getD 0)) := by
  rw [legalB, legalB, List.take_succ_eq_append_getElem hk, List.getElem?_eq_getElem hk, List.all_append, List.all_cons, List.all_nil, Bool.and_true]
  rfl
theorem legalB_bad (xs : List Int) (k : Nat) (hk : k < xs.length) (h : maskB (xs[k]?.getD 0) = false) : legalB xs = false := by
  rw [List.getElem?_eq_getElem hk] at h
  rw [legalB, List.all_eq_false]
  exact ⟨xs[k], List.getElem_mem hk, by simpa using h⟩

theorem l02Ok_any (A : Option Addr) (c : Nat) (xs : List Int) (B : Nat) (p o : Nat) (w : World) (hp : w.cell? ⟨p, o, none⟩ = some (.slice A xs.length c)) (h : Ints w B A xs) (hn : xs.length ≤ 1048576) :
    Calls Tryd.prog 46 #[.pointer (some ⟨p, o, none⟩)] w fun e w' => e = .returned (.bool (okB xs)) ∧ w = w' := by
  obtain ⟨n, hN⟩ : ∃ n, xs.length = n := ⟨_, rfl⟩
  obtain ⟨r, hr⟩ : ∃ r, okB xs = r := ⟨_, rfl⟩
  rw [hr]
  rw [hN] at hn hp
  have H := Lib.hid h
  have HN := Lib.hid hN
  have HR := Lib.hid hr
  clear h hN hr
  go_enter Tryd.func46, Tryd.ntmps46
  go_wp2
  go_loop [3] (fun i => ∃ k : Nat, k ≤ n ∧ i = .int .i64 k ∧ Hid (legalB (xs.take k) = true)) (fun i => n - (intOf i).toNat)
  case atStart => exact ⟨0, Nat.zero_le _, rfl, rfl⟩
  case round =>
    obtain ⟨k, hk, rfl, HK⟩ := hrel
    by_cases hlt : k < n
    · have hx : k < xs.length := by rw [HN.out]; exact hlt
      obtain ⟨b, off, rfl, hb, hcell⟩ := H.out (by omega)
      have h1 := hcell k hx
      obtain ⟨x, hxx⟩ : ∃ x, xs[k]?.getD 0 = x := ⟨_, rfl⟩
      rw [hxx] at h1
      have Hx := Lib.hid hxx
      have hx' := Lib.hid hx
      clear hcell hxx hx H
      cases hm : inB x 0 4095
      · have hin : ∀ W, Calls Tryd.prog 75 #[.int .i64 x, .int .i64 0, .int .i64 4095] W fun e w' => e = .returned (.bool false) ∧ W = w' := fun W => by have := in_any x 0 4095 W; rwa [hm] at this
        have HI := Lib.hid hin
        obtain rfl : r = false := by rw [← HR.out, okB, legalB_bad xs k hx'.out (by rw [Hx.out]; exact hm)]; rfl
        clear hin hm
        go_wp2_with (go_at_call 75; refine (HI.out _).mono ?_; rintro e w' ⟨rfl, rfl⟩)
        go_ret
        exact ⟨rfl, rfl⟩
      · have hin : ∀ W, Calls Tryd.prog 75 #[.int .i64 x, .int .i64 0, .int .i64 4095] W fun e w' => e = .returned (.bool true) ∧ W = w' := fun W => by have := in_any x 0 4095 W; rwa [hm] at this
        have HI := Lib.hid hin
        have HK1 : Hid (legalB (xs.take (k + 1)) = true) := by
          show legalB (xs.take (k + 1)) = true
          rw [legalB_take xs k hx'.out, HK.out, Hx.out, maskB, hm]; rfl
        clear hin hm
        go_wp2_with (go_at_call 75; refine (HI.out _).mono ?_; rintro e w' ⟨rfl, rfl⟩)
        go_round
        case rel => exact ⟨k + 1, by omega, by go_num, HK1⟩
        case measure => simp [intOf]; omega
    · obtain rfl : k = n := by omega
      obtain rfl : r = inB k 1 20 := by
        rw [← HR.out, okB, HN.out]
        have := HK.out
        rw [List.take_of_length_le (by rw [HN.out]; omega)] at this
        rw [this, Bool.true_and]
      have HI := Lib.hid (in_any (k : Int) 1 20)
      go_wp2_with (go_at_call 75; refine (HI.out _).mono ?_; rintro e w' ⟨rfl, rfl⟩)
      go_ret
      exact ⟨rfl, rfl⟩

theorem okB_parts {xs : List Int} (h : okB xs = true) : legalB xs = true ∧ xs.length ≤ 20 := by
  rw [okB, Bool.and_eq_true] at h
  refine ⟨h.1, ?_⟩
  have := h.2
  simp [inB] at this
  omega
theorem legal_at {xs : List Int} (h : legalB xs = true) {j : Nat} (hj : j < xs.length) : 0 ≤ xs[j]?.getD 0 ∧ xs[j]?.getD 0 ≤ 4095 := by
  rw [List.getElem?_eq_getElem hj]
  have := List.all_eq_true.1 h xs[j] (List.getElem_mem hj)
  simpa [maskB, inB] using this

theorem isMask_any (n : Int) (w : World) :
    Calls Tryd.prog 99 #[.int .i64 n] w fun e w' => e = .returned (.bool (inB n 0 4095)) ∧ w = w' := by
  by_cases h1 : 0 ≤ n
  · by_cases h2 : n ≤ 4095
    · have e : inB n 0 4095 = true := by simp [inB, h1, h2]
      rw [e]
      clear e
      go_enter Tryd.func99, Tryd.ntmps99
      go_wp2
      go_ret
      exact ⟨rfl, rfl⟩
    · have e : inB n 0 4095 = false := by simp [inB, h2]
      rw [e]
      clear e
      go_enter Tryd.func99, Tryd.ntmps99
      go_wp2
      go_ret
      exact ⟨rfl, rfl⟩
  · have e : inB n 0 4095 = false := by simp [inB, h1]
    rw [e]
    clear e
    go_enter Tryd.func99, Tryd.ntmps99
    go_wp2
    go_ret
    exact ⟨rfl, rfl⟩

theorem legal_any (A : Option Addr) (c : Nat) (xs : List Int) (B : Nat) (w : World) (h : Ints w B A xs) (hn : xs.length ≤ 1048576) :
    Calls Tryd.prog 97 #[.slice A xs.length c] w fun e w' => e = .returned (.bool (legalB xs)) ∧ w = w' := by
  obtain ⟨n, hN⟩ : ∃ n, xs.length = n := ⟨_, rfl⟩
  obtain ⟨r, hr⟩ : ∃ r, legalB xs = r := ⟨_, rfl⟩
  rw [hr]
  rw [hN] at hn ⊢
  have H := Lib.hid h
  have HN := Lib.hid hN
  have HR := Lib.hid hr
  clear h hN hr
  go_enter Tryd.func97, Tryd.ntmps97
  go_wp2
  go_loop [7] (fun i => ∃ k : Nat, k ≤ n ∧ i = .int .i64 k ∧ Hid (legalB (xs.take k) = true)) (fun i => n - (intOf i).toNat)
  case atStart => exact ⟨0, Nat.zero_le _, rfl, rfl⟩
  case round =>
    obtain ⟨k, hk, rfl, HK⟩ := hrel
    by_cases hlt : k < n
    · have hx : k < xs.length := by rw [HN.out]; exact hlt
      obtain ⟨b, off, rfl, hb, hcell⟩ := H.out (by omega)
      have h1 := hcell k hx
      obtain ⟨x, hxx⟩ : ∃ x, xs[k]?.getD 0 = x := ⟨_, rfl⟩
      rw [hxx] at h1
      have Hx := Lib.hid hxx
      have hx' := Lib.hid hx
      clear hcell hxx hx H
      cases hm : inB x 0 4095
      · have hin : ∀ W, Calls Tryd.prog 99 #[.int .i64 x] W fun e w' => e = .returned (.bool false) ∧ W = w' := fun W => by have := isMask_any x W; rwa [hm] at this
        have HI := Lib.hid hin
        obtain rfl : r = false := by rw [← HR.out, legalB_bad xs k hx'.out (by rw [Hx.out]; exact hm)]
        clear hin hm
        go_wp2_with (go_at_call 99; refine (HI.out _).mono ?_; rintro e w' ⟨rfl, rfl⟩)
        go_ret
        exact ⟨rfl, rfl⟩
      · have hin : ∀ W, Calls Tryd.prog 99 #[.int .i64 x] W fun e w' => e = .returned (.bool true) ∧ W = w' := fun W => by have := isMask_any x W; rwa [hm] at this
        have HI := Lib.hid hin
        have HK1 : Hid (legalB (xs.take (k + 1)) = true) := by
          show legalB (xs.take (k + 1)) = true
          rw [legalB_take xs k hx'.out, HK.out, Hx.out, maskB, hm]; rfl
        clear hin hm
        go_wp2_with (go_at_call 99; refine (HI.out _).mono ?_; rintro e w' ⟨rfl, rfl⟩)
        go_round
        case rel => exact ⟨k + 1, by omega, by go_num, HK1⟩
        case measure => simp [intOf]; omega
    · obtain rfl : k = n := by omega
      obtain rfl : r = true := by
        rw [← HR.out]
        have := HK.out
        rwa [List.take_of_length_le (by rw [HN.out]; omega)] at this
      go_wp2
      go_ret
      exact ⟨rfl, rfl⟩

theorem isWidth_any (n : Int) (w : World) :
    Calls Tryd.prog 96 #[.int .i64 n] w fun e w' => e = .returned (.bool (inB n 1 20)) ∧ w = w' := by
  by_cases h1 : 1 ≤ n
  · by_cases h2 : n ≤ 20
    · have e : inB n 1 20 = true := by simp [inB, h1, h2]
      rw [e]
      clear e
      go_enter Tryd.func96, Tryd.ntmps96
      go_wp2
      go_ret
      exact ⟨rfl, rfl⟩
    · have e : inB n 1 20 = false := by simp [inB, h2]
      rw [e]
      clear e
      go_enter Tryd.func96, Tryd.ntmps96
      go_wp2
      go_ret
      exact ⟨rfl, rfl⟩
  · have e : inB n 1 20 = false := by simp [inB, h1]
    rw [e]
    clear e
    go_enter Tryd.func96, Tryd.ntmps96
    go_wp2
    go_ret
    exact ⟨rfl, rfl⟩

theorem shape_any (A : Option Addr) (c : Nat) (xs : List Int) (B : Nat) (w : World) (h : Ints w B A xs) (hB : B ≤ w.heap.size) (hn : xs.length ≤ 1048576) :
    Calls Tryd.prog 94 #[.slice A xs.length c] w fun e w' => e = .returned (.agg #[.int .i64 xs.length, .bool (okB xs)]) ∧ Below w.heap.size w w' := by
  obtain ⟨n, hN⟩ : ∃ n, xs.length = n := ⟨_, rfl⟩
  cases hw : inB (xs.length : Int) 1 20
  · have hr : okB xs = false := by rw [okB, hw, Bool.and_false]
    rw [hr]
    have hi := isWidth_any (xs.length : Int)
    rw [hw] at hi
    rw [hN] at hi hn ⊢
    have HI := Lib.hid hi
    clear hw hr hi hN h
    go_enter Tryd.func94, Tryd.ntmps94
    go_wp2_with (go_at_call 96; refine (HI.out _).mono ?_; rintro e w' ⟨rfl, rfl⟩)
    refine bodyPost_ret (v := .agg #[.int .i64 n, .bool false]) (by simp [results, Tryd.results94, go_sem]) rfl ⟨rfl, ?_⟩
    exact ((Below.refl _ _).alloc (Nat.le_refl _) _)
  · obtain ⟨r, hr⟩ : ∃ r, legalB xs = r := ⟨_, rfl⟩
    have hr' : okB xs = r := by rw [okB, hw, Bool.and_true, hr]
    rw [hr']
    have hi := isWidth_any (xs.length : Int)
    rw [hw] at hi
    have hl := fun W hh => legal_any A c xs B W hh hn
    rw [hr, hN] at hl
    rw [hN] at hi hn ⊢
    have HI := Lib.hid hi
    have HL := Lib.hid hl
    have H := Lib.hid h
    clear hw hr hi hl hN h hr'
    go_enter Tryd.func94, Tryd.ntmps94
    go_wp2_with (first | (go_at_call 96; refine (HI.out _).mono ?_; rintro e w' ⟨rfl, rfl⟩) | (go_at_call 97; refine (HL.out _ ?_).mono ?_; (exact H.out.alloc hB _); rintro e w' ⟨rfl, rfl⟩))
    refine bodyPost_ret (v := .agg #[.int .i64 n, .bool r]) (by simp [results, Tryd.results94, go_sem]) rfl ⟨rfl, ?_⟩
    exact ((Below.refl _ _).alloc (Nat.le_refl _) _)

end Go.Proofs.YtdakbbgbglgioaaDoor
/- Words for what a function gives that answers a card and a code; spec.BlankCard and impl.BlankCard give a card without holes, or the code of a wrong width, for every width: contracts. -/
namespace Go.Proofs.YtdakbbgbglgioaaDoor
open Go.ChangeShapes Go.WideShapes Go.ChangeAt Go.RowKit

/-- A card of new memory with the numbers ys, and OK. -/
def GivesCard (ys : List Int) (w : World) (e : Ending) (w' : World) : Prop :=
  ∃ g cap ex, e = .returned (.tuple #[.agg #[.slice (some ⟨g, 0, none⟩) ys.length cap], .int .i64 0]) ∧ w.heap.size ≤ g ∧ Below w.heap.size w w' ∧ Row w' g ys ex
/-- No card, and a code. -/
def GivesCode (a : Int) (w : World) (e : Ending) (w' : World) : Prop :=
  e = .returned (.tuple #[.agg #[.slice none 0 0], .int .i64 a]) ∧ Below w.heap.size w w'

theorem Row.sub {w : World} {g : Nat} {xs ys : List Int} {ex ex' : List Value} (h : Row w g xs ex) (e : (xs.map (Value.int .i64)) ++ ex = (ys.map (Value.int .i64)) ++ ex') : Row w g ys ex' := by
  unfold Row at h ⊢
  rw [h, e]

theorem Row.new_at {w : World} {g : Nat} (xs : List Int) (ex : List Value) (hg : g = w.heap.size) : Row (w.alloc (.cells ((xs.map (Value.int .i64)) ++ ex).toArray 2)) g xs ex := by
  subst hg
  exact heap_alloc_new w _

end Go.Proofs.YtdakbbgbglgioaaDoor