/- Words on memory that the proofs of this seat use: a slice of int64 that reads as a list; a block that holds a list. No function of the program is spoken of. -/
import Derived.Test.YtjfogadcedgndaaRows
import Derived.WalkKit
import Derived.ProofKit
import Derived.OpenShut
import Derived.WalkSpells
import Derived.Carry
import Derived.Lib.Hide
import Derived.Deep.Draws
import Derived.Deep.OwnRows
import Derived.Laws.Rows
import Derived.Laws.MakeOwn
import Derived.Deep.QuietTactic
import Derived.BigQuiet
import Derived.Outline
namespace Go.Proofs.Ytjfogadcedgndaa
open Go.ChangeShapes Go.WideShapes Go.ChangeAt Go.RowKit

/-- The int64s at address A, in a block below B, are xs. -/
def Ints (w : World) (B : Nat) (A : Option Addr) (xs : List Int) : Prop :=
  0 < xs.length → ∃ b off, A = some ⟨b, off, none⟩ ∧ b < B ∧ ∀ i, i < xs.length → w.cell? ⟨b, off + i, none⟩ = some (.int .i64 (xs[i]?.getD 0))

/-- Block g holds xs, then ex. -/
def Row (w : World) (g : Nat) (xs : List Int) (ex : List Value) : Prop :=
  w.heap[g]? = some (.cells ((xs.map (Value.int .i64)) ++ ex).toArray 2 (0, 0))

section
variable {w w' : World} {B B' : Nat} {A : Option Addr} {xs : List Int} {g : Nat} {ex : List Value}

theorem Ints.nil : Ints w B A [] := fun h => absurd h (by simp)

theorem Ints.moved (h : Ints w B A xs) (hk : ∀ p : Addr, p.block < B → w'.cell? p = w.cell? p) : Ints w' B A xs := fun hn => by
  obtain ⟨b, off, rfl, hb, hc⟩ := h hn
  exact ⟨b, off, rfl, hb, fun i hi => (hk ⟨b, off + i, none⟩ hb).trans (hc i hi)⟩
theorem Ints.more (h : Ints w B A xs) (hB : B ≤ B') : Ints w B' A xs := fun hn => by
  obtain ⟨b, off, rfl, hb, hc⟩ := h hn
  exact ⟨b, off, rfl, by omega, hc⟩
theorem Ints.below (h : Ints w B A xs) (hb : Below B w w') : Ints w' B A xs := h.moved fun _ hp => hb.cell hp
theorem Ints.drew (h : Ints w B A xs) : Ints w.drew B A xs := h
theorem Ints.drewN (h : Ints w B A xs) (n : Nat) : Ints (w.drewN n) B A xs := h
theorem Ints.alloc (h : Ints w B A xs) (hB : B ≤ w.heap.size) (o : Obj) : Ints (w.alloc o) B A xs := h.moved fun p hp => World.cell?_alloc_lt w o p (by omega)

theorem Row.lt (h : Row w g xs ex) : g < w.heap.size := by
  rcases Nat.lt_or_ge g w.heap.size with hlt | hge
  · exact hlt
  · unfold Row at h
    rw [Array.getElem?_eq_none hge] at h
    cases h
theorem Row.cell (h : Row w g xs ex) {i : Nat} (hi : i < xs.length) : w.cell? ⟨g, i, none⟩ = some (.int .i64 (xs[i]?.getD 0)) := by
  rw [cell_of_row w g i _ _ _ h]
  simp [List.getElem?_append_left, hi]
theorem Row.frozen (h : Row w g xs ex) (i : Nat) : w.frozen? ⟨g, i, none⟩ = false := by
  unfold Row at h
  simp [World.frozen?, h]
theorem Row.ints (h : Row w g xs ex) : Ints w (g + 1) (some ⟨g, 0, none⟩) xs := fun _ => ⟨g, 0, rfl, by omega, fun i hi => by rw [Nat.zero_add]; exact h.cell hi⟩
theorem Row.drew (h : Row w g xs ex) : Row w.drew g xs ex := h
theorem Row.drewN (h : Row w g xs ex) (n : Nat) : Row (w.drewN n) g xs ex := h
theorem Row.alloc (h : Row w g xs ex) (o : Obj) : Row (w.alloc o) g xs ex := (Below.heap_alloc w o g h.lt).trans h
theorem Row.far (h : Row w g xs ex) {p : Addr} (hp : g ≠ p.block) (u : Value) : Row (w.setCell p u) g xs ex := (Below.heap_setCell w p u g hp).trans h
theorem Row.below (h : Row w g xs ex) (hb : Below B w w') (hg : g < B) : Row w' g xs ex := (hb.block g hg).trans h
theorem Row.set {i : Nat} (h : Row w g xs ex) (hi : i < xs.length) (u : Int) : Row (w.setCell ⟨g, i, none⟩ (.int .i64 u)) g (xs.set i u) ex := by
  unfold Row at h ⊢
  simp only [World.setCell, Array.getElem?_modify, if_true, h, Option.map_some]
  congr 2
  apply Array.ext'
  simp [List.map_set, List.set_append_left, hi]
end

/-- What a call may have done: below B nothing has turned. -/
theorem below_drewN {B : Nat} {a w : World} (h : Below B a w) (n : Nat) : Below B a (w.drewN n) := ⟨h.os, h.tape, h.output, h.size, h.block⟩

theorem Row.later {w w' : World} {g : Nat} {xs : List Int} {ex : List Value} (h : Row w g xs ex) (hb : Below w.heap.size w w') : Row w' g xs ex := h.below hb h.lt
theorem cell_kept {w w' : World} {p : Addr} {v : Value} (h : w.cell? p = some v) (hb : Below w.heap.size w w') : w'.cell? p = some v := by
  rw [hb.cell (World.block_lt_of_cell? _ _ h)]
  exact h
theorem below_step {w W w' : World} (h : Below w.heap.size w W) (hb : Below W.heap.size W w') : Below w.heap.size w w' := h.trans (hb.mono h.size)
theorem below_box (w : World) (o : Obj) : Below w.heap.size w (w.alloc o) := (Below.refl _ _).alloc (Nat.le_refl _) _

/-- Cells and marks below B read as before: in the form that a walk takes for rules. -/
theorem below_reads {B : Nat} {w w' : World} (h : Below B w w') : (∀ b o, b < B → w'.cell? ⟨b, o, none⟩ = w.cell? ⟨b, o, none⟩) ∧ (∀ b o, b < B → w'.frozen? ⟨b, o, none⟩ = w.frozen? ⟨b, o, none⟩) :=
  ⟨fun b o hb => h.cell (p := ⟨b, o, none⟩) hb, fun b o hb => h.frozen (p := ⟨b, o, none⟩) hb⟩

section
variable {a b c w w' : World} {g : Nat}
/-- Only block g, and what is new, may have turned. -/
theorem only_step (h : a.grownBy b (some g)) (k : b.grownBy c (some g)) : a.grownBy c (some g) :=
  ⟨k.os.trans h.os, k.tape.trans h.tape, k.output.trans h.output, Nat.le_trans h.size k.size, fun i hi hne => (k.block i (Nat.lt_of_lt_of_le hi h.size) hne).trans (h.block i hi hne)⟩
theorem only_box (w : World) (o : Obj) (g : Nat) : w.grownBy (w.alloc o) (some g) := ⟨rfl, rfl, rfl, by simp, fun i hi _ => Below.heap_alloc w o i hi⟩
theorem only_set (w : World) (g i : Nat) (u : Value) : w.grownBy (w.setCell ⟨g, i, none⟩ u) (some g) :=
  ⟨rfl, rfl, rfl, by simp [World.setCell], fun j _ hne => Below.heap_setCell w _ u j (by rintro rfl; exact hne rfl)⟩
theorem cell_only (h : w.grownBy w' (some g)) {p : Addr} {v : Value} (hc : w.cell? p = some v) (hne : p.block ≠ g) : w'.cell? p = some v := by
  rw [World.cell?_of_block (h.block p.block (World.block_lt_of_cell? _ _ hc) (fun e => hne (by injection e)))]
  exact hc
theorem Row.only {xs : List Int} {ex : List Value} {j : Nat} (h : w.grownBy w' (some g)) (hr : Row w j xs ex) (hne : j ≠ g) : Row w' j xs ex :=
  (h.block j hr.lt (fun e => hne (by injection e))).trans hr
theorem below_only {w0 : World} (hb : Below w0.heap.size w0 w) (h : w.grownBy w' (some g)) (hg : w0.heap.size ≤ g) : Below w0.heap.size w0 w' :=
  hb.grown h hb.size (fun k hk => by injection hk with hk; omega)
end

end Go.Proofs.Ytjfogadcedgndaa

/- The laws' helpers on slices of int64 and on cards (sizes, copies, comparisons, marks) answer what they should, for every slice of at most 1048576 elements: contracts of laws.szInt64S, szCard, toInt64S, toCard, eqInt64S, eqCard. -/
namespace Go.Proofs.Ytjfogadcedgndaa
open Go.ChangeShapes Go.WideShapes Go.ChangeAt Go.RowKit

/-- what 'out' holds after k rounds -/
def part (xs : List Int) (k : Nat) : List Int := xs.take k ++ List.replicate (xs.length - k) 0
theorem part_length (xs : List Int) (k : Nat) (hk : k ≤ xs.length) : (part xs k).length = xs.length := by simp [part]; omega
theorem part_zero (xs : List Int) : part xs 0 = List.replicate xs.length 0 := by simp [part]
theorem part_all (xs : List Int) : part xs xs.length = xs := by simp [part]
theorem part_set (xs : List Int) (k : Nat) (hk : k < xs.length) : (part xs k).set k (xs[k]?.getD 0) = part xs (k + 1) := by
  apply List.ext_getElem?
  intro i
  have h1 : (xs.take k).length = k := by simp; omega
  have h2 : (xs.take (k + 1)).length = k + 1 := by simp; omega
  have h3 : k < (part xs k).length := by rw [part_length _ _ (by omega)]; omega
  rw [List.getElem?_set]
  unfold part at h3 ⊢
  by_cases hi : k = i
  · subst hi
    rw [if_pos rfl, if_pos h3, List.getElem?_append_left (by omega), List.getElem?_take_of_lt (by omega)]
    simp [List.getElem?_eq_getElem hk]
  · rw [if_neg hi]
    by_cases hlt : i < k
    · rw [List.getElem?_append_left (by omega), List.getElem?_append_left (by omega), List.getElem?_take_of_lt hlt, List.getElem?_take_of_lt (by omega)]
    · rw [List.getElem?_append_right (by omega), List.getElem?_append_right (by omega), h1, h2, List.getElem?_replicate, List.getElem?_replicate]
      congr 1
      simp only [eq_iff_iff]
      omega

theorem part_set' (xs : List Int) (k : Nat) (hk : k < xs.length) : (part xs k).set k xs[k] = part xs (k + 1) := by
  rw [← part_set xs k hk, List.getElem?_eq_getElem hk]
  rfl

theorem info_int64 : (Try.prog.info? 2).map (fun i => (i.zero, i.size, i.bytes)) = some (some (.int .i64 0), 1, 8) := by kernel_rfl

theorem madeCells_int (n : Nat) : madeCells #[Value.int .i64 0] n = ((List.replicate n (0 : Int)).map (Value.int .i64) ++ []).toArray := by
  apply Array.ext
  · simp [size_madeCells]
  · intro i h1 h2
    simp [madeCells, Nat.mod_one]

/-- A call has laid one block, of the list xs, and turned nothing. -/
structure Copied (w w' : World) (xs : List Int) : Prop where
  below : Below w.heap.size w w'
  size : w'.heap.size = w.heap.size + 1
  row : Row w' w.heap.size xs []

theorem take_more (xs ys : List Int) (k : Nat) (hx : k < xs.length) (hy : k < ys.length) (h : xs.take k = ys.take k) (e : xs[k]?.getD 0 = ys[k]?.getD 0) : xs.take (k + 1) = ys.take (k + 1) := by
  rw [List.getElem?_eq_getElem hx, List.getElem?_eq_getElem hy] at e
  have e' : xs[k] = ys[k] := e
  rw [List.take_succ_eq_append_getElem hx, List.take_succ_eq_append_getElem hy, h, e']
theorem parts_at (xs ys : List Int) (k : Nat) (e : ¬ xs[k]?.getD 0 = ys[k]?.getD 0) : decide (xs = ys) = false := by
  simp only [decide_eq_false_iff_not]
  rintro rfl
  exact e rfl

end Go.Proofs.Ytjfogadcedgndaa
/- The functions of rows of a card answer, for every row, the bit of the row: contracts of spec.l00In, spec.l02Bit, spec.BitOf and impl.BitOf, for every argument. -/
namespace Go.Proofs.Ytjfogadcedgndaa
open Go.ChangeShapes Go.WideShapes Go.ChangeAt Go.RowKit

/-- the bit of a row, 0 if there is none -/
def rowBit (r : Int) : Int :=
  if r = 12 then 1 else if r = 11 then 2 else if r = 0 then 4 else if r = 1 then 8 else if r = 2 then 16 else if r = 3 then 32 else if r = 4 then 64
  else if r = 5 then 128 else if r = 6 then 256 else if r = 7 then 512 else if r = 8 then 1024 else if r = 9 then 2048 else 0

theorem rowBit_cases (r : Int) : r < 0 ∨ r = 10 ∨ 12 < r ∨ r = 0 ∨ r = 1 ∨ r = 2 ∨ r = 3 ∨ r = 4 ∨ r = 5 ∨ r = 6 ∨ r = 7 ∨ r = 8 ∨ r = 9 ∨ r = 11 ∨ r = 12 := by omega

theorem rowBit_out (r : Int) (h : r < 0 ∨ r = 10 ∨ 12 < r) : rowBit r = 0 := by
  unfold rowBit
  repeat (rw [if_neg (by omega)])

def inB (n lo hi : Int) : Bool := decide (lo ≤ n) && decide (n ≤ hi)

theorem in_any (n lo hi : Int) (w : World) :
    Calls Try.prog 84 #[.int .i64 n, .int .i64 lo, .int .i64 hi] w fun e w' => e = .returned (.bool (inB n lo hi)) ∧ w = w' := by
  by_cases h1 : lo ≤ n
  · by_cases h2 : n ≤ hi
    · have e : inB n lo hi = true := by simp [inB, h1, h2]
      rw [e]
      clear e
      go_enter Try.func84, Try.ntmps84
      go_wp2
      go_ret
      exact ⟨rfl, rfl⟩
    · have e : inB n lo hi = false := by simp [inB, h2]
      rw [e]
      clear e
      go_enter Try.func84, Try.ntmps84
      go_wp2
      go_ret
      exact ⟨rfl, rfl⟩
  · have e : inB n lo hi = false := by simp [inB, h1]
    rw [e]
    clear e
    go_enter Try.func84, Try.ntmps84
    go_wp2
    go_ret
    exact ⟨rfl, rfl⟩

theorem l02Bit_any (r : Int) (w : World) :
    Calls Try.prog 96 #[.int .i64 r] w fun e w' => e = .returned (.int .i64 (rowBit r)) ∧ w = w' := by
  rcases rowBit_cases r with h | h | h | h | h | h | h | h | h | h | h | h | h | h | h
  · rw [rowBit_out r (by omega)]
    go_enter Try.func96, Try.ntmps96
    go_wp2
    go_ret
    exact ⟨rfl, rfl⟩
  · subst h
    go_enter Try.func96, Try.ntmps96
    go_wp2
    go_ret
    exact ⟨rfl, rfl⟩
  · rw [rowBit_out r (by omega)]
    go_enter Try.func96, Try.ntmps96
    go_wp2
    go_ret
    exact ⟨rfl, rfl⟩
  all_goals
    subst h
    go_enter Try.func96, Try.ntmps96
    go_wp2
    go_ret
    exact ⟨rfl, rfl⟩
end Go.Proofs.Ytjfogadcedgndaa

/- spec.ValidCard and impl.ValidCard answer whether a card has 1 to 20 columns with numbers from 0 to 4095, for every card of at most 1048576 columns: contracts, of the functions that they call too. -/
namespace Go.Proofs.Ytjfogadcedgndaa
open Go.ChangeShapes Go.WideShapes Go.ChangeAt Go.RowKit

def maskB (x : Int) : Bool := inB x 0 4095
def legalB (xs : List Int) : Bool := xs.all maskB
def okB (xs : List Int) : Bool := legalB xs && inB xs.length 1 20

theorem legalB_take (xs : List Int) (k : Nat) (hk : k < xs.length) : legalB (xs.take (k + 1)) = (legalB (xs.take k) && maskB (xs[k]?.getD 0)) := by
  rw [legalB, legalB, List.take_succ_eq_append_getElem hk, List.getElem?_eq_getElem hk, List.all_append, List.all_cons, List.all_nil, Bool.and_true]
  rfl
theorem legalB_bad (xs : List Int) (k : Nat) (hk : k < xs.length) (h : maskB (xs[k]?.getD 0) = false) : legalB xs = false := by
  rw [List.getElem?_eq_getElem hk] at h
  rw [legalB, List.all_eq_false]
  exact ⟨xs[k], List.getElem_mem hk, by simpa using h⟩

theorem l02Ok_any (A : Option Addr) (c : Nat) (xs : List Int) (B : Nat) (p o : Nat) (w : World) (hp : w.cell? ⟨p, o, none⟩ = some (.slice A xs.length c)) (h : Ints w B A xs) (hn : xs.length ≤ 1048576) :
    Calls Try.prog 57 #[.pointer (some ⟨p, o, none⟩)] w fun e w' => e = .returned (.bool (okB xs)) ∧ w = w' := by
  obtain ⟨n, hN⟩ : ∃ n, xs.length = n := ⟨_, rfl⟩
  obtain ⟨r, hr⟩ : ∃ r, okB xs = r := ⟨_, rfl⟩
  rw [hr]
  rw [hN] at hn hp
  have H := Lib.hid h
  have HN := Lib.hid hN
  have HR := Lib.hid hr
  clear h hN hr
  go_enter Try.func57, Try.ntmps57
  go_wp2
  go_loop [3] (fun i => ∃ k : Nat, k ≤ n ∧ i = .int .i64 k ∧ Hid (legalB (xs.take k) = true)) (fun i => n - (intOf i).toNat)
  case atStart => exact ⟨0, Nat.zero_le _, rfl, rfl⟩
  case round =>
    obtain ⟨k, hk, rfl, HK⟩ := hrel
    by_cases hlt : k < n
    · have hx : k < xs.length := by rw [HN.out]; exact hlt
      obtain ⟨b, off, rfl, hb, hcell⟩ := H.out (by omega)
      have h1 := hcell k hx
      obtain ⟨x, hxx⟩ : ∃ x, xs[k]?.getD 0 = x := ⟨_, rfl⟩
      rw [hxx] at h1
      have Hx := Lib.hid hxx
      have hx' := Lib.hid hx
      clear hcell hxx hx H
      cases hm : inB x 0 4095
      · have hin : ∀ W, Calls Try.prog 84 #[.int .i64 x, .int .i64 0, .int .i64 4095] W fun e w' => e = .returned (.bool false) ∧ W = w' := fun W => by have := in_any x 0 4095 W; rwa [hm] at this
        have HI := Lib.hid hin
        obtain rfl : r = false := by rw [← HR.out, okB, legalB_bad xs k hx'.out (by rw [Hx.out]; exact hm)]; rfl
        clear hin hm
        go_wp2_with (go_at_call 84; refine (HI.out _).mono ?_; rintro e w' ⟨rfl, rfl⟩)
        go_ret
        exact ⟨rfl, rfl⟩
      · have hin : ∀ W, Calls Try.prog 84 #[.int .i64 x, .int .i64 0, .int .i64 4095] W fun e w' => e = .returned (.bool true) ∧ W = w' := fun W => by have := in_any x 0 4095 W; rwa [hm] at this
        have HI := Lib.hid hin
        have HK1 : Hid (legalB (xs.take (k + 1)) = true) := by
          show legalB (xs.take (k + 1)) = true
          rw [legalB_take xs k hx'.out, HK.out, Hx.out, maskB, hm]; rfl
        clear hin hm
        go_wp2_with (go_at_call 84; refine (HI.out _).mono ?_; rintro e w' ⟨rfl, rfl⟩)
        go_round
        case rel => exact ⟨k + 1, by omega, by go_num, HK1⟩
        case measure => simp [intOf]; omega
    · obtain rfl : k = n := by omega
      obtain rfl : r = inB k 1 20 := by
        rw [← HR.out, okB, HN.out]
        have := HK.out
        rw [List.take_of_length_le (by rw [HN.out]; omega)] at this
        rw [this, Bool.true_and]
      have HI := Lib.hid (in_any (k : Int) 1 20)
      go_wp2_with (go_at_call 84; refine (HI.out _).mono ?_; rintro e w' ⟨rfl, rfl⟩)
      go_ret
      exact ⟨rfl, rfl⟩

theorem okB_parts {xs : List Int} (h : okB xs = true) : legalB xs = true ∧ xs.length ≤ 20 := by
  rw [okB, Bool.and_eq_true] at h
  refine ⟨h.1, ?_⟩
  have := h.2
  simp [inB] at this
  omega
theorem legal_at {xs : List Int} (h : legalB xs = true) {j : Nat} (hj : j < xs.length) : 0 ≤ xs[j]?.getD 0 ∧ xs[j]?.getD 0 ≤ 4095 := by
  rw [List.getElem?_eq_getElem hj]
  have := List.all_eq_true.1 h xs[j] (List.getElem_mem hj)
  simpa [maskB, inB] using this

theorem specValidCard_any (A : Option Addr) (c : Nat) (xs : List Int) (B : Nat) (w : World) (h : Ints w B A xs) (hB : B ≤ w.heap.size) (hn : xs.length ≤ 1048576) :
    Calls Try.prog 14 #[.agg #[.slice A xs.length c]] w fun e w' => e = .returned (.bool (okB xs)) ∧ Below w.heap.size w w' := by
  have hc := l02Ok_any A c xs B w.heap.size 0 (w.alloc (.cells #[.slice A xs.length c] 26)) (by simp) (h.alloc hB _) hn
  have HC := Lib.hid hc
  clear hc h
  go_enter Try.func14, Try.ntmps14
  go_wp2_with fail
  refine HC.out.mono ?_
  rintro e w' ⟨rfl, rfl⟩
  go_wp2
  go_ret
  exact ⟨rfl, (Below.refl _ _).alloc (Nat.le_refl _) _⟩

theorem isMask_any (n : Int) (w : World) :
    Calls Try.prog 130 #[.int .i64 n] w fun e w' => e = .returned (.bool (inB n 0 4095)) ∧ w = w' := by
  by_cases h1 : 0 ≤ n
  · by_cases h2 : n ≤ 4095
    · have e : inB n 0 4095 = true := by simp [inB, h1, h2]
      rw [e]
      clear e
      go_enter Try.func130, Try.ntmps130
      go_wp2
      go_ret
      exact ⟨rfl, rfl⟩
    · have e : inB n 0 4095 = false := by simp [inB, h2]
      rw [e]
      clear e
      go_enter Try.func130, Try.ntmps130
      go_wp2
      go_ret
      exact ⟨rfl, rfl⟩
  · have e : inB n 0 4095 = false := by simp [inB, h1]
    rw [e]
    clear e
    go_enter Try.func130, Try.ntmps130
    go_wp2
    go_ret
    exact ⟨rfl, rfl⟩

theorem legal_any (A : Option Addr) (c : Nat) (xs : List Int) (B : Nat) (w : World) (h : Ints w B A xs) (hn : xs.length ≤ 1048576) :
    Calls Try.prog 124 #[.slice A xs.length c] w fun e w' => e = .returned (.bool (legalB xs)) ∧ w = w' := by
  obtain ⟨n, hN⟩ : ∃ n, xs.length = n := ⟨_, rfl⟩
  obtain ⟨r, hr⟩ : ∃ r, legalB xs = r := ⟨_, rfl⟩
  rw [hr]
  rw [hN] at hn ⊢
  have H := Lib.hid h
  have HN := Lib.hid hN
  have HR := Lib.hid hr
  clear h hN hr
  go_enter Try.func124, Try.ntmps124
  go_wp2
  go_loop [7] (fun i => ∃ k : Nat, k ≤ n ∧ i = .int .i64 k ∧ Hid (legalB (xs.take k) = true)) (fun i => n - (intOf i).toNat)
  case atStart => exact ⟨0, Nat.zero_le _, rfl, rfl⟩
  case round =>
    obtain ⟨k, hk, rfl, HK⟩ := hrel
    by_cases hlt : k < n
    · have hx : k < xs.length := by rw [HN.out]; exact hlt
      obtain ⟨b, off, rfl, hb, hcell⟩ := H.out (by omega)
      have h1 := hcell k hx
      obtain ⟨x, hxx⟩ : ∃ x, xs[k]?.getD 0 = x := ⟨_, rfl⟩
      rw [hxx] at h1
      have Hx := Lib.hid hxx
      have hx' := Lib.hid hx
      clear hcell hxx hx H
      cases hm : inB x 0 4095
      · have hin : ∀ W, Calls Try.prog 130 #[.int .i64 x] W fun e w' => e = .returned (.bool false) ∧ W = w' := fun W => by have := isMask_any x W; rwa [hm] at this
        have HI := Lib.hid hin
        obtain rfl : r = false := by rw [← HR.out, legalB_bad xs k hx'.out (by rw [Hx.out]; exact hm)]
        clear hin hm
        go_wp2_with (go_at_call 130; refine (HI.out _).mono ?_; rintro e w' ⟨rfl, rfl⟩)
        go_ret
        exact ⟨rfl, rfl⟩
      · have hin : ∀ W, Calls Try.prog 130 #[.int .i64 x] W fun e w' => e = .returned (.bool true) ∧ W = w' := fun W => by have := isMask_any x W; rwa [hm] at this
        have HI := Lib.hid hin
        have HK1 : Hid (legalB (xs.take (k + 1)) = true) := by
          show legalB (xs.take (k + 1)) = true
          rw [legalB_take xs k hx'.out, HK.out, Hx.out, maskB, hm]; rfl
        clear hin hm
        go_wp2_with (go_at_call 130; refine (HI.out _).mono ?_; rintro e w' ⟨rfl, rfl⟩)
        go_round
        case rel => exact ⟨k + 1, by omega, by go_num, HK1⟩
        case measure => simp [intOf]; omega
    · obtain rfl : k = n := by omega
      obtain rfl : r = true := by
        rw [← HR.out]
        have := HK.out
        rwa [List.take_of_length_le (by rw [HN.out]; omega)] at this
      go_wp2
      go_ret
      exact ⟨rfl, rfl⟩

theorem isWidth_any (n : Int) (w : World) :
    Calls Try.prog 58 #[.int .i64 n] w fun e w' => e = .returned (.bool (inB n 1 20)) ∧ w = w' := by
  by_cases h1 : 1 ≤ n
  · by_cases h2 : n ≤ 20
    · have e : inB n 1 20 = true := by simp [inB, h1, h2]
      rw [e]
      clear e
      go_enter Try.func58, Try.ntmps58
      go_wp2
      go_ret
      exact ⟨rfl, rfl⟩
    · have e : inB n 1 20 = false := by simp [inB, h2]
      rw [e]
      clear e
      go_enter Try.func58, Try.ntmps58
      go_wp2
      go_ret
      exact ⟨rfl, rfl⟩
  · have e : inB n 1 20 = false := by simp [inB, h1]
    rw [e]
    clear e
    go_enter Try.func58, Try.ntmps58
    go_wp2
    go_ret
    exact ⟨rfl, rfl⟩

theorem shape_any (A : Option Addr) (c : Nat) (xs : List Int) (B : Nat) (w : World) (h : Ints w B A xs) (hB : B ≤ w.heap.size) (hn : xs.length ≤ 1048576) :
    Calls Try.prog 99 #[.slice A xs.length c] w fun e w' => e = .returned (.agg #[.int .i64 xs.length, .bool (okB xs)]) ∧ Below w.heap.size w w' := by
  obtain ⟨n, hN⟩ : ∃ n, xs.length = n := ⟨_, rfl⟩
  cases hw : inB (xs.length : Int) 1 20
  · have hr : okB xs = false := by rw [okB, hw, Bool.and_false]
    rw [hr]
    have hi := isWidth_any (xs.length : Int)
    rw [hw] at hi
    rw [hN] at hi hn ⊢
    have HI := Lib.hid hi
    clear hw hr hi hN h
    go_enter Try.func99, Try.ntmps99
    go_wp2_with (go_at_call 58; refine (HI.out _).mono ?_; rintro e w' ⟨rfl, rfl⟩)
    refine bodyPost_ret (v := .agg #[.int .i64 n, .bool false]) (by simp [results, Try.results99, go_sem]) rfl ⟨rfl, ?_⟩
    exact ((Below.refl _ _).alloc (Nat.le_refl _) _)
  · obtain ⟨r, hr⟩ : ∃ r, legalB xs = r := ⟨_, rfl⟩
    have hr' : okB xs = r := by rw [okB, hw, Bool.and_true, hr]
    rw [hr']
    have hi := isWidth_any (xs.length : Int)
    rw [hw] at hi
    have hl := fun W hh => legal_any A c xs B W hh hn
    rw [hr, hN] at hl
    rw [hN] at hi hn ⊢
    have HI := Lib.hid hi
    have HL := Lib.hid hl
    have H := Lib.hid h
    clear hw hr hi hl hN h hr'
    go_enter Try.func99, Try.ntmps99
    go_wp2_with (first | (go_at_call 58; refine (HI.out _).mono ?_; rintro e w' ⟨rfl, rfl⟩) | (go_at_call 124; refine (HL.out _ ?_).mono ?_; (exact H.out.alloc hB _); rintro e w' ⟨rfl, rfl⟩))
    refine bodyPost_ret (v := .agg #[.int .i64 n, .bool r]) (by simp [results, Try.results99, go_sem]) rfl ⟨rfl, ?_⟩
    exact ((Below.refl _ _).alloc (Nat.le_refl _) _)

theorem implValidCard_any (A : Option Addr) (c : Nat) (xs : List Int) (B : Nat) (w : World) (h : Ints w B A xs) (hB : B ≤ w.heap.size) (hn : xs.length ≤ 1048576) :
    Calls Try.prog 55 #[.agg #[.slice A xs.length c]] w fun e w' => e = .returned (.bool (okB xs)) ∧ Below w.heap.size w w' := by
  have hc := shape_any A c xs B (w.alloc (.cells #[.slice A xs.length c] 26)) (h.alloc hB _) (by simp; omega) hn
  obtain ⟨r, hr⟩ : ∃ r, okB xs = r := ⟨_, rfl⟩
  obtain ⟨n, hN⟩ : ∃ n, xs.length = n := ⟨_, rfl⟩
  rw [hr, hN] at hc
  rw [hr, hN]
  have HC := Lib.hid hc
  clear hc h hr hN hn
  have hfd : ∀ W : World, (Instr.field 124 (.agg #[.int .i64 n, .bool r]) 1).run Try.prog W = .ok (.bool r) W := fun _ => by kernel_rfl
  go_enter Try.func55, Try.ntmps55
  go_wp2_with fail
  refine HC.out.mono ?_
  rintro e w' ⟨rfl, hb⟩
  have HB := Lib.hid hb
  clear hb HC
  go_wp2
  go_ret
  exact ⟨rfl, ((Below.refl _ _).alloc (Nat.le_refl _) _).trans (HB.out.mono (by simp))⟩
end Go.Proofs.Ytjfogadcedgndaa
