/- impl.dial sets wheels by a text, or answers why not: contracts, of impl.isNoDigit too. Condition: the two errors lie in their variables. -/
import Derived.Test.YtkiphejkgpfjjaaDoorCntRow
import Derived.Stop.LaidTwo
import Derived.Stop.IfaceNil
import Derived.Test.YtkiphejkgpfjjaaDoorShelf
import Derived.Laws.RangeAny
import Derived.Shelf.GgClosure.StringsRunes
namespace Go.Proofs.YtkiphejkgpfjjaaDoor
open Go.ChangeShapes Go.WideShapes Go.ChangeAt Go.RowKit

/-- Variable g holds an error of errors.New's make, at address a. -/
def SentK (w : World) (g : Nat) (a : Addr) : Prop :=
  w.cell? ⟨g, 0, none⟩ = some (.iface 149 (.pointer (some a))) ∧ ∃ c t, w.heap[a.block]? = some (.cells c t (0, 0))
theorem SentK.below {w w' : World} {g : Nat} {a : Addr} (h : SentK w g a) (hb : Below w.heap.size w w') : SentK w' g a := by
  obtain ⟨hc, c, t, hr⟩ := h
  refine ⟨?_, c, t, ?_⟩
  · rw [hb.cell (World.block_lt_of_cell? _ _ hc)]
    exact hc
  · rw [hb.block a.block (Array.getElem?_eq_some_iff.1 hr).1]
    exact hr

theorem below_set0 {B : Nat} {a w : World} (h : Below B a w) (o : Nat) (u : Value) : Below B a (w.setCell ⟨B, o, none⟩ u) := h.setCell (Nat.le_refl _) u

/-- whether a byte or a rune is a digit -/
def digC (c : Nat) : Bool := decide (48 ≤ c) && decide (c ≤ 57)
/-- whether the first k bytes are digits -/
def digsTo (s : ByteArray) (k : Nat) : Bool := (List.range k).all fun i => digC (s.get! i).toNat
theorem digsTo_succ (s : ByteArray) (k : Nat) : digsTo s (k + 1) = (digsTo s k && digC (s.get! k).toNat) := by
  simp [digsTo, List.range_succ]
theorem digsTo_bad (s : ByteArray) (k n : Nat) (hk : k < n) (h : digC (s.get! k).toNat = false) : digsTo s n = false := by
  rw [digsTo, List.all_eq_false]
  exact ⟨k, by simpa using hk, by simpa using h⟩
theorem digsTo_at {s : ByteArray} {n : Nat} (h : digsTo s n = true) {k : Nat} (hk : k < n) : digC (s.get! k).toNat = true := by
  cases hc : digC (s.get! k).toNat
  · rw [digsTo_bad s k n hk hc] at h; cases h
  · rfl
theorem byte_get (s : ByteArray) (k : Nat) (h : k < s.size) : s.get! k = s[k]'h := by
  show s.data[k]! = _
  simp [getElem!_pos, h]
  rfl
theorem digC_high (r : Nat) (h : 128 ≤ r) : digC r = false := by
  have : ¬ r ≤ 57 := by omega
  simp [digC, this]
def noDigC (c : Nat) : Bool := !digC c
theorem idx_digs (s : ByteArray) : ∀ (f pos : Nat), s.size ≤ pos + f → pos ≤ s.size → digsTo s pos = true →
    decide (0 ≤ Lib.idxFuncFrom noDigC true s f pos) = !digsTo s s.size
  | 0, pos, h1, h2, hl => by
    obtain rfl : pos = s.size := by omega
    rw [hl]; rfl
  | f + 1, pos, h1, h2, hl => by
    unfold Lib.idxFuncFrom
    by_cases hlt : pos < s.size
    · have hge := byte_get s pos hlt
      rw [if_pos hlt]
      by_cases ha : (s[pos]'hlt).toNat < 128
      · have hd := decode_ascii s pos hlt ha
        rw [hd]
        cases hm : digC (s[pos]'hlt).toNat
        · rw [if_pos (by simp [noDigC, hm]), digsTo_bad s pos s.size hlt (by rw [hge]; exact hm)]
          simp
        · rw [if_neg (by simp [noDigC, hm])]
          exact idx_digs s f (pos + 1) (by omega) (by omega) (by rw [digsTo_succ, hl, hge, hm]; rfl)
      · have hd := decode_high s pos hlt (by omega)
        rw [if_pos (by rw [noDigC, digC_high _ hd.1]; rfl), digsTo_bad s pos s.size hlt (by rw [hge]; exact digC_high _ (by omega))]
        simp
    · obtain rfl : pos = s.size := by omega
      rw [if_neg hlt, hl]; rfl
theorem idx_digs0 (s : ByteArray) : decide (0 ≤ Lib.idxFunc noDigC true s) = !digsTo s s.size :=
  idx_digs s s.size 0 (by omega) (Nat.zero_le _) rfl

theorem isNoDigit_any (c : Nat) (w : World) : Calls Tryd.prog 57 #[.int .i32 c] w fun e w' => e = .returned (.bool (noDigC c)) ∧ w = w' := by
  by_cases h1 : (c : Int) < 48
  · have e : noDigC c = true := by simp [noDigC, digC]; omega
    rw [e]
    clear e
    go_enter Tryd.func57, Tryd.ntmps57
    go_wp2
    go_ret
    exact ⟨rfl, rfl⟩
  · by_cases h2 : (57 : Int) < (c : Int)
    · have e : noDigC c = true := by simp [noDigC, digC]; omega
      rw [e]
      clear e
      go_enter Tryd.func57, Tryd.ntmps57
      go_wp2
      go_ret
      exact ⟨rfl, rfl⟩
    · have e : noDigC c = false := by simp [noDigC, digC]; omega
      rw [e]
      clear e
      go_enter Tryd.func57, Tryd.ntmps57
      go_wp2
      go_ret
      exact ⟨rfl, rfl⟩

/-- the digits of a text, the last one first -/
def textD (s : ByteArray) : List Int := (List.range s.size).map fun i => ((s.get! (s.size - 1 - i)).toNat : Int) - 48
theorem textD_length (s : ByteArray) : (textD s).length = s.size := by simp [textD]
theorem textD_at (s : ByteArray) (i : Nat) (h : i < s.size) : (textD s)[i]? = some (((s.get! (s.size - 1 - i)).toNat : Int) - 48) := by simp [textD, h]
theorem textD_wheels {s : ByteArray} (h : digsTo s s.size = true) : wheelsB (textD s) = true := by
  rw [wheelsB, List.all_eq_true]
  intro x hx
  obtain ⟨i, hi, rfl⟩ := List.mem_map.1 hx
  have hi' : i < s.size := by simpa using hi
  have := digsTo_at h (show s.size - 1 - i < s.size by omega)
  simp [digC] at this
  simp [digB, inB]
  omega
/-- what the wheels show after all but the first j bytes -/
def dialTo (s : ByteArray) (j : Nat) : List Int := reg12 (List.replicate j 0 ++ (textD s).drop j)
theorem dialTo_len (s : ByteArray) (j : Nat) (h : j ≤ s.size) : (List.replicate j (0 : Int) ++ (textD s).drop j).length = s.size := by simp [textD_length]; omega
theorem dialTo_length {s : ByteArray} {j : Nat} (h : j ≤ s.size) (h12 : s.size ≤ 12) : (dialTo s j).length = 12 := reg12_length (by rw [dialTo_len s j h]; exact h12)
theorem dialTo_start (s : ByteArray) (h12 : s.size ≤ 12) : dialTo s s.size = reg12 [] := by
  rw [dialTo, List.drop_of_length_le (by rw [textD_length]; exact Nat.le_refl _), List.append_nil]
  simp only [reg12, List.length_replicate, List.replicate_append_replicate, List.length_nil, List.nil_append]
  congr 1
  omega
theorem dialTo_end (s : ByteArray) : dialTo s 0 = reg12 (textD s) := by simp [dialTo]
theorem dialTo_step (s : ByteArray) (t : Nat) (h : t < s.size) : (dialTo s (t + 1)).set t (((s.get! (s.size - 1 - t)).toNat : Int) - 48) = dialTo s t := by
  have h1 : (List.replicate (t + 1) (0 : Int) ++ (textD s).drop (t + 1)).length = (List.replicate t (0 : Int) ++ (textD s).drop t).length := by rw [dialTo_len s _ h, dialTo_len s _ (by omega)]
  have ht : t < (textD s).length := by rw [textD_length]; exact h
  have h3 : (textD s).drop t = (((s.get! (s.size - 1 - t)).toNat : Int) - 48) :: (textD s).drop (t + 1) := by
    rw [List.drop_eq_getElem_cons ht]
    congr 1
    have := textD_at s t h
    rw [List.getElem?_eq_getElem ht] at this
    exact Option.some.inj this
  rw [dialTo, dialTo, reg12, reg12, h1]
  generalize 12 - (List.replicate t (0 : Int) ++ (textD s).drop t).length = r
  rw [h3, List.replicate_succ', List.append_assoc, List.append_assoc, List.set_append_right _ _ (by simp), List.length_replicate, Nat.sub_self, List.singleton_append, List.set_cons_zero]
  simp

/-- the wheels that a text sets -/
def dialL (s : ByteArray) (n : Nat) : List Int := textD s ++ List.replicate (n - s.size) 0
theorem dialL_length {s : ByteArray} {n : Nat} (h : s.size ≤ n) : (dialL s n).length = n := by simp [dialL, textD_length]; omega
theorem dialL_wheels {s : ByteArray} {n : Nat} (h : digsTo s s.size = true) : wheelsB (dialL s n) = true := by
  have h1 := textD_wheels h
  rw [dialL, wheelsB, List.all_append, ← wheelsB, h1, Bool.true_and, List.all_eq_true]
  intro x hx
  rw [(List.mem_replicate.1 hx).2]
  rfl
theorem dialL_reg {s : ByteArray} {n : Nat} (h : s.size ≤ n) (h12 : n ≤ 12) : reg12 (dialL s n) = reg12 (textD s) := by
  simp only [reg12, dialL, List.length_append, List.length_replicate, textD_length, List.append_assoc, List.replicate_append_replicate]
  congr 2
  omega
/-- 0: the text sets the wheels; 1: a wrong number of wheels, or no digits; 2: too many digits -/
def dialK (x : Int) (s : ByteArray) : Nat := if inB x 1 12 = false then 1 else if digsTo s s.size = false then 1 else if x < s.size then 2 else 0
theorem dialK_cases (x : Int) (s : ByteArray) : (dialK x s = 1 ∧ inB x 1 12 = false) ∨ (dialK x s = 1 ∧ inB x 1 12 = true ∧ digsTo s s.size = false) ∨ (dialK x s = 2 ∧ inB x 1 12 = true ∧ digsTo s s.size = true ∧ x < s.size) ∨ (dialK x s = 0 ∧ inB x 1 12 = true ∧ digsTo s s.size = true ∧ (s.size : Int) ≤ x) := by
  unfold dialK
  cases inB x 1 12 <;> cases digsTo s s.size <;> by_cases h : x < (s.size : Int) <;> simp [h] <;> omega
/-- what dial answers -/
def GivesDial (x : Int) (s : ByteArray) (w : World) (e : Ending) (w' : World) : Prop :=
  Below w.heap.size w w' ∧ ((dialK x s = 0 ∧ e = .returned (.tuple #[.agg (regV (reg12 (dialL s x.toNat)) x.toNat), .nilIface])) ∨
    (dialK x s = 1 ∧ ∃ a, e = .returned (.tuple #[.agg (regV (reg12 []) 0), .iface 149 (.pointer (some a))])) ∨
    (dialK x s = 2 ∧ e = .returned (.tuple #[.agg (regV (reg12 []) 0), .iface 58 (.agg #[.int .i64 s.size, .int .i64 x])])))
/-- the two errors in memory -/
structure DialErrs (w : World) (aW aS : Addr) : Prop where
  wheels : SentK w 0 aW
  sign : SentK w 1 aS
theorem DialErrs.below {w w' : World} {aW aS : Addr} (h : DialErrs w aW aS) (hb : Below w.heap.size w w') : DialErrs w' aW aS := ⟨h.wheels.below hb, h.sign.below hb⟩

set_option maxRecDepth 100000 in
set_option maxHeartbeats 4000000 in
theorem dial_any (x : Int) (s : ByteArray) (hs : s.size ≤ 1048576) (aW aS : Addr) (w : World) (hD : DialErrs w aW aS) :
    Calls Tryd.prog 31 #[.int .i64 x, .string s] w (GivesDial x s w) := by
  have hi := fun W => isWheels_any x W
  have hcf := fun W => Tryd.strings_ContainsFunc_runes 57 #[] (fun args w => by kernel_rfl) noDigC s W (fun W x _ _ => (isNoDigit_any x W).mono fun _ _ h => ⟨h.1, 0, h.2.symm⟩)
  simp only [idx_digs0] at hcf
  have e1 := below_box w (.cells #[Value.int .i8 0, Value.int .i8 0, Value.int .i8 0, Value.int .i8 0, Value.int .i8 0, Value.int .i8 0, Value.int .i8 0, Value.int .i8 0, Value.int .i8 0, Value.int .i8 0, Value.int .i8 0, Value.int .i8 0, Value.int .i64 0] 51)
  have r0 : (w.alloc (.cells #[Value.int .i8 0, Value.int .i8 0, Value.int .i8 0, Value.int .i8 0, Value.int .i8 0, Value.int .i8 0, Value.int .i8 0, Value.int .i8 0, Value.int .i8 0, Value.int .i8 0, Value.int .i8 0, Value.int .i8 0, Value.int .i64 0] 51)).heap[w.heap.size]? = some (.cells #[Value.int .i8 0, Value.int .i8 0, Value.int .i8 0, Value.int .i8 0, Value.int .i8 0, Value.int .i8 0, Value.int .i8 0, Value.int .i8 0, Value.int .i8 0, Value.int .i8 0, Value.int .i8 0, Value.int .i8 0, Value.int .i64 0] 51 (0, 0)) := heap_alloc_new w _
  have hD1 := hD.below e1
  have hz : (regV (reg12 []) 0) = #[Value.int .i8 0, Value.int .i8 0, Value.int .i8 0, Value.int .i8 0, Value.int .i8 0, Value.int .i8 0, Value.int .i8 0, Value.int .i8 0, Value.int .i8 0, Value.int .i8 0, Value.int .i8 0, Value.int .i8 0, Value.int .i64 0] := regV_zero 0
  rcases dialK_cases x s with ⟨e', hv⟩ | ⟨e', hv, hd⟩ | ⟨e', hv, hd, hl⟩ | ⟨e', hv, hd, hl⟩
  · rw [hv] at hi
    have HI := Lib.hid hi
    have g0 := hD1.wheels.1
    have hF : Hid (∀ W, Below w.heap.size w W → GivesDial x s w (.returned (.tuple #[.agg #[Value.int .i8 0, Value.int .i8 0, Value.int .i8 0, Value.int .i8 0, Value.int .i8 0, Value.int .i8 0, Value.int .i8 0, Value.int .i8 0, Value.int .i8 0, Value.int .i8 0, Value.int .i8 0, Value.int .i8 0, Value.int .i64 0], .iface 149 (.pointer (some aW))])) W) :=
      fun W hW => ⟨hW, Or.inr (Or.inl ⟨e', aW, by rw [hz]⟩)⟩
    have E1 := Lib.hid e1
    clear hi hv e' hcf e1 r0 hD hD1 hz
    go_enter Tryd.func31, Tryd.ntmps31
    go_wp2_with (go_at_call 55; refine (HI.out _).mono ?_; rintro e w' ⟨rfl, rfl⟩)
    go_region
    all_goals
      go_wp2
      exact bodyPost_ret (v := .tuple #[.agg #[Value.int .i8 0, Value.int .i8 0, Value.int .i8 0, Value.int .i8 0, Value.int .i8 0, Value.int .i8 0, Value.int .i8 0, Value.int .i8 0, Value.int .i8 0, Value.int .i8 0, Value.int .i8 0, Value.int .i8 0, Value.int .i64 0], .iface 149 (.pointer (some aW))]) (by simp [results, Tryd.results31, go_sem]) rfl (hF.out _ E1.out.drew)
  · rw [hv] at hi
    rw [hd] at hcf
    simp only [Bool.not_false] at hcf
    have HI := Lib.hid hi
    have HC := Lib.hid hcf
    have hF : Hid (∀ W, Below w.heap.size w W → GivesDial x s w (.returned (.tuple #[.agg #[Value.int .i8 0, Value.int .i8 0, Value.int .i8 0, Value.int .i8 0, Value.int .i8 0, Value.int .i8 0, Value.int .i8 0, Value.int .i8 0, Value.int .i8 0, Value.int .i8 0, Value.int .i8 0, Value.int .i8 0, Value.int .i64 0], .iface 149 (.pointer (some aS))])) W) :=
      fun W hW => ⟨hW, Or.inr (Or.inl ⟨e', aS, by rw [hz]⟩)⟩
    have E1 := Lib.hid e1
    have HD1 := Lib.hid hD1
    have HD0 := Lib.hid hD
    have HR0 := Lib.hid r0
    have HZ := Lib.hid hz
    clear hi hv e' hcf e1 r0 hD hD1 hz hd
    go_enter Tryd.func31, Tryd.ntmps31
    go_wp2_with (first | (go_at_call 55; refine (HI.out _).mono ?_; rintro e w' ⟨rfl, rfl⟩) | fail)
    refine (HC.out _).mono ?_
    rintro e w1 ⟨rfl, hb⟩
    have B1 := Lib.hid (below_step E1.out hb)
    have g0 := (HD1.out.below hb).sign.1
    have hr1 : RegRow w1 w.heap.size (reg12 []) 0 := by
      unfold RegRow
      rw [HZ.out]
      exact (hb.block w.heap.size (by simp)).trans HR0.out
    have k0 := hr1.cell (i := 0) (by simp [reg12])
    have z0 := hr1.frozen 0
    have k1 := hr1.cell (i := 1) (by simp [reg12])
    have z1 := hr1.frozen 1
    have k2 := hr1.cell (i := 2) (by simp [reg12])
    have z2 := hr1.frozen 2
    have k3 := hr1.cell (i := 3) (by simp [reg12])
    have z3 := hr1.frozen 3
    have k4 := hr1.cell (i := 4) (by simp [reg12])
    have z4 := hr1.frozen 4
    have k5 := hr1.cell (i := 5) (by simp [reg12])
    have z5 := hr1.frozen 5
    have k6 := hr1.cell (i := 6) (by simp [reg12])
    have z6 := hr1.frozen 6
    have k7 := hr1.cell (i := 7) (by simp [reg12])
    have z7 := hr1.frozen 7
    have k8 := hr1.cell (i := 8) (by simp [reg12])
    have z8 := hr1.frozen 8
    have k9 := hr1.cell (i := 9) (by simp [reg12])
    have z9 := hr1.frozen 9
    have k10 := hr1.cell (i := 10) (by simp [reg12])
    have z10 := hr1.frozen 10
    have k11 := hr1.cell (i := 11) (by simp [reg12])
    have z11 := hr1.frozen 11
    have k12 := hr1.count (by simp [reg12])
    have z12 := hr1.frozen 12
    simp only [reg12, List.length_nil, Nat.sub_zero, List.nil_append] at k0 k1 k2 k3 k4 k5 k6 k7 k8 k9 k10 k11
    simp at k0 k1 k2 k3 k4 k5 k6 k7 k8 k9 k10 k11 k12
    have hne : ¬ 1 = w.heap.size := fun e => by have h1 := World.block_lt_of_cell? _ _ HD0.out.sign.1; have h2 : 1 < w.heap.size := h1; omega
    have g1 : (w1.setCell ⟨w.heap.size, 0, none⟩ (.int .i8 0)).cell? ⟨1, 0, none⟩ = some (.iface 149 (.pointer (some aS))) := by
      rw [World.cell?_of_block (Below.heap_setCell w1 _ _ _ (by show 1 ≠ w.heap.size; exact hne))]
      exact g0
    clear hb hr1
    go_wp2
    go_region
    all_goals
      go_wp2
      refine bodyPost_ret (v := .tuple #[.agg #[Value.int .i8 0, Value.int .i8 0, Value.int .i8 0, Value.int .i8 0, Value.int .i8 0, Value.int .i8 0, Value.int .i8 0, Value.int .i8 0, Value.int .i8 0, Value.int .i8 0, Value.int .i8 0, Value.int .i8 0, Value.int .i64 0], .iface 149 (.pointer (some aS))]) (by simp [results, Tryd.results31, go_sem, k0, k1, k2, k3, k4, k5, k6, k7, k8, k9, k10, k11, k12]) rfl (hF.out _ ?_)
      refine Below.drew ?_
      iterate 13 refine below_set0 ?_ _ _
      exact B1.out
  · rw [hv] at hi
    rw [hd] at hcf
    simp only [Bool.not_true] at hcf
    have HI := Lib.hid hi
    have HC := Lib.hid hcf
    have hF : Hid (∀ W, Below w.heap.size w W → GivesDial x s w (.returned (.tuple #[.agg #[Value.int .i8 0, Value.int .i8 0, Value.int .i8 0, Value.int .i8 0, Value.int .i8 0, Value.int .i8 0, Value.int .i8 0, Value.int .i8 0, Value.int .i8 0, Value.int .i8 0, Value.int .i8 0, Value.int .i8 0, Value.int .i64 0], .iface 58 (.agg #[.int .i64 s.size, .int .i64 x])])) W) :=
      fun W hW => ⟨hW, Or.inr (Or.inr ⟨e', by rw [hz]⟩)⟩
    have E1 := Lib.hid e1
    have HR0 := Lib.hid r0
    have hiZ : (Tryd.prog.info? 51).map (·.size) = some (#[Value.int .i8 0, Value.int .i8 0, Value.int .i8 0, Value.int .i8 0, Value.int .i8 0, Value.int .i8 0, Value.int .i8 0, Value.int .i8 0, Value.int .i8 0, Value.int .i8 0, Value.int .i8 0, Value.int .i8 0, Value.int .i64 0] : Array Value).size := info_reg
    have hzo : (#[Value.int .i8 0, Value.int .i8 0, Value.int .i8 0, Value.int .i8 0, Value.int .i8 0, Value.int .i8 0, Value.int .i8 0, Value.int .i8 0, Value.int .i8 0, Value.int .i8 0, Value.int .i8 0, Value.int .i8 0, Value.int .i64 0] : Array Value).all (·.oneCell') = true := by rw [← hz]; exact reg_one
    have HIZ := Lib.hid hiZ
    have HZO := Lib.hid hzo
    clear hi hv e' hcf e1 r0 hD hD1 hz hd hiZ hzo
    go_enter Tryd.func31, Tryd.ntmps31
    go_wp2_with (first | (go_at_call 55; refine (HI.out _).mono ?_; rintro e w' ⟨rfl, rfl⟩) | fail)
    refine (HC.out _).mono ?_
    rintro e w1 ⟨rfl, hb⟩
    have B1 := Lib.hid (below_step E1.out hb)
    have H1 := Lib.hid ((hb.block w.heap.size (by simp)).trans HR0.out)
    clear hb
    go_wp2_with (refine wpList_store_row rfl 51 (.tmp 4) (.tmp 23) rfl w.heap.size #[Value.int .i8 0, Value.int .i8 0, Value.int .i8 0, Value.int .i8 0, Value.int .i8 0, Value.int .i8 0, Value.int .i8 0, Value.int .i8 0, Value.int .i8 0, Value.int .i8 0, Value.int .i8 0, Value.int .i8 0, Value.int .i64 0] rfl rfl _ _ H1.out HIZ.out rfl HZO.out ?_)
    exact bodyPost_ret (v := .tuple #[.agg #[Value.int .i8 0, Value.int .i8 0, Value.int .i8 0, Value.int .i8 0, Value.int .i8 0, Value.int .i8 0, Value.int .i8 0, Value.int .i8 0, Value.int .i8 0, Value.int .i8 0, Value.int .i8 0, Value.int .i8 0, Value.int .i64 0], .iface 58 (.agg #[.int .i64 s.size, .int .i64 x])]) (results_cell_slot rfl _ _ w.heap.size 51 _ (0, 0) _ _ rfl rfl (setRow_same _ H1.out) Tryd.underlying51 rfl HIZ.out) rfl (hF.out _ (setRow_below B1.out (Nat.le_refl _) _))
  · rw [hv] at hi
    rw [hd] at hcf
    simp only [Bool.not_true] at hcf
    have hx12 : 1 ≤ x ∧ x ≤ 12 := by simpa [inB] using hv
    obtain ⟨n, rfl⟩ : ∃ n : Nat, x = n := ⟨x.toNat, by omega⟩
    have hsn : s.size ≤ n := by omega
    have hn : n ≤ 12 := by omega
    have HI := Lib.hid hi
    have HC := Lib.hid hcf
    have hF : Hid (∀ W, Below w.heap.size w W → GivesDial n s w (.returned (.tuple #[.agg (regV (reg12 (textD s)) n), .nilIface])) W) :=
      fun W hW => ⟨hW, Or.inl ⟨e', by rw [Int.toNat_natCast, dialL_reg hsn hn]⟩⟩
    have E1 := Lib.hid e1
    have HR0 := Lib.hid r0
    have HDG := Lib.hid hd
    have HN := Lib.hid hn
    have HSN := Lib.hid hsn
    have hl1 : ¬ (n : Int) < (s.size : Int) := by omega
    clear hi hv e' hcf e1 r0 hD hD1 hz hd hl hx12
    go_enter Tryd.func31, Tryd.ntmps31
    go_wp2_with (first | (go_at_call 55; refine (HI.out _).mono ?_; rintro e w' ⟨rfl, rfl⟩) | fail)
    refine (HC.out _).mono ?_
    rintro e w1 ⟨rfl, hb⟩
    have B1 := Lib.hid (below_step E1.out hb)
    have H1 := Lib.hid ((hb.block w.heap.size (by simp)).trans HR0.out)
    have HLT : Hid (w.heap.size < w1.heap.size) := Nat.lt_of_lt_of_le (by simp) hb.size
    clear hb
    go_wp2
    have R1 : Hid (RegRow (w1.alloc (.cells #[Value.int .i8 0, Value.int .i8 0, Value.int .i8 0, Value.int .i8 0, Value.int .i8 0, Value.int .i8 0, Value.int .i8 0, Value.int .i8 0, Value.int .i8 0, Value.int .i8 0, Value.int .i8 0, Value.int .i8 0, Value.int .i64 n] 51)) w1.heap.size (dialTo s s.size) n) := by
      have := RegRow.new w1 (reg12 []) n
      rw [regV_zero] at this
      show RegRow _ _ _ _
      rw [dialTo_start s (Nat.le_trans HSN.out HN.out)]
      exact this
    have H2 : Hid ((w1.alloc (.cells #[Value.int .i8 0, Value.int .i8 0, Value.int .i8 0, Value.int .i8 0, Value.int .i8 0, Value.int .i8 0, Value.int .i8 0, Value.int .i8 0, Value.int .i8 0, Value.int .i8 0, Value.int .i8 0, Value.int .i8 0, Value.int .i64 n] 51)).heap[w.heap.size]? = some (.cells #[Value.int .i8 0, Value.int .i8 0, Value.int .i8 0, Value.int .i8 0, Value.int .i8 0, Value.int .i8 0, Value.int .i8 0, Value.int .i8 0, Value.int .i8 0, Value.int .i8 0, Value.int .i8 0, Value.int .i8 0, Value.int .i64 0] 51 (0, 0))) := (Below.heap_alloc w1 _ _ HLT.out).trans H1.out
    have B2 : Hid (Below w.heap.size w (w1.alloc (.cells #[Value.int .i8 0, Value.int .i8 0, Value.int .i8 0, Value.int .i8 0, Value.int .i8 0, Value.int .i8 0, Value.int .i8 0, Value.int .i8 0, Value.int .i8 0, Value.int .i8 0, Value.int .i8 0, Value.int .i8 0, Value.int .i64 n] 51))) := below_boxed B1.out _
    generalize w1.alloc (.cells #[Value.int .i8 0, Value.int .i8 0, Value.int .i8 0, Value.int .i8 0, Value.int .i8 0, Value.int .i8 0, Value.int .i8 0, Value.int .i8 0, Value.int .i8 0, Value.int .i8 0, Value.int .i8 0, Value.int .i8 0, Value.int .i64 n] 51) = w2 at *
    have w0 : IntKind.i64.wrap ((s.size : Int) - 1) = (s.size : Int) - 1 := IntWalk.i64_in _ (by omega)
    go_loopw [32] (fun i wr => ∃ k : Nat, k ≤ s.size ∧ i = .int .i64 k ∧ Hid (w2.grownBy wr (some w1.heap.size)) ∧ Hid (RegRow wr w1.heap.size (dialTo s (s.size - k)) n)) (fun i _ => s.size - (intOf i).toNat)
    case atStart => exact ⟨0, Nat.zero_le _, rfl, World.grownBy.refl _ _, R1.out⟩
    case round =>
      obtain ⟨k, hk, rfl, HG, HR⟩ := hrel
      by_cases hlt : k < s.size
      · obtain ⟨t, ht⟩ : ∃ t, s.size - 1 - k = t := ⟨_, rfl⟩
        have hst := dialTo_step s t (by omega)
        rw [show s.size - 1 - t = k by omega, show t + 1 = s.size - k by omega] at hst
        have hl12 := dialTo_length (s := s) (j := s.size - k) (by omega) (Nat.le_trans HSN.out HN.out)
        have y1 := HR.out.cell (i := t) (by have := HN.out; have := HSN.out; omega)
        have z1 := HR.out.frozen t
        have hdg := digsTo_at HDG.out hlt
        have hge := byte_get s k hlt
        rw [hge] at hst hdg
        obtain ⟨c, hc⟩ : ∃ c : Nat, (s[k]'hlt).toNat = c := ⟨_, rfl⟩
        have hci : ((s[k]'hlt).toNat : Int) = c := by rw [hc]
        rw [hc] at hst hdg
        have hcb : 48 ≤ c ∧ c ≤ 57 := by simpa [digC] using hdg
        obtain ⟨v, hv⟩ : ∃ v, (dialTo s (s.size - k))[t]?.getD 0 = v := ⟨_, rfl⟩
        rw [hv] at y1
        have HST := Lib.hid hst
        have HL12 := Lib.hid hl12
        have j0 : (0 : Int) ≤ (t : Int) := Int.natCast_nonneg _
        have j1 : (t : Int) < 12 := by have := HN.out; have := HSN.out; omega
        have j2 : (0 : Int) ≤ (k : Int) := Int.natCast_nonneg _
        have j3 : (k : Int) < (s.size : Int) := by omega
        have w3 : IntKind.i64.wrap ((s.size : Int) - 1 - (k : Int)) = (t : Int) := by rw [IntWalk.i64_in _ (by omega)]; omega
        have w4 : IntKind.u8.wrap ((c : Int) - 48) = (c : Int) - 48 := IntWalk.u8_in _ (by omega)
        have w5 : IntKind.i8.wrap ((c : Int) - 48) = (c : Int) - 48 := IntWalk.i8_in _ (by omega)
        have ht12 : t < 12 := by omega
        have HTT : Hid (s.size - (k + 1) = t) := by show _ = _; omega
        clear hst hl12 hdg hge hv ht hc hcb
        go_wp2
        go_roundw
        case rel =>
          refine ⟨k + 1, by omega, by go_num, only_step HG.out (only_set _ _ _ _), ?_⟩
          show RegRow _ _ _ _
          rw [HTT.out, ← HST.out]
          exact HR.out.set (by rw [HL12.out]; exact ht12) _
        case measure => simp [intOf]; omega
      · obtain rfl : k = s.size := by omega
        have RA : Hid (wr.heap[w1.heap.size]? = some (.cells (regV (reg12 (textD s)) n) 51 (0, 0))) := by
          have := HR.out
          rw [Nat.sub_self, dialTo_end] at this
          exact this
        have RB : Hid (wr.heap[w.heap.size]? = some (.cells #[Value.int .i8 0, Value.int .i8 0, Value.int .i8 0, Value.int .i8 0, Value.int .i8 0, Value.int .i8 0, Value.int .i8 0, Value.int .i8 0, Value.int .i8 0, Value.int .i8 0, Value.int .i8 0, Value.int .i8 0, Value.int .i64 0] 51 (0, 0))) := (HG.out.block w.heap.size (Array.getElem?_eq_some_iff.1 H2.out).1 (fun e => by have := HLT.out; injection e; omega)).trans H2.out
        have BB : Hid (Below w.heap.size w wr) := below_only B2.out HG.out (Nat.le_of_lt HLT.out)
        have l1 := reg12_length (xs := textD s) (by rw [textD_length]; exact Nat.le_trans HSN.out HN.out)
        have hi : (Tryd.prog.info? 51).map (·.size) = some (regV (reg12 (textD s)) n).size := by rw [regV_size l1]; exact info_reg
        have hold : (#[Value.int .i8 0, Value.int .i8 0, Value.int .i8 0, Value.int .i8 0, Value.int .i8 0, Value.int .i8 0, Value.int .i8 0, Value.int .i8 0, Value.int .i8 0, Value.int .i8 0, Value.int .i8 0, Value.int .i8 0, Value.int .i64 0] : Array Value).size = (regV (reg12 (textD s)) n).size := by rw [regV_size l1]; rfl
        have HIR := Lib.hid hi
        have HO := Lib.hid hold
        have j3 : ¬ (s.size : Int) < (s.size : Int) := by omega
        obtain ⟨cs, hcs⟩ : ∃ cs, regV (reg12 (textD s)) n = cs := ⟨_, rfl⟩
        have hone : cs.all (·.oneCell') = true := by rw [← hcs]; exact reg_one
        have HON := Lib.hid hone
        have HCS := Lib.hid hcs
        rw [hcs] at RA HIR HO
        clear hi hold l1 hcs hone
        go_upto_region 14 with (fail)
        go_wp2_with (first
          | (refine wpList_load_row rfl 51 (.tmp 7) rfl w1.heap.size rfl _ _ _ _ RA.out Tryd.underlying51 rfl HIR.out ?_)
          | (refine wpList_store_row rfl 51 (.tmp 4) (.tmp 48) rfl w.heap.size cs rfl rfl _ _ RB.out HIR.out HO.out HON.out ?_))
        have hfin := hF.out _ (setRow_below BB.out (g := w.heap.size) (Nat.le_refl _) cs)
        rw [HCS.out] at hfin
        exact bodyPost_ret (v := .tuple #[.agg cs, .nilIface]) (results_cell_slot rfl _ _ w.heap.size 51 _ (0, 0) _ _ rfl rfl (setRow_same _ RB.out) Tryd.underlying51 rfl HIR.out) rfl hfin

end Go.Proofs.YtkiphejkgpfjjaaDoor
