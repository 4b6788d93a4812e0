/- impl.operands: a contract, for every counter of at most 1048576 digits and every number. Conditions: the two errors of impl.dial and the table of powers of ten lie in their variables. -/
import Derived.Test.YtkiphejkgpfjjaaDoorCntItoa
import Derived.Test.YtkiphejkgpfjjaaDoorCntSumS
import Derived.Test.YtkiphejkgpfjjaaDoorFormat
import Derived.Deep.RegionHeld3
import Derived.Deep.DeepCutAuto
namespace Go.Proofs.YtkiphejkgpfjjaaDoor
open Go.ChangeShapes Go.WideShapes Go.ChangeAt Go.RowKit

/-- the zeros of a register -/
abbrev zeroK : Array Value := #[Value.int .i8 0, Value.int .i8 0, Value.int .i8 0, Value.int .i8 0, Value.int .i8 0, Value.int .i8 0, Value.int .i8 0, Value.int .i8 0, Value.int .i8 0, Value.int .i8 0, Value.int .i8 0, Value.int .i8 0, Value.int .i64 0]
/-- what operands answers -/
def GivesOps (xs : List Int) (x : Int) (w : World) (e : Ending) (w' : World) : Prop :=
  Below w.heap.size w w' ∧ ((numC xs x = 0 ∧ e = .returned (.tuple #[.agg (regV (reg12 xs) xs.length), .agg (regV (reg12 (digs xs.length x)) xs.length), .int .i64 0])) ∨ (numC xs x ≠ 0 ∧ e = .returned (.tuple #[.agg #[Value.int .i8 0, Value.int .i8 0, Value.int .i8 0, Value.int .i8 0, Value.int .i8 0, Value.int .i8 0, Value.int .i8 0, Value.int .i8 0, Value.int .i8 0, Value.int .i8 0, Value.int .i8 0, Value.int .i8 0, Value.int .i64 0], .agg #[Value.int .i8 0, Value.int .i8 0, Value.int .i8 0, Value.int .i8 0, Value.int .i8 0, Value.int .i8 0, Value.int .i8 0, Value.int .i8 0, Value.int .i8 0, Value.int .i8 0, Value.int .i8 0, Value.int .i8 0, Value.int .i64 0], .int .i64 (numC xs x)])))
/-- what region 3 leaves: the register and the error -/
def CutReg (w : World) (cs : Array Value) (E : Value) (s7 s8 : Value) (wx : World) : Prop :=
  ∃ g, s7 = .pointer (some ⟨g, 0, none⟩) ∧ s8 = E ∧ w.heap.size ≤ g ∧ wx.heap[g]? = some (.cells cs 51 (0, 0)) ∧ Below w.heap.size w wx
theorem store_at (w : World) (g : Nat) (cs : Array Value) (hg : w.heap[g]? = some (.cells #[Value.int .i8 0, Value.int .i8 0, Value.int .i8 0, Value.int .i8 0, Value.int .i8 0, Value.int .i8 0, Value.int .i8 0, Value.int .i8 0, Value.int .i8 0, Value.int .i8 0, Value.int .i8 0, Value.int .i8 0, Value.int .i64 0] 51 (0, 0))) (ho : cs.size = 13) (h1 : cs.all (·.oneCell') = true) :
    (storeCells ⟨g, 0, none⟩ cs.toList).run Tryd.prog w = .ok () (w.setRow g cs) := by
  have hi : (Tryd.prog.info? 51).map (·.size) = some cs.size := by rw [ho]; exact info_reg
  have h := run_storeVar_row (P := Tryd.prog) w g 51 51 #[Value.int .i8 0, Value.int .i8 0, Value.int .i8 0, Value.int .i8 0, Value.int .i8 0, Value.int .i8 0, Value.int .i8 0, Value.int .i8 0, Value.int .i8 0, Value.int .i8 0, Value.int .i8 0, Value.int .i8 0, Value.int .i64 0] cs hg hi (by rw [ho]; rfl) h1
  cases hq : Tryd.prog.info? 51 with
  | none => simp [hq] at hi
  | some i =>
    have hs : cs.size = i.size := by simp [hq] at hi; omega
    simpa [storeVar, sizeOf, typeInfo, hq, Value.cells, hs] using h
theorem store_fresh (w : World) (cs : Array Value) (ho : cs.size = 13) (h1 : cs.all (·.oneCell') = true) :
    (storeCells ⟨w.heap.size, 0, none⟩ cs.toList).run Tryd.prog (w.alloc (.cells #[Value.int .i8 0, Value.int .i8 0, Value.int .i8 0, Value.int .i8 0, Value.int .i8 0, Value.int .i8 0, Value.int .i8 0, Value.int .i8 0, Value.int .i8 0, Value.int .i8 0, Value.int .i8 0, Value.int .i8 0, Value.int .i64 0] 51)) = .ok () ((w.alloc (.cells #[Value.int .i8 0, Value.int .i8 0, Value.int .i8 0, Value.int .i8 0, Value.int .i8 0, Value.int .i8 0, Value.int .i8 0, Value.int .i8 0, Value.int .i8 0, Value.int .i8 0, Value.int .i8 0, Value.int .i8 0, Value.int .i64 0] 51)).setRow w.heap.size cs) :=
  store_at _ _ cs (heap_alloc_new w _) ho h1

/-- a register's place that may be written -/
def Has13 (W : World) (g : Nat) : Prop := ∃ old, W.heap[g]? = some (.cells old 51 (0, 0)) ∧ old.size = 13
theorem Has13.below {W W' : World} {g : Nat} (h : Has13 W g) (hb : Below W.heap.size W W') : Has13 W' g := by
  obtain ⟨old, h1, h2⟩ := h
  exact ⟨old, (hb.block g (Array.getElem?_eq_some_iff.1 h1).1).trans h1, h2⟩
theorem Has13.set {W : World} {g : Nat} (h : Has13 W g) (cs : Array Value) : (W.setRow g cs).heap[g]? = some (.cells cs 51 (0, 0)) := by
  obtain ⟨old, h1, h2⟩ := h
  exact setRow_same cs h1
theorem Has13.other {W : World} {g : Nat} (h : Has13 W g) (j : Nat) (cs : Array Value) (hc : cs.size = 13) : Has13 (W.setRow j cs) g := by
  by_cases e : g = j
  · subst e
    exact ⟨cs, h.set cs, hc⟩
  · obtain ⟨old, h1, h2⟩ := h
    exact ⟨old, (setRow_heap_other cs e).trans h1, h2⟩
theorem store_has (W : World) (g : Nat) (cs : Array Value) (h : Has13 W g) (hc : cs.size = 13) (h1 : cs.all (·.oneCell') = true) :
    (storeCells ⟨g, 0, none⟩ cs.toList).run Tryd.prog W = .ok () (W.setRow g cs) := by
  obtain ⟨old, hg, ho⟩ := h
  have hi : (Tryd.prog.info? 51).map (·.size) = some cs.size := by rw [hc]; exact info_reg
  have h := run_storeVar_row (P := Tryd.prog) W g 51 51 old cs hg hi (by rw [hc, ho]) h1
  cases hq : Tryd.prog.info? 51 with
  | none => simp [hq] at hi
  | some i =>
    have hs : cs.size = i.size := by simp [hq] at hi; omega
    simpa [storeVar, sizeOf, typeInfo, hq, Value.cells, hs] using h
theorem cells13 {v : Array Value} (h : v.size = 13) : ∃ a0 a1 a2 a3 a4 a5 a6 a7 a8 a9 a10 a11 a12, v = #[a0, a1, a2, a3, a4, a5, a6, a7, a8, a9, a10, a11, a12] := by
  obtain ⟨l⟩ := v
  match l, h with
  | [a0, a1, a2, a3, a4, a5, a6, a7, a8, a9, a10, a11, a12], _ => exact ⟨a0, a1, a2, a3, a4, a5, a6, a7, a8, a9, a10, a11, a12, rfl⟩
theorem opsS_set {W : World} {b g g4 g5 j : Nat} {u : Value} {v : Array Value} (cs : Array Value) (h : W.cell? ⟨b, 0, none⟩ = some u ∧ W.heap[g]? = some (.cells v 51 (0, 0)) ∧ Has13 W g4 ∧ Has13 W g5) (h1 : b ≠ j) (h2 : g ≠ j) (hc : cs.size = 13) :
    (W.setRow j cs).cell? ⟨b, 0, none⟩ = some u ∧ (W.setRow j cs).heap[g]? = some (.cells v 51 (0, 0)) ∧ Has13 (W.setRow j cs) g4 ∧ Has13 (W.setRow j cs) g5 :=
  ⟨setRow_cell cs h.1 h1, (setRow_heap_other cs h2).trans h.2.1, h.2.2.1.other j cs hc, h.2.2.2.other j cs hc⟩
theorem opsS_below {W W' : World} {b g g4 g5 : Nat} {u : Value} {v : Array Value} (h : W.cell? ⟨b, 0, none⟩ = some u ∧ W.heap[g]? = some (.cells v 51 (0, 0)) ∧ Has13 W g4 ∧ Has13 W g5) (hb : Below W.heap.size W W') :
    W'.cell? ⟨b, 0, none⟩ = some u ∧ W'.heap[g]? = some (.cells v 51 (0, 0)) ∧ Has13 W' g4 ∧ Has13 W' g5 :=
  ⟨cell_kept h.1 hb, (hb.block g (Array.getElem?_eq_some_iff.1 h.2.1).1).trans h.2.1, h.2.2.1.below hb, h.2.2.2.below hb⟩

/-- FormatInt, as the walk wants it -/
theorem format_any (x : Int) (h0 : -9223372036854775808 ≤ x) (h1 : x ≤ 9223372036854775807) (w : World) (hP : Pow10 w) :
    Calls Tryd.prog 32 #[.int .i64 x, .int .i64 10] w fun e w' => e = .returned (.string (itoaS x)) ∧ Below w.heap.size w w' := by
  refine (Tryd.strconv_FormatInt_10 x h0 h1 w hP).mono ?_
  rintro e w' ⟨rfl, k, os, rfl⟩
  exact ⟨rfl, Lib.below_grow w.heap.size w (Nat.le_refl _) k os⟩

set_option maxRecDepth 100000 in
set_option maxHeartbeats 4000000 in
theorem operands_good (A : Option Addr) (c : Nat) (xs : List Int) (B : Nat) (x : Int) (w : World) (h : Ints w B A xs) (hB : B ≤ w.heap.size) (hn : xs.length ≤ 1048576) (aW aS : Addr) (hD : DialErrs w aW aS) (hP : Pow10 w) (hx0 : -9223372036854775808 ≤ x) (hx1 : x ≤ 9223372036854775807) (e0 : numC xs x = 0) :
    Calls Tryd.prog 40 #[.agg #[.slice A xs.length c], .int .i64 x] w (GivesOps xs x w) := by
  have e3 : Below w.heap.size w (((w.alloc (.cells #[.slice A xs.length c] 24)).alloc (.cells #[Value.int .i8 0, Value.int .i8 0, Value.int .i8 0, Value.int .i8 0, Value.int .i8 0, Value.int .i8 0, Value.int .i8 0, Value.int .i8 0, Value.int .i8 0, Value.int .i8 0, Value.int .i8 0, Value.int .i8 0, Value.int .i64 0] 51)).alloc (.cells #[Value.int .i8 0, Value.int .i8 0, Value.int .i8 0, Value.int .i8 0, Value.int .i8 0, Value.int .i8 0, Value.int .i8 0, Value.int .i8 0, Value.int .i8 0, Value.int .i8 0, Value.int .i8 0, Value.int .i8 0, Value.int .i64 0] 51)) := below_boxed (below_boxed (below_box w _) _) _
  have c0 : (((w.alloc (.cells #[.slice A xs.length c] 24)).alloc (.cells #[Value.int .i8 0, Value.int .i8 0, Value.int .i8 0, Value.int .i8 0, Value.int .i8 0, Value.int .i8 0, Value.int .i8 0, Value.int .i8 0, Value.int .i8 0, Value.int .i8 0, Value.int .i8 0, Value.int .i8 0, Value.int .i64 0] 51)).alloc (.cells #[Value.int .i8 0, Value.int .i8 0, Value.int .i8 0, Value.int .i8 0, Value.int .i8 0, Value.int .i8 0, Value.int .i8 0, Value.int .i8 0, Value.int .i8 0, Value.int .i8 0, Value.int .i8 0, Value.int .i8 0, Value.int .i64 0] 51)).cell? ⟨w.heap.size, 0, none⟩ = some (.slice A xs.length c) := by simp [go_sem]
  have z4 : (((w.alloc (.cells #[.slice A xs.length c] 24)).alloc (.cells #[Value.int .i8 0, Value.int .i8 0, Value.int .i8 0, Value.int .i8 0, Value.int .i8 0, Value.int .i8 0, Value.int .i8 0, Value.int .i8 0, Value.int .i8 0, Value.int .i8 0, Value.int .i8 0, Value.int .i8 0, Value.int .i64 0] 51)).alloc (.cells #[Value.int .i8 0, Value.int .i8 0, Value.int .i8 0, Value.int .i8 0, Value.int .i8 0, Value.int .i8 0, Value.int .i8 0, Value.int .i8 0, Value.int .i8 0, Value.int .i8 0, Value.int .i8 0, Value.int .i8 0, Value.int .i64 0] 51)).heap[w.heap.size + 1]? = some (.cells #[Value.int .i8 0, Value.int .i8 0, Value.int .i8 0, Value.int .i8 0, Value.int .i8 0, Value.int .i8 0, Value.int .i8 0, Value.int .i8 0, Value.int .i8 0, Value.int .i8 0, Value.int .i8 0, Value.int .i8 0, Value.int .i64 0] 51 (0, 0)) := by
    rw [Below.heap_alloc _ _ _ (by simp)]
    have := heap_alloc_new (w.alloc (.cells #[.slice A xs.length c] 24)) (.cells #[Value.int .i8 0, Value.int .i8 0, Value.int .i8 0, Value.int .i8 0, Value.int .i8 0, Value.int .i8 0, Value.int .i8 0, Value.int .i8 0, Value.int .i8 0, Value.int .i8 0, Value.int .i8 0, Value.int .i8 0, Value.int .i64 0] 51)
    simpa using this
  have z5 : (((w.alloc (.cells #[.slice A xs.length c] 24)).alloc (.cells #[Value.int .i8 0, Value.int .i8 0, Value.int .i8 0, Value.int .i8 0, Value.int .i8 0, Value.int .i8 0, Value.int .i8 0, Value.int .i8 0, Value.int .i8 0, Value.int .i8 0, Value.int .i8 0, Value.int .i8 0, Value.int .i64 0] 51)).alloc (.cells #[Value.int .i8 0, Value.int .i8 0, Value.int .i8 0, Value.int .i8 0, Value.int .i8 0, Value.int .i8 0, Value.int .i8 0, Value.int .i8 0, Value.int .i8 0, Value.int .i8 0, Value.int .i8 0, Value.int .i8 0, Value.int .i64 0] 51)).heap[w.heap.size + 2]? = some (.cells #[Value.int .i8 0, Value.int .i8 0, Value.int .i8 0, Value.int .i8 0, Value.int .i8 0, Value.int .i8 0, Value.int .i8 0, Value.int .i8 0, Value.int .i8 0, Value.int .i8 0, Value.int .i8 0, Value.int .i8 0, Value.int .i64 0] 51 (0, 0)) := by
    have := heap_alloc_new ((w.alloc (.cells #[.slice A xs.length c] 24)).alloc (.cells #[Value.int .i8 0, Value.int .i8 0, Value.int .i8 0, Value.int .i8 0, Value.int .i8 0, Value.int .i8 0, Value.int .i8 0, Value.int .i8 0, Value.int .i8 0, Value.int .i8 0, Value.int .i8 0, Value.int .i8 0, Value.int .i64 0] 51)) (.cells #[Value.int .i8 0, Value.int .i8 0, Value.int .i8 0, Value.int .i8 0, Value.int .i8 0, Value.int .i8 0, Value.int .i8 0, Value.int .i8 0, Value.int .i8 0, Value.int .i8 0, Value.int .i8 0, Value.int .i8 0, Value.int .i64 0] 51)
    simpa using this
  have hsz : (((w.alloc (.cells #[.slice A xs.length c] 24)).alloc (.cells #[Value.int .i8 0, Value.int .i8 0, Value.int .i8 0, Value.int .i8 0, Value.int .i8 0, Value.int .i8 0, Value.int .i8 0, Value.int .i8 0, Value.int .i8 0, Value.int .i8 0, Value.int .i8 0, Value.int .i8 0, Value.int .i64 0] 51)).alloc (.cells #[Value.int .i8 0, Value.int .i8 0, Value.int .i8 0, Value.int .i8 0, Value.int .i8 0, Value.int .i8 0, Value.int .i8 0, Value.int .i8 0, Value.int .i8 0, Value.int .i8 0, Value.int .i8 0, Value.int .i8 0, Value.int .i64 0] 51)).heap.size = w.heap.size + 3 := by simp
  have hc := implValidCounter_any A c xs B (((w.alloc (.cells #[.slice A xs.length c] 24)).alloc (.cells #[Value.int .i8 0, Value.int .i8 0, Value.int .i8 0, Value.int .i8 0, Value.int .i8 0, Value.int .i8 0, Value.int .i8 0, Value.int .i8 0, Value.int .i8 0, Value.int .i8 0, Value.int .i8 0, Value.int .i8 0, Value.int .i64 0] 51)).alloc (.cells #[Value.int .i8 0, Value.int .i8 0, Value.int .i8 0, Value.int .i8 0, Value.int .i8 0, Value.int .i8 0, Value.int .i8 0, Value.int .i8 0, Value.int .i8 0, Value.int .i8 0, Value.int .i8 0, Value.int .i8 0, Value.int .i64 0] 51)) (h.below (e3.mono hB)) (Nat.le_trans hB e3.size) hn
  have hok : okK xs = true := by
    rcases numC_cases xs x with ⟨h1, _⟩ | ⟨_, h2, _⟩ | ⟨_, h2, _⟩
    · rw [e0] at h1; cases h1
    · exact h2
    · exact h2
  rw [hok] at hc
  obtain ⟨hw, h1, h12, x0, x1⟩ := numC_zero e0
  have hfm := fun W (hW : Below w.heap.size w W) => format_any x hx0 hx1 W (hP.below hW)
  have hdi := dial_itoa x xs.length h1 h12
  have hdk : dialK xs.length (itoaS x) = 0 ∧ dialL (itoaS x) xs.length = digs xs.length x := by
    rcases hdi with ⟨_, h2⟩ | ⟨_, h2⟩ | ⟨h2, _, _, h3⟩
    · omega
    · omega
    · exact ⟨h2, h3⟩
  have hdl : ∀ W, Below w.heap.size w W → Calls Tryd.prog 31 #[.int .i64 xs.length, .string (itoaS x)] W fun e w' => e = .returned (.tuple #[.agg (regV (reg12 (digs xs.length x)) xs.length), .nilIface]) ∧ Below W.heap.size W w' := fun W hW => by
    refine (dial_any xs.length (itoaS x) (itoaS_short x hx0 hx1) aW aS W (hD.below hW)).mono ?_
    rintro e w' ⟨hb, h⟩
    rcases h with ⟨_, h⟩ | ⟨h, _⟩ | ⟨h, _⟩
    · rw [h, Int.toNat_natCast, hdk.2]
      exact ⟨rfl, hb⟩
    · rw [hdk.1] at h; cases h
    · rw [hdk.1] at h; cases h
  have hrg := fun W (hW : Below w.heap.size w W) => registerOf_any A c xs B W (h.below (hW.mono hB)) (Nat.le_trans hB hW.size) hw h12
  unfold GivesReg at hrg
  have hl1 := reg12_length (xs := xs) h12
  have hl2 := reg12_length (xs := digs xs.length x) (by rw [digs_length]; exact h12)
  have hi1 : (Tryd.prog.info? 51).map (·.size) = some (regV (reg12 xs) xs.length).size := by rw [regV_size hl1]; exact info_reg
  have hi2 : (Tryd.prog.info? 51).map (·.size) = some (regV (reg12 (digs xs.length x)) xs.length).size := by rw [regV_size hl2]; exact info_reg
  have ho1 : (#[Value.int .i8 0, Value.int .i8 0, Value.int .i8 0, Value.int .i8 0, Value.int .i8 0, Value.int .i8 0, Value.int .i8 0, Value.int .i8 0, Value.int .i8 0, Value.int .i8 0, Value.int .i8 0, Value.int .i8 0, Value.int .i64 0] : Array Value).size = (regV (reg12 xs) xs.length).size := by rw [regV_size hl1]; rfl
  have ho2 : (#[Value.int .i8 0, Value.int .i8 0, Value.int .i8 0, Value.int .i8 0, Value.int .i8 0, Value.int .i8 0, Value.int .i8 0, Value.int .i8 0, Value.int .i8 0, Value.int .i8 0, Value.int .i8 0, Value.int .i8 0, Value.int .i64 0] : Array Value).size = (regV (reg12 (digs xs.length x)) xs.length).size := by rw [regV_size hl2]; rfl
  have hgo : ∀ e w', e = .returned (.tuple #[.agg (regV (reg12 xs) xs.length), .agg (regV (reg12 (digs xs.length x)) xs.length), .int .i64 0]) → Below w.heap.size w w' → GivesOps xs x w e w' := fun e w' he hb => ⟨hb, Or.inl ⟨e0, he⟩⟩
  obtain ⟨v1, hv1⟩ : ∃ v, regV (reg12 xs) xs.length = v := ⟨_, rfl⟩
  obtain ⟨v2, hv2⟩ : ∃ v, regV (reg12 (digs xs.length x)) xs.length = v := ⟨_, rfl⟩
  have hq1 : v1.all (·.oneCell') = true := by rw [← hv1]; exact reg_one
  have hq2 : v2.all (·.oneCell') = true := by rw [← hv2]; exact reg_one
  rw [hv1] at hrg hi1 ho1 hgo
  rw [hv2] at hdl hi2 ho2 hgo
  have hs2 : v2.size = 13 := by rw [← hv2]; exact regV_size hl2
  have hs1 : v1.size = 13 := by rw [← hv1]; exact regV_size hl1
  obtain ⟨sx, hsx⟩ : ∃ v, itoaS x = v := ⟨_, rfl⟩
  rw [hsx] at hfm hdl
  have sf2 := fun W => store_fresh W v2 hs2 hq2
  have sa2 := fun W g hg => store_at W g v2 hg hs2 hq2
  obtain ⟨n, hN⟩ : ∃ n, xs.length = n := ⟨_, rfl⟩
  obtain ⟨F, hF⟩ : ∃ F, GivesOps xs x w = F := ⟨_, rfl⟩
  rw [hF] at hgo ⊢
  rw [hN] at hc hdl hrg e3 c0 z4 z5 hsz ⊢
  have HC := Lib.hid hc
  have HFM := Lib.hid hfm
  have HDL := Lib.hid hdl
  have HRG := Lib.hid hrg
  have E3 := Lib.hid e3
  have C0 := Lib.hid c0
  have Z4 := Lib.hid z4
  have Z5 := Lib.hid z5
  have HSZ := Lib.hid hsz
  have HGO := Lib.hid hgo
  have HI1 := Lib.hid hi1
  have HS1 := Lib.hid hs1
  have HS2 := Lib.hid hs2
  have HI2 := Lib.hid hi2
  have HO1 := Lib.hid ho1
  have HO2 := Lib.hid ho2
  have HQ1 := Lib.hid hq1
  have HQ2 := Lib.hid hq2
  have SF2 := Lib.hid sf2
  have SA2 := Lib.hid sa2
  clear hs1 hs2 hc hfm hdl hrg e3 c0 z4 z5 hsz hgo h hok e0 hw h1 h12 x0 x1 hdi hdk hl1 hl2 hi1 hi2 ho1 ho2 hv1 hv2 hsx hN hF hq1 hq2 sf2 sa2 hD hP hn hB hx0 hx1
  go_enter Tryd.func40, Tryd.ntmps40
  go_wp2_with fail
  refine HC.out.mono ?_
  rintro e w1 ⟨rfl, hb⟩
  have c1 := cell_kept C0.out hb
  have B1 := Lib.hid (below_step E3.out hb)
  have Y4 := Lib.hid ((hb.block (w.heap.size + 1) (Array.getElem?_eq_some_iff.1 Z4.out).1).trans Z4.out)
  have Y5 := Lib.hid ((hb.block (w.heap.size + 2) (Array.getElem?_eq_some_iff.1 Z5.out).1).trans Z5.out)
  have S1 : Hid (w.heap.size + 3 ≤ w1.heap.size) := by have := hb.size; rw [HSZ.out] at this; exact this
  clear hb C0 Z4 Z5 HSZ E3 HC
  go_upto_region 3 with fail
  go_cut [7, 8] (fun s7 s8 wx => CutReg w1 v2 .nilIface s7 s8 wx)
  case first =>
    have K0 := Lib.hid (below_drew (Below.refl w1.heap.size w1))
    have sf := SF2.out
    have sa := SA2.out
    go_region_held3 (fun W => W.cell? ⟨w.heap.size, 0, none⟩ = some (.slice A n c))
      (first | exact c1 | exact cell_kept c1 K0.out | exact cell_kept c1 (below_boxed K0.out _) | exact cell_kept c1 K1.out | exact cell_kept c1 (below_boxed K1.out _) | exact cell_kept c1 K2.out | exact cell_kept c1 (below_boxed K2.out _) | exact cell_kept c1 (setRow_below (below_boxed K2.out _) K2.out.size _) | exact cell_kept c1 (setRow_below K2.out (Nat.le_refl _) _) | exact cell_kept c1 (setRow_below K2.out K1.out.size _) | go_keep)
      (first
        | (go_at_call 32
           refine (HFM.out _ (below_boxed (below_step B1.out K0.out) _)).mono ?_
           rintro e w2 ⟨rfl, hb⟩
           have K1 : Hid (Below w1.heap.size w1 w2) := below_step (below_boxed K0.out _) hb
           have X1 : Hid (w2.heap[w1.heap.size]? = some (.cells #[Value.int .i8 0, Value.int .i8 0, Value.int .i8 0, Value.int .i8 0, Value.int .i8 0, Value.int .i8 0, Value.int .i8 0, Value.int .i8 0, Value.int .i8 0, Value.int .i8 0, Value.int .i8 0, Value.int .i8 0, Value.int .i64 0] 51 (0, 0))) := (hb.block _ (by simp)).trans (heap_alloc_new w1.drew _)
           clear hb)
        | (go_at_call 32
           refine (HFM.out _ (below_step B1.out K0.out)).mono ?_
           rintro e w2 ⟨rfl, hb⟩
           have K1 : Hid (Below w1.heap.size w1 w2) := below_step K0.out hb
           clear hb)
        | (go_at_call 31
           refine (HDL.out _ (below_boxed (below_step B1.out K1.out) _)).mono ?_
           rintro e w3 ⟨rfl, hb⟩
           have K2 : Hid (Below w1.heap.size w1 w3) := below_step (below_boxed K1.out _) hb
           have X2 : w3.heap[w2.heap.size]? = some (.cells #[Value.int .i8 0, Value.int .i8 0, Value.int .i8 0, Value.int .i8 0, Value.int .i8 0, Value.int .i8 0, Value.int .i8 0, Value.int .i8 0, Value.int .i8 0, Value.int .i8 0, Value.int .i8 0, Value.int .i8 0, Value.int .i64 0] 51 (0, 0)) := (hb.block _ (by simp)).trans (heap_alloc_new w2 _)
           clear hb)
        | (go_at_call 31
           refine (HDL.out _ (below_step B1.out K1.out)).mono ?_
           rintro e w3 ⟨rfl, hb⟩
           have K2 : Hid (Below w1.heap.size w1 w3) := below_step K1.out hb
           have X2 : w3.heap[w1.heap.size]? = some (.cells #[Value.int .i8 0, Value.int .i8 0, Value.int .i8 0, Value.int .i8 0, Value.int .i8 0, Value.int .i8 0, Value.int .i8 0, Value.int .i8 0, Value.int .i8 0, Value.int .i8 0, Value.int .i8 0, Value.int .i8 0, Value.int .i64 0] 51 (0, 0)) := (hb.block _ (Array.getElem?_eq_some_iff.1 X1.out).1).trans X1.out
           clear hb)
        | (go_at_call 31
           refine (HDL.out _ (below_step B1.out K1.out)).mono ?_
           rintro e w3 ⟨rfl, hb⟩
           have K2 : Hid (Below w1.heap.size w1 w3) := below_step K1.out hb
           clear hb))
    all_goals (go_wp2_with fail; go_meet; first | exact ⟨w3.heap.size, rfl, rfl, K2.out.size, setRow_same _ (heap_alloc_new w3 _), setRow_below (below_boxed K2.out _) K2.out.size _⟩ | exact ⟨w1.heap.size, rfl, rfl, Nat.le_refl _, setRow_same _ X2, setRow_below K2.out (Nat.le_refl _) _⟩ | exact ⟨w2.heap.size, rfl, rfl, K1.out.size, setRow_same _ X2, setRow_below K2.out K1.out.size _⟩)
  case rest =>
    obtain ⟨g, rfl, rfl, hg, hrow, hb⟩ := hcut
    rename World => w2
    have c2 := cell_kept c1 hb
    have B2 := Lib.hid (below_step B1.out hb)
    have hg4 : g ≠ w.heap.size + 1 := by have := S1.out; omega
    have hg5 : g ≠ w.heap.size + 2 := by have := S1.out; omega
    have S2 : w2.cell? ⟨w.heap.size, 0, none⟩ = some (.slice A n c) ∧ w2.heap[g]? = some (.cells v2 51 (0, 0)) ∧ Has13 w2 (w.heap.size + 1) ∧ Has13 w2 (w.heap.size + 2) :=
      ⟨c2, hrow, ⟨_, (hb.block (w.heap.size + 1) (Array.getElem?_eq_some_iff.1 Y4.out).1).trans Y4.out, rfl⟩, ⟨_, (hb.block (w.heap.size + 2) (Array.getElem?_eq_some_iff.1 Y5.out).1).trans Y5.out, rfl⟩⟩
    have nb4 : w.heap.size ≠ w.heap.size + 1 := by omega
    have nb5 : w.heap.size ≠ w.heap.size + 2 := by omega
    have n45 : w.heap.size + 1 ≠ w.heap.size + 2 := by omega
    clear hb hg c1 Y4 Y5 B1 S1 HFM HDL SF2 SA2 c2 hrow
    go_upto_region 6 with fail
    obtain ⟨a0, a1, a2, a3, a4, a5, a6, a7, a8, a9, a10, a11, a12, hv⟩ := cells13 HS2.out
    have hld : ∀ W : World, W.heap[g]? = some (.cells v2 51 (0, 0)) → W.cell? ⟨g, 0, none⟩ = some a0 ∧ W.cell? ⟨g, 1, none⟩ = some a1 ∧ W.cell? ⟨g, 2, none⟩ = some a2 ∧ W.cell? ⟨g, 3, none⟩ = some a3 ∧ W.cell? ⟨g, 4, none⟩ = some a4 ∧ W.cell? ⟨g, 5, none⟩ = some a5 ∧ W.cell? ⟨g, 6, none⟩ = some a6 ∧ W.cell? ⟨g, 7, none⟩ = some a7 ∧ W.cell? ⟨g, 8, none⟩ = some a8 ∧ W.cell? ⟨g, 9, none⟩ = some a9 ∧ W.cell? ⟨g, 10, none⟩ = some a10 ∧ W.cell? ⟨g, 11, none⟩ = some a11 ∧ W.cell? ⟨g, 12, none⟩ = some a12 := fun W hW => by
      rw [hv] at hW
      refine ⟨?_, ?_, ?_, ?_, ?_, ?_, ?_, ?_, ?_, ?_, ?_, ?_, ?_⟩ <;> rw [cell_of_row W g _ _ _ _ hW] <;> rfl
    have heq := hv.symm
    have sh4 := fun W hW => store_has W (w.heap.size + 1) v1 hW HS1.out HQ1.out
    have sh5 := fun W hW => store_has W (w.heap.size + 2) v2 hW HS2.out HQ2.out
    have sz1 := HS1.out
    have sz2 := HS2.out
    clear hv
    go_region_held3 (fun W => W.cell? ⟨w.heap.size, 0, none⟩ = some (.slice A n c) ∧ W.heap[g]? = some (.cells v2 51 (0, 0)) ∧ Has13 W (w.heap.size + 1) ∧ Has13 W (w.heap.size + 2))
      (first | exact S2 | exact opsS_set _ S2 nb5 hg5 sz2 | exact S7 | exact opsS_set _ S7 nb4 hg4 sz1 | exact opsS_set _ S7 nb5 hg5 sz2 | exact opsS_set _ (opsS_set _ S7 nb4 hg4 sz1) nb5 hg5 sz2 | exact opsS_set _ (opsS_set _ S7 nb5 hg5 sz2) nb4 hg4 sz1)
      (first
        | (go_at_call 53
           refine (HRG.out _ (setRow_below (B2.out.drew) (by omega) _)).mono ?_
           rintro e w7 ⟨rfl, hb⟩
           have S7 := opsS_below (opsS_set v2 (W := w2.drew) S2 nb5 hg5 sz2) hb
           have B7 : Hid (Below w.heap.size w w7) := below_step (setRow_below (B2.out.drew) (by omega) _) hb
           have Q5 := (hb.block (w.heap.size + 2) (Array.getElem?_eq_some_iff.1 (S2.2.2.2.set v2)).1).trans (Has13.set (W := w2.drew) S2.2.2.2 v2)
           clear hb)
        | (go_at_call 53
           refine (HRG.out _ B2.out.drew).mono ?_
           rintro e w7 ⟨rfl, hb⟩
           have S7 := opsS_below (W := w2.drew) S2 hb
           have B7 : Hid (Below w.heap.size w w7) := below_step B2.out.drew hb
           clear hb))
    all_goals
      go_wp2_with fail
      refine bodyPost_ret (v := .tuple #[.agg v1, .agg v2, .int .i64 0]) (results_two_slot rfl _ _ (w.heap.size + 1) (w.heap.size + 2) 51 51 v1 v2 (0, 0) (0, 0) _ (.int .i64 0) rfl rfl rfl ?_ ?_ Tryd.underlying51 rfl HI1.out HI2.out) rfl (HGO.out _ _ rfl ?_)
      · first | exact (setRow_heap_other _ n45).trans (S7.2.2.1.set _) | exact (S7.2.2.1.other _ _ sz2).set _ | exact S7.2.2.1.set _
      · first | exact (S7.2.2.2.other _ _ sz1).set _ | exact (setRow_heap_other _ n45.symm).trans (S7.2.2.2.set _) | exact (setRow_heap_other _ n45.symm).trans Q5
      · first | exact setRow_below (setRow_below B7.out (by omega) _) (by omega) _ | exact setRow_below B7.out (by omega) _

theorem zero_one : (#[Value.int .i8 0, Value.int .i8 0, Value.int .i8 0, Value.int .i8 0, Value.int .i8 0, Value.int .i8 0, Value.int .i8 0, Value.int .i8 0, Value.int .i8 0, Value.int .i8 0, Value.int .i8 0, Value.int .i8 0, Value.int .i64 0] : Array Value).all (·.oneCell') = true := by simp [Value.oneCell']
/-- what region 3 leaves where the number does not fit: an error -/
def CutErr (w : World) (s7 s8 : Value) (wx : World) : Prop :=
  ∃ g T v, s7 = .pointer (some ⟨g, 0, none⟩) ∧ s8 = .iface T v ∧ Below w.heap.size w wx

set_option maxRecDepth 100000 in
set_option maxHeartbeats 4000000 in
theorem operands_invalid (A : Option Addr) (c : Nat) (xs : List Int) (B : Nat) (x : Int) (w : World) (h : Ints w B A xs) (hB : B ≤ w.heap.size) (hn : xs.length ≤ 1048576) (aW aS : Addr) (hD : DialErrs w aW aS) (hP : Pow10 w) (hx0 : -9223372036854775808 ≤ x) (hx1 : x ≤ 9223372036854775807) (hv : okK xs = false) :
    Calls Tryd.prog 40 #[.agg #[.slice A xs.length c], .int .i64 x] w (GivesOps xs x w) := by
  have e3 : Below w.heap.size w (((w.alloc (.cells #[.slice A xs.length c] 24)).alloc (.cells #[Value.int .i8 0, Value.int .i8 0, Value.int .i8 0, Value.int .i8 0, Value.int .i8 0, Value.int .i8 0, Value.int .i8 0, Value.int .i8 0, Value.int .i8 0, Value.int .i8 0, Value.int .i8 0, Value.int .i8 0, Value.int .i64 0] 51)).alloc (.cells #[Value.int .i8 0, Value.int .i8 0, Value.int .i8 0, Value.int .i8 0, Value.int .i8 0, Value.int .i8 0, Value.int .i8 0, Value.int .i8 0, Value.int .i8 0, Value.int .i8 0, Value.int .i8 0, Value.int .i8 0, Value.int .i64 0] 51)) := below_boxed (below_boxed (below_box w _) _) _
  have c0 : (((w.alloc (.cells #[.slice A xs.length c] 24)).alloc (.cells #[Value.int .i8 0, Value.int .i8 0, Value.int .i8 0, Value.int .i8 0, Value.int .i8 0, Value.int .i8 0, Value.int .i8 0, Value.int .i8 0, Value.int .i8 0, Value.int .i8 0, Value.int .i8 0, Value.int .i8 0, Value.int .i64 0] 51)).alloc (.cells #[Value.int .i8 0, Value.int .i8 0, Value.int .i8 0, Value.int .i8 0, Value.int .i8 0, Value.int .i8 0, Value.int .i8 0, Value.int .i8 0, Value.int .i8 0, Value.int .i8 0, Value.int .i8 0, Value.int .i8 0, Value.int .i64 0] 51)).cell? ⟨w.heap.size, 0, none⟩ = some (.slice A xs.length c) := by simp [go_sem]
  have z4 : (((w.alloc (.cells #[.slice A xs.length c] 24)).alloc (.cells #[Value.int .i8 0, Value.int .i8 0, Value.int .i8 0, Value.int .i8 0, Value.int .i8 0, Value.int .i8 0, Value.int .i8 0, Value.int .i8 0, Value.int .i8 0, Value.int .i8 0, Value.int .i8 0, Value.int .i8 0, Value.int .i64 0] 51)).alloc (.cells #[Value.int .i8 0, Value.int .i8 0, Value.int .i8 0, Value.int .i8 0, Value.int .i8 0, Value.int .i8 0, Value.int .i8 0, Value.int .i8 0, Value.int .i8 0, Value.int .i8 0, Value.int .i8 0, Value.int .i8 0, Value.int .i64 0] 51)).heap[w.heap.size + 1]? = some (.cells #[Value.int .i8 0, Value.int .i8 0, Value.int .i8 0, Value.int .i8 0, Value.int .i8 0, Value.int .i8 0, Value.int .i8 0, Value.int .i8 0, Value.int .i8 0, Value.int .i8 0, Value.int .i8 0, Value.int .i8 0, Value.int .i64 0] 51 (0, 0)) := by
    rw [Below.heap_alloc _ _ _ (by simp)]
    have := heap_alloc_new (w.alloc (.cells #[.slice A xs.length c] 24)) (.cells #[Value.int .i8 0, Value.int .i8 0, Value.int .i8 0, Value.int .i8 0, Value.int .i8 0, Value.int .i8 0, Value.int .i8 0, Value.int .i8 0, Value.int .i8 0, Value.int .i8 0, Value.int .i8 0, Value.int .i8 0, Value.int .i64 0] 51)
    simpa using this
  have z5 : (((w.alloc (.cells #[.slice A xs.length c] 24)).alloc (.cells #[Value.int .i8 0, Value.int .i8 0, Value.int .i8 0, Value.int .i8 0, Value.int .i8 0, Value.int .i8 0, Value.int .i8 0, Value.int .i8 0, Value.int .i8 0, Value.int .i8 0, Value.int .i8 0, Value.int .i8 0, Value.int .i64 0] 51)).alloc (.cells #[Value.int .i8 0, Value.int .i8 0, Value.int .i8 0, Value.int .i8 0, Value.int .i8 0, Value.int .i8 0, Value.int .i8 0, Value.int .i8 0, Value.int .i8 0, Value.int .i8 0, Value.int .i8 0, Value.int .i8 0, Value.int .i64 0] 51)).heap[w.heap.size + 2]? = some (.cells #[Value.int .i8 0, Value.int .i8 0, Value.int .i8 0, Value.int .i8 0, Value.int .i8 0, Value.int .i8 0, Value.int .i8 0, Value.int .i8 0, Value.int .i8 0, Value.int .i8 0, Value.int .i8 0, Value.int .i8 0, Value.int .i64 0] 51 (0, 0)) := by
    have := heap_alloc_new ((w.alloc (.cells #[.slice A xs.length c] 24)).alloc (.cells #[Value.int .i8 0, Value.int .i8 0, Value.int .i8 0, Value.int .i8 0, Value.int .i8 0, Value.int .i8 0, Value.int .i8 0, Value.int .i8 0, Value.int .i8 0, Value.int .i8 0, Value.int .i8 0, Value.int .i8 0, Value.int .i64 0] 51)) (.cells #[Value.int .i8 0, Value.int .i8 0, Value.int .i8 0, Value.int .i8 0, Value.int .i8 0, Value.int .i8 0, Value.int .i8 0, Value.int .i8 0, Value.int .i8 0, Value.int .i8 0, Value.int .i8 0, Value.int .i8 0, Value.int .i64 0] 51)
    simpa using this
  have hsz : (((w.alloc (.cells #[.slice A xs.length c] 24)).alloc (.cells #[Value.int .i8 0, Value.int .i8 0, Value.int .i8 0, Value.int .i8 0, Value.int .i8 0, Value.int .i8 0, Value.int .i8 0, Value.int .i8 0, Value.int .i8 0, Value.int .i8 0, Value.int .i8 0, Value.int .i8 0, Value.int .i64 0] 51)).alloc (.cells #[Value.int .i8 0, Value.int .i8 0, Value.int .i8 0, Value.int .i8 0, Value.int .i8 0, Value.int .i8 0, Value.int .i8 0, Value.int .i8 0, Value.int .i8 0, Value.int .i8 0, Value.int .i8 0, Value.int .i8 0, Value.int .i64 0] 51)).heap.size = w.heap.size + 3 := by simp
  have hc := implValidCounter_any A c xs B (((w.alloc (.cells #[.slice A xs.length c] 24)).alloc (.cells #[Value.int .i8 0, Value.int .i8 0, Value.int .i8 0, Value.int .i8 0, Value.int .i8 0, Value.int .i8 0, Value.int .i8 0, Value.int .i8 0, Value.int .i8 0, Value.int .i8 0, Value.int .i8 0, Value.int .i8 0, Value.int .i64 0] 51)).alloc (.cells #[Value.int .i8 0, Value.int .i8 0, Value.int .i8 0, Value.int .i8 0, Value.int .i8 0, Value.int .i8 0, Value.int .i8 0, Value.int .i8 0, Value.int .i8 0, Value.int .i8 0, Value.int .i8 0, Value.int .i8 0, Value.int .i64 0] 51)) (h.below (e3.mono hB)) (Nat.le_trans hB e3.size) hn
  rw [hv] at hc
  have e0 : numC xs x = 1 := by simp [numC, hv]
  have hgo : ∀ e w', e = .returned (.tuple #[.agg #[Value.int .i8 0, Value.int .i8 0, Value.int .i8 0, Value.int .i8 0, Value.int .i8 0, Value.int .i8 0, Value.int .i8 0, Value.int .i8 0, Value.int .i8 0, Value.int .i8 0, Value.int .i8 0, Value.int .i8 0, Value.int .i64 0], .agg #[Value.int .i8 0, Value.int .i8 0, Value.int .i8 0, Value.int .i8 0, Value.int .i8 0, Value.int .i8 0, Value.int .i8 0, Value.int .i8 0, Value.int .i8 0, Value.int .i8 0, Value.int .i8 0, Value.int .i8 0, Value.int .i64 0], .int .i64 1]) → Below w.heap.size w w' → GivesOps xs x w e w' := fun e w' he hb => ⟨hb, Or.inr ⟨by rw [e0]; decide, by rw [e0]; exact he⟩⟩
  have hi2 : (Tryd.prog.info? 51).map (·.size) = some (#[Value.int .i8 0, Value.int .i8 0, Value.int .i8 0, Value.int .i8 0, Value.int .i8 0, Value.int .i8 0, Value.int .i8 0, Value.int .i8 0, Value.int .i8 0, Value.int .i8 0, Value.int .i8 0, Value.int .i8 0, Value.int .i64 0] : Array Value).size := info_reg
  obtain ⟨n, hN⟩ : ∃ n, xs.length = n := ⟨_, rfl⟩
  obtain ⟨F, hF⟩ : ∃ F, GivesOps xs x w = F := ⟨_, rfl⟩
  rw [hF] at hgo ⊢
  rw [hN] at hc e3 c0 z4 z5 hsz ⊢
  have HC := Lib.hid hc
  have E3 := Lib.hid e3
  have Z4 := Lib.hid z4
  have Z5 := Lib.hid z5
  have HGO := Lib.hid hgo
  have HI2 := Lib.hid hi2
  clear hc e3 c0 z4 z5 hsz hgo h hv e0 hN hF hD hP hn hB hx0 hx1 hi2
  go_enter Tryd.func40, Tryd.ntmps40
  go_wp2_with fail
  refine HC.out.mono ?_
  rintro e w1 ⟨rfl, hb⟩
  have B1 := Lib.hid (below_step E3.out hb)
  have Y4 : Has13 w1 (w.heap.size + 1) := ⟨_, (hb.block (w.heap.size + 1) (Array.getElem?_eq_some_iff.1 Z4.out).1).trans Z4.out, rfl⟩
  have Y5 : Has13 w1 (w.heap.size + 2) := ⟨_, (hb.block (w.heap.size + 2) (Array.getElem?_eq_some_iff.1 Z5.out).1).trans Z5.out, rfl⟩
  have n45 : w.heap.size + 1 ≠ w.heap.size + 2 := by omega
  clear hb Z4 Z5 E3 HC
  obtain ⟨o4, Y4a, Y4b⟩ := Y4
  have q5 := Has13.other (Y5) (w.heap.size + 1) #[Value.int .i8 0, Value.int .i8 0, Value.int .i8 0, Value.int .i8 0, Value.int .i8 0, Value.int .i8 0, Value.int .i8 0, Value.int .i8 0, Value.int .i8 0, Value.int .i8 0, Value.int .i8 0, Value.int .i8 0, Value.int .i64 0] rfl
  have q4 : Has13 w1 (w.heap.size + 1) := ⟨o4, Y4a, Y4b⟩
  obtain ⟨o5, Y5a, Y5b⟩ := q5
  go_wp2_with (first
    | (refine wpList_store_row rfl 51 (.tmp 4) (.tmp 12) rfl (w.heap.size + 1) #[Value.int .i8 0, Value.int .i8 0, Value.int .i8 0, Value.int .i8 0, Value.int .i8 0, Value.int .i8 0, Value.int .i8 0, Value.int .i8 0, Value.int .i8 0, Value.int .i8 0, Value.int .i8 0, Value.int .i8 0, Value.int .i64 0] rfl rfl _ _ Y4a HI2.out (by rw [Y4b]; rfl) zero_one ?_)
    | (refine wpList_store_row rfl 51 (.tmp 5) (.tmp 13) rfl (w.heap.size + 2) #[Value.int .i8 0, Value.int .i8 0, Value.int .i8 0, Value.int .i8 0, Value.int .i8 0, Value.int .i8 0, Value.int .i8 0, Value.int .i8 0, Value.int .i8 0, Value.int .i8 0, Value.int .i8 0, Value.int .i8 0, Value.int .i64 0] rfl rfl _ _ Y5a HI2.out (by rw [Y5b]; rfl) zero_one ?_)
    | fail)
  refine bodyPost_ret (v := .tuple #[.agg #[Value.int .i8 0, Value.int .i8 0, Value.int .i8 0, Value.int .i8 0, Value.int .i8 0, Value.int .i8 0, Value.int .i8 0, Value.int .i8 0, Value.int .i8 0, Value.int .i8 0, Value.int .i8 0, Value.int .i8 0, Value.int .i64 0], .agg #[Value.int .i8 0, Value.int .i8 0, Value.int .i8 0, Value.int .i8 0, Value.int .i8 0, Value.int .i8 0, Value.int .i8 0, Value.int .i8 0, Value.int .i8 0, Value.int .i8 0, Value.int .i8 0, Value.int .i8 0, Value.int .i64 0], .int .i64 1]) (results_two_slot rfl _ _ (w.heap.size + 1) (w.heap.size + 2) 51 51 #[Value.int .i8 0, Value.int .i8 0, Value.int .i8 0, Value.int .i8 0, Value.int .i8 0, Value.int .i8 0, Value.int .i8 0, Value.int .i8 0, Value.int .i8 0, Value.int .i8 0, Value.int .i8 0, Value.int .i8 0, Value.int .i64 0] #[Value.int .i8 0, Value.int .i8 0, Value.int .i8 0, Value.int .i8 0, Value.int .i8 0, Value.int .i8 0, Value.int .i8 0, Value.int .i8 0, Value.int .i8 0, Value.int .i8 0, Value.int .i8 0, Value.int .i8 0, Value.int .i64 0] (0, 0) (0, 0) _ (.int .i64 1) rfl rfl rfl ?_ ?_ Tryd.underlying51 rfl HI2.out HI2.out) rfl (HGO.out _ _ rfl ?_)
  · exact (setRow_heap_other _ n45).trans (q4.set _)
  · exact setRow_same _ Y5a
  · exact setRow_below (setRow_below B1.out (by omega) _) (by omega) _

set_option maxRecDepth 100000 in
set_option maxHeartbeats 4000000 in
theorem operands_range (A : Option Addr) (c : Nat) (xs : List Int) (B : Nat) (x : Int) (w : World) (h : Ints w B A xs) (hB : B ≤ w.heap.size) (hn : xs.length ≤ 1048576) (aW aS : Addr) (hD : DialErrs w aW aS) (hP : Pow10 w) (hx0 : -9223372036854775808 ≤ x) (hx1 : x ≤ 9223372036854775807) (e0 : numC xs x = 2) :
    Calls Tryd.prog 40 #[.agg #[.slice A xs.length c], .int .i64 x] w (GivesOps xs x w) := by
  have e3 : Below w.heap.size w (((w.alloc (.cells #[.slice A xs.length c] 24)).alloc (.cells #[Value.int .i8 0, Value.int .i8 0, Value.int .i8 0, Value.int .i8 0, Value.int .i8 0, Value.int .i8 0, Value.int .i8 0, Value.int .i8 0, Value.int .i8 0, Value.int .i8 0, Value.int .i8 0, Value.int .i8 0, Value.int .i64 0] 51)).alloc (.cells #[Value.int .i8 0, Value.int .i8 0, Value.int .i8 0, Value.int .i8 0, Value.int .i8 0, Value.int .i8 0, Value.int .i8 0, Value.int .i8 0, Value.int .i8 0, Value.int .i8 0, Value.int .i8 0, Value.int .i8 0, Value.int .i64 0] 51)) := below_boxed (below_boxed (below_box w _) _) _
  have c0 : (((w.alloc (.cells #[.slice A xs.length c] 24)).alloc (.cells #[Value.int .i8 0, Value.int .i8 0, Value.int .i8 0, Value.int .i8 0, Value.int .i8 0, Value.int .i8 0, Value.int .i8 0, Value.int .i8 0, Value.int .i8 0, Value.int .i8 0, Value.int .i8 0, Value.int .i8 0, Value.int .i64 0] 51)).alloc (.cells #[Value.int .i8 0, Value.int .i8 0, Value.int .i8 0, Value.int .i8 0, Value.int .i8 0, Value.int .i8 0, Value.int .i8 0, Value.int .i8 0, Value.int .i8 0, Value.int .i8 0, Value.int .i8 0, Value.int .i8 0, Value.int .i64 0] 51)).cell? ⟨w.heap.size, 0, none⟩ = some (.slice A xs.length c) := by simp [go_sem]
  have z4 : (((w.alloc (.cells #[.slice A xs.length c] 24)).alloc (.cells #[Value.int .i8 0, Value.int .i8 0, Value.int .i8 0, Value.int .i8 0, Value.int .i8 0, Value.int .i8 0, Value.int .i8 0, Value.int .i8 0, Value.int .i8 0, Value.int .i8 0, Value.int .i8 0, Value.int .i8 0, Value.int .i64 0] 51)).alloc (.cells #[Value.int .i8 0, Value.int .i8 0, Value.int .i8 0, Value.int .i8 0, Value.int .i8 0, Value.int .i8 0, Value.int .i8 0, Value.int .i8 0, Value.int .i8 0, Value.int .i8 0, Value.int .i8 0, Value.int .i8 0, Value.int .i64 0] 51)).heap[w.heap.size + 1]? = some (.cells #[Value.int .i8 0, Value.int .i8 0, Value.int .i8 0, Value.int .i8 0, Value.int .i8 0, Value.int .i8 0, Value.int .i8 0, Value.int .i8 0, Value.int .i8 0, Value.int .i8 0, Value.int .i8 0, Value.int .i8 0, Value.int .i64 0] 51 (0, 0)) := by
    rw [Below.heap_alloc _ _ _ (by simp)]
    have := heap_alloc_new (w.alloc (.cells #[.slice A xs.length c] 24)) (.cells #[Value.int .i8 0, Value.int .i8 0, Value.int .i8 0, Value.int .i8 0, Value.int .i8 0, Value.int .i8 0, Value.int .i8 0, Value.int .i8 0, Value.int .i8 0, Value.int .i8 0, Value.int .i8 0, Value.int .i8 0, Value.int .i64 0] 51)
    simpa using this
  have z5 : (((w.alloc (.cells #[.slice A xs.length c] 24)).alloc (.cells #[Value.int .i8 0, Value.int .i8 0, Value.int .i8 0, Value.int .i8 0, Value.int .i8 0, Value.int .i8 0, Value.int .i8 0, Value.int .i8 0, Value.int .i8 0, Value.int .i8 0, Value.int .i8 0, Value.int .i8 0, Value.int .i64 0] 51)).alloc (.cells #[Value.int .i8 0, Value.int .i8 0, Value.int .i8 0, Value.int .i8 0, Value.int .i8 0, Value.int .i8 0, Value.int .i8 0, Value.int .i8 0, Value.int .i8 0, Value.int .i8 0, Value.int .i8 0, Value.int .i8 0, Value.int .i64 0] 51)).heap[w.heap.size + 2]? = some (.cells #[Value.int .i8 0, Value.int .i8 0, Value.int .i8 0, Value.int .i8 0, Value.int .i8 0, Value.int .i8 0, Value.int .i8 0, Value.int .i8 0, Value.int .i8 0, Value.int .i8 0, Value.int .i8 0, Value.int .i8 0, Value.int .i64 0] 51 (0, 0)) := by
    have := heap_alloc_new ((w.alloc (.cells #[.slice A xs.length c] 24)).alloc (.cells #[Value.int .i8 0, Value.int .i8 0, Value.int .i8 0, Value.int .i8 0, Value.int .i8 0, Value.int .i8 0, Value.int .i8 0, Value.int .i8 0, Value.int .i8 0, Value.int .i8 0, Value.int .i8 0, Value.int .i8 0, Value.int .i64 0] 51)) (.cells #[Value.int .i8 0, Value.int .i8 0, Value.int .i8 0, Value.int .i8 0, Value.int .i8 0, Value.int .i8 0, Value.int .i8 0, Value.int .i8 0, Value.int .i8 0, Value.int .i8 0, Value.int .i8 0, Value.int .i8 0, Value.int .i64 0] 51)
    simpa using this
  have hsz : (((w.alloc (.cells #[.slice A xs.length c] 24)).alloc (.cells #[Value.int .i8 0, Value.int .i8 0, Value.int .i8 0, Value.int .i8 0, Value.int .i8 0, Value.int .i8 0, Value.int .i8 0, Value.int .i8 0, Value.int .i8 0, Value.int .i8 0, Value.int .i8 0, Value.int .i8 0, Value.int .i64 0] 51)).alloc (.cells #[Value.int .i8 0, Value.int .i8 0, Value.int .i8 0, Value.int .i8 0, Value.int .i8 0, Value.int .i8 0, Value.int .i8 0, Value.int .i8 0, Value.int .i8 0, Value.int .i8 0, Value.int .i8 0, Value.int .i8 0, Value.int .i64 0] 51)).heap.size = w.heap.size + 3 := by simp
  have hc := implValidCounter_any A c xs B (((w.alloc (.cells #[.slice A xs.length c] 24)).alloc (.cells #[Value.int .i8 0, Value.int .i8 0, Value.int .i8 0, Value.int .i8 0, Value.int .i8 0, Value.int .i8 0, Value.int .i8 0, Value.int .i8 0, Value.int .i8 0, Value.int .i8 0, Value.int .i8 0, Value.int .i8 0, Value.int .i64 0] 51)).alloc (.cells #[Value.int .i8 0, Value.int .i8 0, Value.int .i8 0, Value.int .i8 0, Value.int .i8 0, Value.int .i8 0, Value.int .i8 0, Value.int .i8 0, Value.int .i8 0, Value.int .i8 0, Value.int .i8 0, Value.int .i8 0, Value.int .i64 0] 51)) (h.below (e3.mono hB)) (Nat.le_trans hB e3.size) hn
  have hok : okK xs = true ∧ inB x 0 (p10 xs.length - 1) = false := by
    rcases numC_cases xs x with ⟨h1, _⟩ | ⟨_, h2, h3⟩ | ⟨h1, _⟩
    · rw [e0] at h1; cases h1
    · exact ⟨h2, h3⟩
    · rw [e0] at h1; cases h1
  rw [hok.1] at hc
  obtain ⟨_, h1, h12⟩ := okK_parts hok.1
  have hfm := fun W (hW : Below w.heap.size w W) => format_any x hx0 hx1 W (hP.below hW)
  have hdi := dial_itoa x xs.length h1 h12
  have hdk : dialK xs.length (itoaS x) ≠ 0 := by
    have h3 := hok.2
    rcases hdi with ⟨h2, _⟩ | ⟨h2, _⟩ | ⟨_, h4, h5, _⟩
    · rw [h2]; decide
    · rw [h2]; decide
    · exfalso
      have : inB x 0 (p10 xs.length - 1) = true := by simp [inB]; omega
      rw [this] at h3; cases h3
  have hdl : ∀ W, Below w.heap.size w W → Calls Tryd.prog 31 #[.int .i64 xs.length, .string (itoaS x)] W fun e w' => (∃ T v, e = .returned (.tuple #[.agg (regV (reg12 []) 0), .iface T v])) ∧ Below W.heap.size W w' := fun W hW => by
    refine (dial_any xs.length (itoaS x) (itoaS_short x hx0 hx1) aW aS W (hD.below hW)).mono ?_
    rintro e w' ⟨hb, h⟩
    rcases h with ⟨h, _⟩ | ⟨_, a, h⟩ | ⟨_, h⟩
    · exact absurd h hdk
    · exact ⟨⟨_, _, h⟩, hb⟩
    · exact ⟨⟨_, _, h⟩, hb⟩
  have hl2 : (reg12 []).length = 12 := reg12_length (by simp)
  have hgo : ∀ e w', e = .returned (.tuple #[.agg #[Value.int .i8 0, Value.int .i8 0, Value.int .i8 0, Value.int .i8 0, Value.int .i8 0, Value.int .i8 0, Value.int .i8 0, Value.int .i8 0, Value.int .i8 0, Value.int .i8 0, Value.int .i8 0, Value.int .i8 0, Value.int .i64 0], .agg #[Value.int .i8 0, Value.int .i8 0, Value.int .i8 0, Value.int .i8 0, Value.int .i8 0, Value.int .i8 0, Value.int .i8 0, Value.int .i8 0, Value.int .i8 0, Value.int .i8 0, Value.int .i8 0, Value.int .i8 0, Value.int .i64 0], .int .i64 2]) → Below w.heap.size w w' → GivesOps xs x w e w' := fun e w' he hb => ⟨hb, Or.inr ⟨by rw [e0]; decide, by rw [e0]; exact he⟩⟩
  have hi2 : (Tryd.prog.info? 51).map (·.size) = some (#[Value.int .i8 0, Value.int .i8 0, Value.int .i8 0, Value.int .i8 0, Value.int .i8 0, Value.int .i8 0, Value.int .i8 0, Value.int .i8 0, Value.int .i8 0, Value.int .i8 0, Value.int .i8 0, Value.int .i8 0, Value.int .i64 0] : Array Value).size := info_reg
  obtain ⟨v2, hv2⟩ : ∃ v, regV (reg12 []) 0 = v := ⟨_, rfl⟩
  have hq2 : v2.all (·.oneCell') = true := by rw [← hv2]; exact reg_one
  have hs2 : v2.size = 13 := by rw [← hv2]; exact regV_size hl2
  rw [hv2] at hdl
  obtain ⟨sx, hsx⟩ : ∃ v, itoaS x = v := ⟨_, rfl⟩
  rw [hsx] at hfm hdl
  have sf2 := fun W => store_fresh W v2 hs2 hq2
  have sa2 := fun W g hg => store_at W g v2 hg hs2 hq2
  obtain ⟨n, hN⟩ : ∃ n, xs.length = n := ⟨_, rfl⟩
  obtain ⟨F, hF⟩ : ∃ F, GivesOps xs x w = F := ⟨_, rfl⟩
  rw [hF] at hgo ⊢
  rw [hN] at hc hdl e3 c0 z4 z5 hsz ⊢
  have HC := Lib.hid hc
  have HFM := Lib.hid hfm
  have HDL := Lib.hid hdl
  have E3 := Lib.hid e3
  have C0 := Lib.hid c0
  have Z4 := Lib.hid z4
  have Z5 := Lib.hid z5
  have HGO := Lib.hid hgo
  have HI2 := Lib.hid hi2
  have SF2 := Lib.hid sf2
  have SA2 := Lib.hid sa2
  clear hc hfm hdl e3 c0 z4 z5 hsz hgo h hok e0 h1 h12 hdi hdk hl2 hi2 hv2 hsx hN hF hq2 sf2 sa2 hD hP hn hB hx0 hx1
  go_enter Tryd.func40, Tryd.ntmps40
  go_wp2_with fail
  refine HC.out.mono ?_
  rintro e w1 ⟨rfl, hb⟩
  have c1 := cell_kept C0.out hb
  have B1 := Lib.hid (below_step E3.out hb)
  have Y4 : Hid (Has13 w1 (w.heap.size + 1)) := ⟨_, (hb.block (w.heap.size + 1) (Array.getElem?_eq_some_iff.1 Z4.out).1).trans Z4.out, rfl⟩
  have Y5 : Hid (Has13 w1 (w.heap.size + 2)) := ⟨_, (hb.block (w.heap.size + 2) (Array.getElem?_eq_some_iff.1 Z5.out).1).trans Z5.out, rfl⟩
  have n45 : w.heap.size + 1 ≠ w.heap.size + 2 := by omega
  clear hb C0 Z4 Z5 E3 HC
  go_upto_region 3 with fail
  go_cut [7, 8] (fun s7 s8 wx => CutErr w1 s7 s8 wx)
  case first =>
    have K0 := Lib.hid (below_drew (Below.refl w1.heap.size w1))
    have sf := SF2.out
    have sa := SA2.out
    go_region_held3 (fun W => W.cell? ⟨w.heap.size, 0, none⟩ = some (.slice A n c))
      (first | exact c1 | exact cell_kept c1 K0.out | exact cell_kept c1 (below_boxed K0.out _) | exact cell_kept c1 K1.out | exact cell_kept c1 (below_boxed K1.out _) | exact cell_kept c1 K2.out | exact cell_kept c1 (below_boxed K2.out _) | exact cell_kept c1 (setRow_below (below_boxed K2.out _) K2.out.size _) | exact cell_kept c1 (setRow_below K2.out (Nat.le_refl _) _) | exact cell_kept c1 (setRow_below K2.out K1.out.size _) | go_keep)
      (first
        | (go_at_call 32
           refine (HFM.out _ (below_boxed (below_step B1.out K0.out) _)).mono ?_
           rintro e w2 ⟨rfl, hb⟩
           have K1 : Hid (Below w1.heap.size w1 w2) := below_step (below_boxed K0.out _) hb
           have X1 : Hid (w2.heap[w1.heap.size]? = some (.cells #[Value.int .i8 0, Value.int .i8 0, Value.int .i8 0, Value.int .i8 0, Value.int .i8 0, Value.int .i8 0, Value.int .i8 0, Value.int .i8 0, Value.int .i8 0, Value.int .i8 0, Value.int .i8 0, Value.int .i8 0, Value.int .i64 0] 51 (0, 0))) := (hb.block _ (by simp)).trans (heap_alloc_new w1.drew _)
           clear hb)
        | (go_at_call 32
           refine (HFM.out _ (below_step B1.out K0.out)).mono ?_
           rintro e w2 ⟨rfl, hb⟩
           have K1 : Hid (Below w1.heap.size w1 w2) := below_step K0.out hb
           clear hb)
        | (go_at_call 31
           refine (HDL.out _ (below_boxed (below_step B1.out K1.out) _)).mono ?_
           rintro e w3 ⟨⟨T, v, rfl⟩, hb⟩
           have K2 : Hid (Below w1.heap.size w1 w3) := below_step (below_boxed K1.out _) hb
           have X2 : w3.heap[w2.heap.size]? = some (.cells #[Value.int .i8 0, Value.int .i8 0, Value.int .i8 0, Value.int .i8 0, Value.int .i8 0, Value.int .i8 0, Value.int .i8 0, Value.int .i8 0, Value.int .i8 0, Value.int .i8 0, Value.int .i8 0, Value.int .i8 0, Value.int .i64 0] 51 (0, 0)) := (hb.block _ (by simp)).trans (heap_alloc_new w2 _)
           clear hb)
        | (go_at_call 31
           refine (HDL.out _ (below_step B1.out K1.out)).mono ?_
           rintro e w3 ⟨⟨T, v, rfl⟩, hb⟩
           have K2 : Hid (Below w1.heap.size w1 w3) := below_step K1.out hb
           have X2 : w3.heap[w1.heap.size]? = some (.cells #[Value.int .i8 0, Value.int .i8 0, Value.int .i8 0, Value.int .i8 0, Value.int .i8 0, Value.int .i8 0, Value.int .i8 0, Value.int .i8 0, Value.int .i8 0, Value.int .i8 0, Value.int .i8 0, Value.int .i8 0, Value.int .i64 0] 51 (0, 0)) := (hb.block _ (Array.getElem?_eq_some_iff.1 X1.out).1).trans X1.out
           clear hb)
        | (go_at_call 31
           refine (HDL.out _ (below_step B1.out K1.out)).mono ?_
           rintro e w3 ⟨⟨T, v, rfl⟩, hb⟩
           have K2 : Hid (Below w1.heap.size w1 w3) := below_step K1.out hb
           clear hb))
    all_goals (go_wp2_with fail; go_meet; first | exact ⟨w3.heap.size, T, v, rfl, rfl, setRow_below (below_boxed K2.out _) K2.out.size _⟩ | exact ⟨w1.heap.size, T, v, rfl, rfl, setRow_below K2.out (Nat.le_refl _) _⟩ | exact ⟨w2.heap.size, T, v, rfl, rfl, setRow_below K2.out K1.out.size _⟩)
  case rest =>
    obtain ⟨g, T, v, rfl, rfl, hb⟩ := hcut
    rename World => w2
    have B2 := Lib.hid (below_step B1.out hb)
    have hne : ∀ (w : World), (binOp .neq 53 (.iface T v) .nilIface).run Tryd.prog w = .ok (.bool true) w := fun w => run_neq_iface_nil w 53 (by kernel_rfl) _ _
    have U4 := Y4.out.below hb
    have Y5 := Y5.out.below hb
    clear hb c1 Y4 B1 HFM HDL SF2 SA2
    have Y4 := U4
    clear U4
    obtain ⟨o4, Y4a, Y4b⟩ := Y4
    have q5 := Has13.other (Y5) (w.heap.size + 1) #[Value.int .i8 0, Value.int .i8 0, Value.int .i8 0, Value.int .i8 0, Value.int .i8 0, Value.int .i8 0, Value.int .i8 0, Value.int .i8 0, Value.int .i8 0, Value.int .i8 0, Value.int .i8 0, Value.int .i8 0, Value.int .i64 0] rfl
    have q4 : Has13 w2 (w.heap.size + 1) := ⟨o4, Y4a, Y4b⟩
    obtain ⟨o5, Y5a, Y5b⟩ := q5
    go_wp2_with (first
      | (refine wpList_store_row rfl 51 (.tmp 4) (.tmp 25) rfl (w.heap.size + 1) #[Value.int .i8 0, Value.int .i8 0, Value.int .i8 0, Value.int .i8 0, Value.int .i8 0, Value.int .i8 0, Value.int .i8 0, Value.int .i8 0, Value.int .i8 0, Value.int .i8 0, Value.int .i8 0, Value.int .i8 0, Value.int .i64 0] rfl rfl _ _ Y4a HI2.out (by rw [Y4b]; rfl) zero_one ?_)
      | (refine wpList_store_row rfl 51 (.tmp 5) (.tmp 26) rfl (w.heap.size + 2) #[Value.int .i8 0, Value.int .i8 0, Value.int .i8 0, Value.int .i8 0, Value.int .i8 0, Value.int .i8 0, Value.int .i8 0, Value.int .i8 0, Value.int .i8 0, Value.int .i8 0, Value.int .i8 0, Value.int .i8 0, Value.int .i64 0] rfl rfl _ _ Y5a HI2.out (by rw [Y5b]; rfl) zero_one ?_)
      | fail)
    refine bodyPost_ret (v := .tuple #[.agg #[Value.int .i8 0, Value.int .i8 0, Value.int .i8 0, Value.int .i8 0, Value.int .i8 0, Value.int .i8 0, Value.int .i8 0, Value.int .i8 0, Value.int .i8 0, Value.int .i8 0, Value.int .i8 0, Value.int .i8 0, Value.int .i64 0], .agg #[Value.int .i8 0, Value.int .i8 0, Value.int .i8 0, Value.int .i8 0, Value.int .i8 0, Value.int .i8 0, Value.int .i8 0, Value.int .i8 0, Value.int .i8 0, Value.int .i8 0, Value.int .i8 0, Value.int .i8 0, Value.int .i64 0], .int .i64 2]) (results_two_slot rfl _ _ (w.heap.size + 1) (w.heap.size + 2) 51 51 #[Value.int .i8 0, Value.int .i8 0, Value.int .i8 0, Value.int .i8 0, Value.int .i8 0, Value.int .i8 0, Value.int .i8 0, Value.int .i8 0, Value.int .i8 0, Value.int .i8 0, Value.int .i8 0, Value.int .i8 0, Value.int .i64 0] #[Value.int .i8 0, Value.int .i8 0, Value.int .i8 0, Value.int .i8 0, Value.int .i8 0, Value.int .i8 0, Value.int .i8 0, Value.int .i8 0, Value.int .i8 0, Value.int .i8 0, Value.int .i8 0, Value.int .i8 0, Value.int .i64 0] (0, 0) (0, 0) _ (.int .i64 2) rfl rfl rfl ?_ ?_ Tryd.underlying51 rfl HI2.out HI2.out) rfl (HGO.out _ _ rfl ?_)
    · exact (setRow_heap_other _ n45).trans (q4.set _)
    · exact setRow_same _ Y5a
    · exact setRow_below (setRow_below B2.out (by omega) _) (by omega) _

theorem operands_any (A : Option Addr) (c : Nat) (xs : List Int) (B : Nat) (x : Int) (w : World) (h : Ints w B A xs) (hB : B ≤ w.heap.size) (hn : xs.length ≤ 1048576) (aW aS : Addr) (hD : DialErrs w aW aS) (hP : Pow10 w) (hx0 : -9223372036854775808 ≤ x) (hx1 : x ≤ 9223372036854775807) :
    Calls Tryd.prog 40 #[.agg #[.slice A xs.length c], .int .i64 x] w (GivesOps xs x w) := by
  rcases numC_cases xs x with ⟨_, h2⟩ | ⟨h1, _⟩ | ⟨h1, _⟩
  · exact operands_invalid A c xs B x w h hB hn aW aS hD hP hx0 hx1 h2
  · exact operands_range A c xs B x w h hB hn aW aS hD hP hx0 hx1 h1
  · exact operands_good A c xs B x w h hB hn aW aS hD hP hx0 hx1 h1

end Go.Proofs.YtkiphejkgpfjjaaDoor
