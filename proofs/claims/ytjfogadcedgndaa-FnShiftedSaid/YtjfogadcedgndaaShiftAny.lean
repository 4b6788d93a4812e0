/- The functions of chapter 6 as the law FnShifted meets them: one contract each, whether they succeed or not; and what their answers have to do with each other. -/
import Derived.Test.YtjfogadcedgndaaSh2
import Derived.Test.YtjfogadcedgndaaSh7
import Derived.Test.YtjfogadcedgndaaShiftOfI
import Derived.Test.YtjfogadcedgndaaLace
import Derived.Test.YtjfogadcedgndaaLaced
import Derived.Test.YtjfogadcedgndaaTorn
import Derived.Test.YtjfogadcedgndaaBlankF
import Derived.Test.YtjfogadcedgndaaNear3
namespace Go.Proofs.Ytjfogadcedgndaa
open Go.ChangeShapes Go.WideShapes Go.ChangeAt Go.RowKit

/-- A card, and a code. -/
def GivesCC (ys : List Int) (a : Int) (w : World) (e : Ending) (w' : World) : Prop :=
  ∃ A cap, e = .returned (.tuple #[.agg #[.slice A ys.length cap], .int .i64 a]) ∧ Below w.heap.size w w' ∧ Ints w' w'.heap.size A ys
/-- A card whose capacity is right, and a code. -/
def GivesCK (ys : List Int) (a : Int) (w : World) (e : Ending) (w' : World) : Prop :=
  ∃ A cap, e = .returned (.tuple #[.agg #[.slice A ys.length cap], .int .i64 a]) ∧ Below w.heap.size w w' ∧ (ys.length ≤ cap ∧ cap ≤ 9223372036854775807) ∧ Ints w' w'.heap.size A ys
theorem givesCC_good {ys : List Int} {w w' : World} {e : Ending} (h : GivesCard ys w e w') : GivesCC ys 0 w e w' := by
  obtain ⟨g, cap, ex, he, _, hb, hr⟩ := h
  exact ⟨_, cap, he, hb, hr.ints.more hr.lt⟩
theorem givesCC_bad {a : Int} {w w' : World} {e : Ending} (h : GivesCode a w e w') : GivesCC [] a w e w' := by
  obtain ⟨he, hb⟩ := h
  exact ⟨none, 0, he, hb, Ints.nil⟩
theorem givesCK_good {ys : List Int} {w w' : World} {e : Ending} (h : GivesCap ys w e w') : GivesCK ys 0 w e w' := by
  obtain ⟨g, cap, ex, he, hc, _, hb, hr⟩ := h
  exact ⟨_, cap, he, hb, hc, hr.ints.more hr.lt⟩
theorem givesCK_bad {a : Int} {w w' : World} {e : Ending} (h : GivesCode a w e w') : GivesCK [] a w e w' := by
  obtain ⟨he, hb⟩ := h
  exact ⟨none, 0, he, hb, ⟨by simp, by omega⟩, Ints.nil⟩

def shV (xs : List Int) (b : Int) : List Int := if shiftCode xs b = 0 then shiftL xs b else []
def laceV (xs : List Int) (b : Int) : List Int := if colCode xs b = 0 then xs.set b.toNat 4095 else []
def lacedV (xs : List Int) : List Int := if okB xs = true then selTo (laceQ xs) xs.length else []
def lacedC (xs : List Int) : Int := if okB xs = true then 0 else 1
def tornV (xs : List Int) (a b : Int) : List Int := if partCode xs a b = 0 then zeroTo xs a.toNat b.toNat else []

theorem fieldB_nat {a b n : Int} (h : fieldB a b n = true) : ∃ i j : Nat, a = i ∧ b = j ∧ i < j ∧ (j : Int) ≤ n := by
  have h' : 0 ≤ a ∧ a < b ∧ b ≤ n := by simpa [fieldB] using h
  exact ⟨a.toNat, b.toNat, by omega, by omega, by omega, by omega⟩
theorem partCode_zero {xs : List Int} {a b : Int} (h : partCode xs a b = 0) : okB xs = true ∧ fieldB a b xs.length = true := by
  rcases partCode_cases xs a b with h' | h' | h'
  · rw [h'.1] at h; exact absurd h (by decide)
  · rw [h'.1] at h; exact absurd h (by decide)
  · exact h'.2
theorem shiftCode_zero {xs : List Int} {b : Int} (h : shiftCode xs b = 0) : okB xs = true ∧ inB b (-20) 20 = true := by
  rcases shiftCode_cases xs b with h' | h' | h'
  · rw [h'.1] at h; exact absurd h (by decide)
  · rw [h'.1] at h; exact absurd h (by decide)
  · exact h'.2

section
variable (A A' : Option Addr) (c c' : Nat) (xs ys : List Int) (a b : Int) (w : World) (h : Ints w w.heap.size A xs) (h' : Ints w w.heap.size A' ys) (hn : xs.length ≤ 1048576) (hn' : ys.length ≤ 1048576)
include h hn
theorem implShiftC_any : Calls Try.prog 32 #[.agg #[.slice A xs.length c], .int .i64 b] w (GivesCC (shV xs b) (shiftCode xs b) w) := by
  by_cases e : shiftCode xs b = 0
  · rw [shV, if_pos e, e]
    obtain ⟨h1, h2⟩ := shiftCode_zero e
    exact (implShift_good A c xs _ b w h (Nat.le_refl _) hn h1 h2).mono fun _ _ => givesCC_good
  · rw [shV, if_neg e]
    exact (implShift_bad A c xs _ b w h (Nat.le_refl _) hn e).mono fun _ _ => givesCC_bad
theorem specShiftC_any : Calls Try.prog 33 #[.agg #[.slice A xs.length c], .int .i64 b] w (GivesCC (shV xs b) (shiftCode xs b) w) := by
  by_cases e : shiftCode xs b = 0
  · rw [shV, if_pos e, e]
    obtain ⟨h1, h2⟩ := shiftCode_zero e
    exact (specShift_good A c xs _ b w h (Nat.le_refl _) hn h1 h2).mono fun _ _ => givesCC_good
  · rw [shV, if_neg e]
    exact (specShift_bad A c xs _ b w h (Nat.le_refl _) hn e).mono fun _ _ => givesCC_bad
theorem implLaceC_any : Calls Try.prog 35 #[.agg #[.slice A xs.length c], .int .i64 b] w (GivesCC (laceV xs b) (colCode xs b) w) := by
  by_cases e : colCode xs b = 0
  · rw [laceV, if_pos e, e]
    obtain ⟨h1, k, rfl, hk⟩ := colCode_zero e
    exact (implLace_good A c xs _ k w h (Nat.le_refl _) hn hk h1).mono fun _ _ => givesCC_good
  · rw [laceV, if_neg e]
    exact (implLace_bad A c xs _ b w h (Nat.le_refl _) hn e).mono fun _ _ => givesCC_bad
theorem specLaceC_any : Calls Try.prog 36 #[.agg #[.slice A xs.length c], .int .i64 b] w (GivesCC (laceV xs b) (colCode xs b) w) := by
  by_cases e : colCode xs b = 0
  · rw [laceV, if_pos e, e]
    obtain ⟨h1, k, rfl, hk⟩ := colCode_zero e
    exact (specLace_good A c xs _ k w h (Nat.le_refl _) hn hk h1).mono fun _ _ => givesCC_good
  · rw [laceV, if_neg e]
    exact (specLace_bad A c xs _ b w h (Nat.le_refl _) hn e).mono fun _ _ => givesCC_bad
theorem implLacedC_any : Calls Try.prog 38 #[.agg #[.slice A xs.length c]] w (GivesLC (lacedV xs) (lacedC xs) w) := by
  cases e : okB xs
  · rw [lacedV, lacedC, e]
    exact (implLaced_bad A c xs _ w h (Nat.le_refl _) hn e).mono fun _ _ => givesLC_bad
  · rw [lacedV, lacedC, e]
    exact (implLaced_good A c xs _ w h (Nat.le_refl _) hn e).mono fun _ _ => givesLC_good
theorem specLacedC_any : Calls Try.prog 39 #[.agg #[.slice A xs.length c]] w (GivesLC (lacedV xs) (lacedC xs) w) := by
  cases e : okB xs
  · rw [lacedV, lacedC, e]
    exact (specLaced_bad A c xs _ w h (Nat.le_refl _) hn e).mono fun _ _ => givesLC_bad
  · rw [lacedV, lacedC, e]
    exact (specLaced_good A c xs _ w h (Nat.le_refl _) hn e).mono fun _ _ => givesLC_good
theorem specTornC_any : Calls Try.prog 45 #[.agg #[.slice A xs.length c], .agg #[.int .i64 a, .int .i64 b]] w (GivesCC (tornV xs a b) (partCode xs a b) w) := by
  by_cases e : partCode xs a b = 0
  · rw [tornV, if_pos e, e]
    obtain ⟨h1, h2⟩ := partCode_zero e
    obtain ⟨i, j, rfl, rfl, hij, hj⟩ := fieldB_nat h2
    exact (specTorn_good A c xs _ i j w h (Nat.le_refl _) hn hij (by omega) e).mono fun _ _ => givesCC_good
  · rw [tornV, if_neg e]
    exact (specTorn_bad A c xs _ a b w h (Nat.le_refl _) hn e).mono fun _ _ => givesCC_bad
theorem implTornC_any (hc : xs.length ≤ c ∧ c ≤ 9223372036854775807) : Calls Try.prog 44 #[.agg #[.slice A xs.length c], .agg #[.int .i64 a, .int .i64 b]] w (GivesCK (tornV xs a b) (partCode xs a b) w) := by
  by_cases e : partCode xs a b = 0
  · rw [tornV, if_pos e, e]
    obtain ⟨h1, h2⟩ := partCode_zero e
    obtain ⟨i, j, rfl, rfl, hij, hj⟩ := fieldB_nat h2
    obtain ⟨bk, off, rfl, _⟩ := h (by omega)
    exact (implTorn_goodC bk off c xs _ i j w h (Nat.le_refl _) hc.1 ⟨hn, hc.2⟩ hij (by omega) e).mono fun _ _ => givesCK_good
  · rw [tornV, if_neg e]
    exact (implTorn_bad A c xs _ a b w h (Nat.le_refl _) hn e).mono fun _ _ => givesCK_bad
include h' hn'
theorem implShiftOfC_any : Calls Try.prog 29 #[.agg #[.slice A xs.length c], .agg #[.slice A' ys.length c']] w fun e w' => e = .returned (.tuple #[.int .i64 (shiftVal xs ys), .int .i64 (shiftErr xs ys)]) ∧ Below w.heap.size w w' :=
  implShiftOf_any A A' c c' xs ys _ _ w h h' (Nat.le_refl _) (Nat.le_refl _) hn hn'
theorem specShiftOfC_any : Calls Try.prog 30 #[.agg #[.slice A xs.length c], .agg #[.slice A' ys.length c']] w fun e w' => e = .returned (.tuple #[.int .i64 (shiftVal xs ys), .int .i64 (shiftErr xs ys)]) ∧ Below w.heap.size w w' :=
  specShiftOf_any A A' c c' xs ys _ _ w h h' (Nat.le_refl _) (Nat.le_refl _) hn hn'
end

theorem okB_same {xs ys : List Int} (h : okB xs = true) (hl : ys.length = xs.length) (hm : legalB ys = true) : okB ys = true := by
  rw [okB, Bool.and_eq_true] at h
  rw [okB, hm, hl, h.2]
  rfl

/-- A card whose column is laced has it among its laced ones. -/
theorem lace_has {xs : List Int} {b : Int} (h : colCode xs b = 0) : lacedC (laceV xs b) = 0 ∧ b ∈ lacedV (laceV xs b) ∧ (lacedV (laceV xs b)).length ≤ xs.length := by
  obtain ⟨h1, k, rfl, hk⟩ := colCode_zero h
  rw [laceV, if_pos h, Int.toNat_natCast]
  have hm : legalB (xs.set k 4095) = true := by
    have hx := (okB_parts h1).1
    rw [legalB, List.all_eq_true] at hx ⊢
    intro x hx'
    rcases List.mem_or_eq_of_mem_set hx' with hx'' | rfl
    · exact hx x hx''
    · decide
  have ho : okB (xs.set k 4095) = true := okB_same h1 (by simp) hm
  rw [lacedC, lacedV, if_pos ho, if_pos ho]
  refine ⟨rfl, ?_, ?_⟩
  · rw [selTo, List.mem_map]
    refine ⟨k, ?_, rfl⟩
    rw [List.mem_filter, List.mem_range]
    refine ⟨by simpa using hk, ?_⟩
    simp [laceQ, hk]
  · have := selTo_length (laceQ (xs.set k 4095)) (xs.set k 4095).length
    rw [List.length_set] at this
    rw [List.length_set]
    exact this

/-- Torn columns are blank. -/
theorem torn_blank {xs : List Int} {i j : Nat} (h : partCode xs i j = 0) : partCode (zeroTo xs i j) i j = 0 ∧ blankB (partOf (zeroTo xs i j) i j) = true := by
  obtain ⟨h1, h2⟩ := partCode_zero h
  have hm : legalB (zeroTo xs i j) = true := by
    have hx := (okB_parts h1).1
    rw [legalB, List.all_eq_true]
    intro x hx'
    rw [zeroTo, List.mem_map] at hx'
    obtain ⟨t, ht, rfl⟩ := hx'
    rw [List.mem_range] at ht
    split
    · decide
    · have := legal_at hx ht
      rw [maskB, inB, Bool.and_eq_true, decide_eq_true_eq, decide_eq_true_eq]
      exact this
  have ho : okB (zeroTo xs i j) = true := okB_same h1 (zeroTo_length xs i j) hm
  refine ⟨?_, ?_⟩
  · rw [partCode, ho, zeroTo_length, h2]
    rfl
  · rw [blankB, List.all_eq_true]
    intro x hx
    obtain ⟨t, ht, e⟩ := List.mem_iff_getElem.1 hx
    have hj : j ≤ xs.length := by
      obtain ⟨i', j', e1, e2, h3, h4⟩ := fieldB_nat h2
      omega
    rw [partOf_length _ _ _ (by rw [zeroTo_length]; exact hj)] at ht
    have e' : x = 0 := by
      rw [← e]
      simp only [partOf, zeroTo, List.getElem_take, List.getElem_drop, List.getElem_map, List.getElem_range]
      rw [if_pos (by omega)]
    rw [e']
    rfl

section
variable (A : Option Addr) (c : Nat) (xs : List Int) (a b : Int) (w : World)
theorem implBlankTorn (e : partCode xs a b = 0) (h : Ints w w.heap.size A (tornV xs a b)) (hn : xs.length ≤ 1048576) (hc : (tornV xs a b).length ≤ c ∧ c ≤ 9223372036854775807) :
    Calls Try.prog 47 #[.agg #[.slice A (tornV xs a b).length c], .agg #[.int .i64 a, .int .i64 b]] w fun e w' => e = .returned (.tuple #[.bool true, .int .i64 0]) ∧ Below w.heap.size w w' := by
  obtain ⟨h1, h2⟩ := partCode_zero e
  obtain ⟨i, j, rfl, rfl, hij, hj⟩ := fieldB_nat h2
  rw [tornV, if_pos e, Int.toNat_natCast, Int.toNat_natCast] at h hc ⊢
  obtain ⟨t1, t2⟩ := torn_blank e
  have hl := zeroTo_length xs i j
  obtain ⟨bk, off, rfl, _⟩ := h (by omega)
  have := implBlankF_good bk off c (zeroTo xs i j) _ i j w h (Nat.le_refl _) hc.1 ⟨by omega, hc.2⟩ hij (by omega) t1
  rwa [t2] at this
end

/-- The nearest card of a deck is no further away than any other. -/
theorem near_least {D : List CardV} {ys : List Int} (h : nearCode D ys = 0) {k : Nat} {d : CardV} (hd : D[k]? = some d) : pairCode d.xs ys = 0 ∧ minTo (distL (holes D) ys) (D.length - 1) ≤ distV d.xs ys ∧ (k = bestTo (distL (holes D) ys) (D.length - 1) → distV d.xs ys = minTo (distL (holes D) ys) (D.length - 1)) := by
  have hk : k < D.length := by
    rcases Nat.lt_or_ge k D.length with hk | hk
    · exact hk
    · rw [List.getElem?_eq_none hk] at hd; cases hd
  rcases nearCode_cases D ys with ⟨e, _⟩ | ⟨e, _⟩ | ⟨e, _⟩ | hr
  · rw [e] at h; exact absurd h (by decide)
  · rw [e] at h; exact absurd h (by decide)
  · rw [e] at h; exact absurd h (by decide)
  · rcases hr with ⟨e, hv, hv', h0, hz⟩ | ⟨e, hv, hv', h0, hz⟩
    all_goals first
      | (rw [e] at h; exact absurd h (by decide))
      | (obtain ⟨g1, g2⟩ := deckB_at hv hd
         have hp : pairCode d.xs ys = 0 := by
           rw [pairCode, g1, hv', g2, hz]
           simp
         have hdv : distV d.xs ys = (distL (holes D) ys)[k]?.getD 0 := by rw [distV, if_pos hp, distL_get D ys k d hd]
         refine ⟨hp, ?_, ?_⟩
         · rw [hdv]
           exact min_le _ _ k (by omega)
         · intro hb
           rw [hdv, hb]
           exact best_min _ _)
end Go.Proofs.Ytjfogadcedgndaa
