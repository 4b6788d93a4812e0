/- The character of holes: spec.l03Char, spec.CharOf and impl.CharOf, for every number: contracts, of spec.l03Order and bits.Len64 (of single bits) too. -/
import Derived.Test.YtamookdlbmbncaaCharTab
import Derived.Test.YtamookdlbmbncaaValid
namespace Go.Proofs.Ytamookdlbmbncaa
open Go.ChangeShapes Go.WideShapes Go.ChangeAt Go.RowKit

set_option maxRecDepth 100000 in
theorem len64_bit (n : Nat) (h : n ≤ 9) (w : World) :
    Calls Try.prog 102 #[.int .u64 (bitV n)] w fun e w' => e = .returned (.int .i64 n) ∧ w = w' := by
  rcases nine_cases h with rfl | rfl | rfl | rfl | rfl | rfl | rfl | rfl | rfl | rfl
  all_goals
    clear h
    simp only [bitV]
    go_enter Try.func102, Try.ntmps102
    go_wp2
    go_ret
    exact ⟨by kernel_rfl, rfl⟩

theorem bitV_popc (n : Nat) (h : n ≤ 9) : popc 12 (bitV n).toNat ≤ 1 ∧ 0 ≤ bitV n ∧ bitV n ≤ 256 := by
  rcases nine_cases h with rfl | rfl | rfl | rfl | rfl | rfl | rfl | rfl | rfl | rfl <;> decide

def zoneN (m : Nat) : Nat := (bits .and .u64 (m : Int) 7).toNat
theorem zone_parts : ∀ a b : Fin 64, bits .and .u64 ((64 * a.val + b.val : Nat) : Int) 7 = ((((64 * a.val + b.val) % 8 : Nat)) : Int) := by decide +kernel
theorem zone_mod (m : Nat) (hm : m < 4096) : bits .and .u64 (m : Int) 7 = ((m % 8 : Nat) : Int) := by
  have h := zone_parts ⟨m / 64, by omega⟩ ⟨m % 64, by omega⟩
  have e : 64 * (m / 64) + m % 64 = m := by omega
  simp only [e] at h
  exact h

/-- the rank of the character of holes -/
def rankM (m : Int) : Option Nat := (List.range 40).find? fun j => codeS (charR j) == m
def charOk (m : Int) : Bool := (rankM m).isSome
def charV (m : Int) : Int := match rankM m with | some j => charR j | none => 0
theorem rankM_none {m : Int} (h : rankM m = none) : ∀ k, k < 40 → codeS (charR k) ≠ m := by
  intro k hk
  have := List.find?_eq_none.1 h k (List.mem_range.2 hk)
  simpa using this
theorem rankM_some {m : Int} {j : Nat} (h : rankM m = some j) : j < 40 ∧ codeS (charR j) = m ∧ ∀ k, k < j → codeS (charR k) ≠ m := by
  obtain ⟨hp, i, hi, hij, hbef⟩ := List.find?_eq_some_iff_getElem.1 h
  have hi' : i = j := by simpa using hij
  subst hi'
  refine ⟨by simpa using hi, by simpa using hp, fun k hk => ?_⟩
  have := hbef k hk
  simpa using this
theorem rankM_of {m : Int} {j : Nat} (h1 : j < 40) (h2 : codeS (charR j) = m) (h3 : ∀ k, k < j → codeS (charR k) ≠ m) : rankM m = some j := by
  cases h : rankM m with
  | none => exact absurd h2 (rankM_none h j h1)
  | some i =>
    obtain ⟨_, e2, e3⟩ := rankM_some h
    rcases Nat.lt_trichotomy i j with hl | hl | hl
    · exact absurd e2 (h3 i hl)
    · rw [hl]
    · exact absurd h2 (e3 j hl)
theorem rankM_out {m : Int} (h : inB m 0 4095 = false) : rankM m = none := by
  have hr : ∀ k : Fin 40, codesL[k.val]?.getD 0 ≤ 4095 := by decide +kernel
  cases e : rankM m with
  | none => rfl
  | some i =>
    obtain ⟨e1, e2, _⟩ := rankM_some e
    rw [codes_at i e1] at e2
    have hh : codesL[i]?.getD 0 ≤ 4095 := hr ⟨i, e1⟩
    simp only [inB] at h
    rw [← e2] at h
    simp at h
    omega
theorem charV_le (m : Int) : 0 ≤ charV m ∧ charV m ≤ 255 := by
  unfold charV
  split
  · exact charR_le _
  · decide

end Go.Proofs.Ytamookdlbmbncaa