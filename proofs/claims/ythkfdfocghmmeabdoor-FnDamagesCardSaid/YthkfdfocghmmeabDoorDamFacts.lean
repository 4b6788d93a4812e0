/- What holds of distances, added and lost holes, and repaired cards: plain facts. -/
import Derived.Test.YthkfdfocghmmeabDoorMore
import Derived.Test.YthkfdfocghmmeabDoorDist
import Derived.Test.YthkfdfocghmmeabDoorRepCard
import Derived.Test.YthkfdfocghmmeabDoorIllegal
namespace Go.Proofs.YthkfdfocghmmeabDoor
open Go.ChangeShapes Go.WideShapes Go.ChangeAt Go.RowKit

theorem andNot_zero (a b : Nat) (ha : a < 4096) (_ : b < 4096) : (bits .andNot .i64 (a : Int) (b : Int) = 0) ↔ (BitVec.ofNat 64 a &&& ~~~ BitVec.ofNat 64 b = 0#64) := by
  have e : bits .andNot .i64 (a : Int) (b : Int) = IntKind.i64.wrap (((BitVec.ofNat 64 a &&& ~~~ BitVec.ofNat 64 b).toNat : Nat) : Int) := by
    show IntKind.i64.wrap ((BitVec.ofInt 64 (a : Int) &&& ~~~ BitVec.ofInt 64 (b : Int)).toNat : Int) = _
    rw [BitVec.ofInt_natCast, BitVec.ofInt_natCast]
  have hle : (BitVec.ofNat 64 a &&& ~~~ BitVec.ofNat 64 b).toNat ≤ a := by
    rw [BitVec.toNat_and]
    refine Nat.le_trans Nat.and_le_left ?_
    rw [BitVec.toNat_ofNat]
    exact Nat.mod_le _ _
  rw [e, IntWalk.i64_in _ (by omega)]
  constructor
  · intro h
    apply BitVec.eq_of_toNat_eq
    rw [BitVec.toNat_zero]
    omega
  · intro h
    rw [h]
    rfl
theorem andNot_self (x : Int) (hx : 0 ≤ x ∧ x ≤ 4095) : bits .andNot .i64 x x = 0 := by
  obtain ⟨a, rfl⟩ : ∃ a : Nat, x = a := ⟨x.toNat, by omega⟩
  rw [andNot_zero a a (by omega) (by omega)]
  apply BitVec.eq_of_getLsbD_eq
  intro i hi
  simp [hi]
theorem andNot_both {x y : Int} (hx : 0 ≤ x ∧ x ≤ 4095) (hy : 0 ≤ y ∧ y ≤ 4095) (h1 : bits .andNot .i64 x y = 0) (h2 : bits .andNot .i64 y x = 0) : x = y := by
  obtain ⟨a, rfl⟩ : ∃ a : Nat, x = a := ⟨x.toNat, by omega⟩
  obtain ⟨b, rfl⟩ : ∃ b : Nat, y = b := ⟨y.toNat, by omega⟩
  rw [andNot_zero a b (by omega) (by omega)] at h1
  rw [andNot_zero b a (by omega) (by omega)] at h2
  have e : BitVec.ofNat 64 a = BitVec.ofNat 64 b := by
    apply BitVec.eq_of_getLsbD_eq
    intro i hi
    have e1 := congrArg (fun v => v.getLsbD i) h1
    have e2 := congrArg (fun v => v.getLsbD i) h2
    simp only [BitVec.getLsbD_and, BitVec.getLsbD_not, hi, decide_true, Bool.true_and, BitVec.getLsbD_zero] at e1 e2
    cases h3 : (BitVec.ofNat 64 a).getLsbD i <;> cases h4 : (BitVec.ofNat 64 b).getLsbD i <;> rw [h3, h4] at e1 e2 <;> first | rfl | exact absurd e1 (by decide) | exact absurd e2 (by decide)
  have e' := congrArg BitVec.toNat e
  rw [BitVec.toNat_ofNat, BitVec.toNat_ofNat, Nat.mod_eq_of_lt (by omega), Nat.mod_eq_of_lt (by omega)] at e'
  omega

/-- the columns that the functions answer -/
def addL (xs ys : List Int) : List Int := if pairCode xs ys = 0 then selTo (moreQ ys xs) ys.length else []
def lostL (xs ys : List Int) : List Int := if pairCode xs ys = 0 then selTo (moreQ xs ys) xs.length else []
theorem add_lost (xs ys : List Int) : addL ys xs = lostL xs ys := by rw [addL, lostL, pairCode_comm ys xs]
theorem distV_comm (xs ys : List Int) : distV ys xs = distV xs ys := by
  rw [distV, distV, pairCode_comm ys xs]
  by_cases h : pairCode xs ys = 0
  · obtain ⟨hv, hv', _⟩ := pairCode_zero h
    rw [if_pos h, if_pos h, distN_comm ys xs (okB_parts hv').1 (okB_parts hv).1]
  · rw [if_neg h, if_neg h]
theorem selTo_len (q : Nat → Bool) (n : Nat) : (selTo q n).length = 0 ↔ ∀ k, k < n → q k = false := by
  simp only [selTo, List.length_map, List.length_eq_zero_iff, List.filter_eq_nil_iff, List.mem_range, Bool.not_eq_true]
theorem dist_sel {xs ys : List Int} (h : pairCode xs ys = 0) : distV xs ys = 0 ↔ ((addL xs ys).length = 0 ∧ (lostL xs ys).length = 0) := by
  obtain ⟨hv, hv', hl⟩ := pairCode_zero h
  have hx := (okB_parts hv).1
  have hy := (okB_parts hv').1
  rw [distV, addL, lostL, if_pos h, if_pos h, if_pos h, selTo_len, selTo_len]
  have hz := distN_zero xs ys hx hy hl
  constructor
  · intro e
    have e' : distN xs ys = 0 := by omega
    obtain rfl := hz.1 e'
    have hq : ∀ k, k < xs.length → moreQ xs xs k = false := fun k hk => by
      rw [moreQ, andNot_self _ (legal_at hx hk)]
      rfl
    exact ⟨hq, hq⟩
  · rintro ⟨h1, h2⟩
    have e : xs = ys := by
      apply List.ext_getElem hl
      intro k hk hk'
      have q1 := h1 k hk'
      have q2 := h2 k hk
      simp only [moreQ, bne_eq_false_iff_eq] at q1 q2
      have := andNot_both (legal_at hx hk) (legal_at hy hk') q2 q1
      simpa [List.getElem?_eq_getElem hk, List.getElem?_eq_getElem hk'] using this
    have := hz.2 e
    omega

/-- what a card becomes, in how many rows, and the code -/
def repV (xs : List Int) : List Int := if okB xs = true then repL xs else []
def repN (xs : List Int) : Int := if okB xs = true then (distN xs (repL xs) : Int) else 0
def repC (xs : List Int) : Int := if okB xs = true then 0 else 1
theorem rep_ok {xs : List Int} (h : okB xs = true) : okB (repL xs) = true := by
  have h2 := okB_parts h
  simp only [okB, Bool.and_eq_true] at h ⊢
  rw [repL_length]
  exact ⟨repL_legal xs, h.2⟩
theorem rep_pair {xs : List Int} (h : okB xs = true) : pairCode xs (repL xs) = 0 := by
  rw [pairCode, h, rep_ok h, repL_length]
  simp
theorem char_ok (k : Nat) (hk : k < 40) : charOk (codeS (charR k)) = true := by
  cases h : charOk (codeS (charR k))
  · have hr : rankM (codeS (charR k)) = none := by
      cases h' : rankM (codeS (charR k))
      · rfl
      · rw [charOk, h'] at h
        cases h
    exact absurd rfl (rankM_none hr k hk)
  · rfl
theorem rep_ill (xs : List Int) : illTo (repL xs) (repL xs).length = [] := by
  have : ∀ n, n ≤ (repL xs).length → illTo (repL xs) n = [] := by
    intro n
    induction n with
    | zero => exact fun _ => illTo_zero _
    | succ n ih =>
      intro hn
      have hx : n < xs.length := by rw [repL_length] at hn; omega
      rw [illTo_ok _ _ (by rw [repL_get xs n hx]; exact char_ok _ (nearK_lt _)), ih (by omega)]
  exact this _ (Nat.le_refl _)
end Go.Proofs.YthkfdfocghmmeabDoor
