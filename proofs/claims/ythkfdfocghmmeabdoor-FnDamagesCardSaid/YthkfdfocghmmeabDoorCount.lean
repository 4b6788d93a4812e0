/- spec.CountHoles and impl.CountHoles answer the number of holes of a card, for every card of at most 1048576 columns: contracts, of spec.l02Count too. -/
import Derived.Test.YthkfdfocghmmeabDoorValid
import Derived.Test.YthkfdfocghmmeabDoorOnes
namespace Go.Proofs.YthkfdfocghmmeabDoor
open Go.ChangeShapes Go.WideShapes Go.ChangeAt Go.RowKit
theorem l02Count_any (m : Nat) (hm : m < 4096) (w : World) :
    Calls Tryd.prog 45 #[.int .i64 m] w fun e w' => e = .returned (.int .i64 (popc 12 m)) ∧ w = w' := by
  obtain ⟨p, hp⟩ : ∃ p, popc 12 m = p := ⟨_, rfl⟩
  have hp12 : p ≤ 12 := by rw [← hp]; exact popc_le 12 m
  rw [hp]
  have HP := Lib.hid hp
  clear hp
  go_enter Tryd.func45, Tryd.ntmps45
  go_wp2
  go_loop [0, 3] (fun a n => ∃ f x k : Nat, a = .int .i64 x ∧ n = .int .i64 k ∧ f ≤ 12 ∧ x < 2 ^ f ∧ Hid (k + popc f x = p)) (fun a _ => (intOf a).toNat)
  case atStart => exact ⟨12, m, 0, rfl, rfl, by omega, by omega, by rw [Hid, HP.out]; omega⟩
  case round =>
    obtain ⟨f, x, k, rfl, rfl, hf, hx, HK⟩ := hrel
    by_cases h0 : x = 0
    · subst h0
      obtain rfl : k = p := by have := HK.out; rw [popc_zero] at this; omega
      clear hx
      go_wp2
      go_ret
      exact ⟨rfl, rfl⟩
    · cases f with
      | zero => exact absurd hx (by simp; omega)
      | succ f =>
        have hx2 : x / 2 < 2 ^ f := by rw [Nat.pow_succ] at hx; omega
        have hx12 : x < 4096 := Nat.lt_of_lt_of_le hx (Nat.pow_le_pow_right (by omega) hf)
        have hkp : k ≤ 12 := by have := HK.out; omega
        have HK1 : Hid (k + x % 2 + popc f (x / 2) = p) := by have := HK.out; rw [popc] at this; show _ = _; omega
        have HX := Lib.hid hx2
        have hpos : (0 : Int) < (x : Int) := by omega
        clear hx hx2
        go_wp2
        go_round
        case rel => exact ⟨f, x / 2, k + x % 2, by go_num, by go_num, by omega, HX.out, HK1⟩
        case measure => simp [intOf]; omega

/-- the number of holes of columns -/
def countN (xs : List Int) : Nat := (xs.map fun x => popc 12 x.toNat).sum
theorem countN_le : ∀ xs : List Int, countN xs ≤ 12 * xs.length
  | [] => by simp [countN]
  | x :: xs => by
    have h1 := countN_le xs
    have h2 := popc_le 12 x.toNat
    simp only [countN, List.map_cons, List.sum_cons, List.length_cons] at h1 ⊢
    omega
theorem countN_drop (xs : List Int) (j : Nat) (h : j < xs.length) : countN (xs.drop j) = popc 12 (xs[j]?.getD 0).toNat + countN (xs.drop (j + 1)) := by
  rw [countN, countN, List.drop_eq_getElem_cons h, List.map_cons, List.sum_cons, List.getElem?_eq_getElem h]
  rfl

end Go.Proofs.YthkfdfocghmmeabDoor