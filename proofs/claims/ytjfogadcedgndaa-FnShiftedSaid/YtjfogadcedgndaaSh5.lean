/- bits.OnesCount64 answers the number of bits of a number below 4096: a contract. -/
import Derived.Test.YtjfogadcedgndaaRows
import Derived.WalkKit
import Derived.ProofKit
import Derived.OpenShut
import Derived.Lib.Hide
import Derived.Test.YtjfogadcedgndaaSh1
import Derived.Laws.Bits64
namespace Go.Proofs.Ytjfogadcedgndaa
open Go.ChangeShapes Go.WideShapes Go.ChangeAt Go.RowKit
def ones1 (a : Int) : Int := IntKind.u64.wrap (bits .and .u64 (a / 2) 6148914691236517205 + bits .and .u64 a 6148914691236517205)
def ones2 (a : Int) : Int := IntKind.u64.wrap (bits .and .u64 (a / 4) 3689348814741910323 + bits .and .u64 a 3689348814741910323)
def ones3 (a : Int) : Int := bits .and .u64 (IntKind.u64.wrap (a / 16 + a)) 1085102592571150095
def ones4 (a : Int) : Int := IntKind.u64.wrap (a + a / 256)
def ones5 (a : Int) : Int := IntKind.u64.wrap (a + a / 65536)
def ones6 (a : Int) : Int := IntKind.u64.wrap (a + a / 4294967296)
def ones7 (a : Int) : Int := bits .and .i64 (wrap64 a) 127
def ones (m : Int) : Int := ones7 (ones6 (ones5 (ones4 (ones3 (ones2 (ones1 m))))))

def popc : Nat → Nat → Nat
  | 0, _ => 0
  | k + 1, m => m % 2 + popc k (m / 2)

theorem ones_parts : ∀ a b : Fin 64, ones ((64 * a.val + b.val : Nat) : Int) = (popc 12 (64 * a.val + b.val) : Int) := by decide +kernel
theorem ones_small (m : Nat) (hm : m < 4096) : ones (m : Int) = (popc 12 m : Int) := by
  have h := ones_parts ⟨m / 64, by omega⟩ ⟨m % 64, by omega⟩
  have e : 64 * (m / 64) + m % 64 = m := by omega
  simp only [e] at h
  exact h

theorem ones_any (m : Nat) (hm : m < 4096) (w : World) :
    Calls Try.prog 56 #[.int .u64 m] w fun e w' => e = .returned (.int .i64 (popc 12 m)) ∧ w = w' := by
  have HO : Hid (ones m = popc 12 m) := ones_small m hm
  go_enter Try.func56, Try.ntmps56
  go_wp2
  go_ret
  rw [← HO.out]
  exact ⟨rfl, rfl⟩

theorem popc_zero : ∀ k, popc k 0 = 0
  | 0 => rfl
  | k + 1 => by rw [popc, Nat.zero_mod, Nat.zero_div, popc_zero k]
theorem popc_le : ∀ k m, popc k m ≤ k
  | 0, _ => Nat.le_refl _
  | k + 1, m => by
    have := popc_le k (m / 2)
    rw [popc]
    omega
end Go.Proofs.Ytjfogadcedgndaa

/- spec.CountHoles and impl.CountHoles answer the number of holes of a card, for every card of at most 1048576 columns: contracts, of spec.l02Count too. -/
namespace Go.Proofs.Ytjfogadcedgndaa
open Go.ChangeShapes Go.WideShapes Go.ChangeAt Go.RowKit
theorem l02Count_any (m : Nat) (hm : m < 4096) (w : World) :
    Calls Try.prog 117 #[.int .i64 m] w fun e w' => e = .returned (.int .i64 (popc 12 m)) ∧ w = w' := by
  obtain ⟨p, hp⟩ : ∃ p, popc 12 m = p := ⟨_, rfl⟩
  have hp12 : p ≤ 12 := by rw [← hp]; exact popc_le 12 m
  rw [hp]
  have HP := Lib.hid hp
  clear hp
  go_enter Try.func117, Try.ntmps117
  go_wp2
  go_loop [0, 3] (fun a n => ∃ f x k : Nat, a = .int .i64 x ∧ n = .int .i64 k ∧ f ≤ 12 ∧ x < 2 ^ f ∧ Hid (k + popc f x = p)) (fun a _ => (intOf a).toNat)
  case atStart => exact ⟨12, m, 0, rfl, rfl, by omega, by omega, by rw [Hid, HP.out]; omega⟩
  case round =>
    obtain ⟨f, x, k, rfl, rfl, hf, hx, HK⟩ := hrel
    by_cases h0 : x = 0
    · subst h0
      obtain rfl : k = p := by have := HK.out; rw [popc_zero] at this; omega
      clear hx
      go_wp2
      go_ret
      exact ⟨rfl, rfl⟩
    · cases f with
      | zero => exact absurd hx (by simp; omega)
      | succ f =>
        have hx2 : x / 2 < 2 ^ f := by rw [Nat.pow_succ] at hx; omega
        have hx12 : x < 4096 := Nat.lt_of_lt_of_le hx (Nat.pow_le_pow_right (by omega) hf)
        have hkp : k ≤ 12 := by have := HK.out; omega
        have HK1 : Hid (k + x % 2 + popc f (x / 2) = p) := by have := HK.out; rw [popc] at this; show _ = _; omega
        have HX := Lib.hid hx2
        have hpos : (0 : Int) < (x : Int) := by omega
        clear hx hx2
        go_wp2
        go_round
        case rel => exact ⟨f, x / 2, k + x % 2, by go_num, by go_num, by omega, HX.out, HK1⟩
        case measure => simp [intOf]; omega

/-- the number of holes of columns -/
def countN (xs : List Int) : Nat := (xs.map fun x => popc 12 x.toNat).sum
theorem countN_le : ∀ xs : List Int, countN xs ≤ 12 * xs.length
  | [] => by simp [countN]
  | x :: xs => by
    have h1 := countN_le xs
    have h2 := popc_le 12 x.toNat
    simp only [countN, List.map_cons, List.sum_cons, List.length_cons] at h1 ⊢
    omega
theorem countN_drop (xs : List Int) (j : Nat) (h : j < xs.length) : countN (xs.drop j) = popc 12 (xs[j]?.getD 0).toNat + countN (xs.drop (j + 1)) := by
  rw [countN, countN, List.drop_eq_getElem_cons h, List.map_cons, List.sum_cons, List.getElem?_eq_getElem h]
  rfl

theorem implCount_any (A : Option Addr) (c : Nat) (xs : List Int) (B : Nat) (w : World) (h : Ints w B A xs) (hB : B ≤ w.heap.size) (hn : xs.length ≤ 1048576) :
    Calls Try.prog 12 #[.agg #[.slice A xs.length c]] w fun e w' => e = .returned (.tuple #[.int .i64 (if okB xs = true then (countN xs : Int) else 0), .int .i64 (if okB xs = true then 0 else 1)]) ∧ Below w.heap.size w w' := by
  have hok := implValidCard_any A c xs B (w.alloc (.cells #[.slice A xs.length c] 26)) (h.alloc hB _) (by simp; omega) hn
  cases hv : okB xs
  · rw [if_neg (by decide), if_neg (by decide)]
    rw [hv] at hok
    have HO := Lib.hid hok
    clear hok hv h hn
    go_enter Try.func12, Try.ntmps12
    go_wp2_with fail
    refine HO.out.mono ?_
    rintro e w1 ⟨rfl, hb⟩
    have B1 := Lib.hid (below_step (below_box w _) hb)
    clear hb
    go_wp2
    go_ret2
    exact ⟨rfl, B1.out⟩
  · rw [if_pos rfl, if_pos rfl]
    rw [hv] at hok
    obtain ⟨hleg, hn20⟩ := okB_parts hv
    obtain ⟨n, hN⟩ : ∃ n, xs.length = n := ⟨_, rfl⟩
    obtain ⟨p, hp⟩ : ∃ p, countN xs = p := ⟨_, rfl⟩
    have hp240 : p ≤ 240 := by have := countN_le xs; omega
    rw [hp]
    rw [hN] at hn20 hok ⊢
    have HO := Lib.hid hok
    have H := Lib.hid h
    have HN := Lib.hid hN
    have HP := Lib.hid hp
    have HL := Lib.hid hleg
    clear hok hv h hn hN hp hleg
    go_enter Try.func12, Try.ntmps12
    go_wp2_with fail
    refine HO.out.mono ?_
    rintro e w1 ⟨rfl, hb⟩
    have B1 := Lib.hid (below_step (below_box w _) hb)
    have c1 := cell_kept (p := ⟨w.heap.size, 0, none⟩) (v := .slice A n c) (by simp) hb
    clear hb
    go_wp2
    go_loop [4, 13] (fun a i => ∃ j k : Nat, j ≤ n ∧ i = .int .i64 j ∧ a = .int .i64 k ∧ k ≤ 240 ∧ Hid (k + countN (xs.drop j) = p)) (fun _ i => n - (intOf i).toNat)
    case atStart => exact ⟨0, 0, Nat.zero_le _, rfl, rfl, by omega, by show _ = _; simpa using HP.out⟩
    case round =>
      obtain ⟨j, k, hj, rfl, rfl, hk, HK⟩ := hrel
      by_cases hlt : j < n
      · have hx : j < xs.length := by rw [HN.out]; exact hlt
        obtain ⟨b, off, rfl, hb, hcell⟩ := H.out (by omega)
        have h1 := hcell j hx
        have hm := legal_at HL.out hx
        obtain ⟨x, hxx⟩ : ∃ x : Nat, xs[j]?.getD 0 = x ∧ x < 4096 := ⟨(xs[j]?.getD 0).toNat, by omega, by omega⟩
        have hx2 := hxx.2
        rw [hxx.1] at h1
        have HK1 : Hid (k + popc 12 x + countN (xs.drop (j + 1)) = p) := by
          have := HK.out
          rw [countN_drop xs j hx, hxx.1, Int.toNat_natCast] at this
          show _ = _
          omega
        have hkk : k + popc 12 x ≤ 240 := by have := HK1.out; omega
        have hpx := popc_le 12 x
        have HC := Lib.hid (ones_any x hx2)
        obtain ⟨y, hy⟩ : ∃ y, popc 12 x = y := ⟨_, rfl⟩
        rw [hy] at HC HK1 hkk hpx
        have x1 := cell_kept h1 B1.out
        clear hcell hxx hx H hm hy h1 HO
        go_wp2_with (go_at_call 56; refine (HC.out _).mono ?_; rintro e w' ⟨rfl, rfl⟩)
        go_round
        case rel => exact ⟨j + 1, k + y, by omega, by go_num, by go_num, hkk, HK1⟩
        case measure => simp [intOf]; omega
      · obtain rfl : j = n := by omega
        obtain rfl : k = p := by
          have := HK.out
          rw [List.drop_of_length_le (by rw [HN.out]; omega)] at this
          simpa [countN] using this
        go_wp2
        go_ret2
        exact ⟨rfl, B1.out⟩
end Go.Proofs.Ytjfogadcedgndaa

/- Plain facts of holes that differ: their number in a column and in a card, bounds, symmetry, and the code of two cards. -/
namespace Go.Proofs.Ytjfogadcedgndaa
open Go.ChangeShapes Go.WideShapes Go.ChangeAt Go.RowKit

theorem xor_nat (a b : Nat) (ha : a < 4096) (hb : b < 4096) : bits .xor .i64 (a : Int) (b : Int) = ((a ^^^ b : Nat) : Int) ∧ a ^^^ b < 4096 := by
  have hx : a ^^^ b < 2 ^ 12 := Nat.xor_lt_two_pow (by omega) (by omega)
  refine ⟨?_, by omega⟩
  have h1 : (BitVec.ofInt 64 (a : Int)).toNat = a := by
    rw [BitVec.ofInt_natCast, BitVec.toNat_ofNat]; exact Nat.mod_eq_of_lt (by omega)
  have h2 : (BitVec.ofInt 64 (b : Int)).toNat = b := by
    rw [BitVec.ofInt_natCast, BitVec.toNat_ofNat]; exact Nat.mod_eq_of_lt (by omega)
  show IntKind.i64.wrap ((BitVec.ofInt 64 (a : Int) ^^^ BitVec.ofInt 64 (b : Int)).toNat : Int) = _
  rw [BitVec.toNat_xor, h1, h2]
  simp [IntKind.wrap, IntKind.bits, IntKind.signed]
  omega

/-- in how many rows two columns differ -/
def df (x y : Int) : Nat := popc 12 (bits .xor .i64 x y).toNat
theorem df_le (x y : Int) : df x y ≤ 12 := popc_le 12 _
/-- What the walks want of two masks. -/
theorem xor_mask {x y : Int} (hx : 0 ≤ x ∧ x ≤ 4095) (hy : 0 ≤ y ∧ y ≤ 4095) : ∃ m : Nat, bits .xor .i64 x y = m ∧ m < 4096 ∧ popc 12 m = df x y := by
  obtain ⟨a, rfl⟩ : ∃ a : Nat, x = a := ⟨x.toNat, by omega⟩
  obtain ⟨b, rfl⟩ : ∃ b : Nat, y = b := ⟨y.toNat, by omega⟩
  obtain ⟨e, h⟩ := xor_nat a b (by omega) (by omega)
  exact ⟨a ^^^ b, e, h, by rw [df, e, Int.toNat_natCast]⟩
theorem df_comm {x y : Int} (hx : 0 ≤ x ∧ x ≤ 4095) (hy : 0 ≤ y ∧ y ≤ 4095) : df x y = df y x := by
  obtain ⟨a, rfl⟩ : ∃ a : Nat, x = a := ⟨x.toNat, by omega⟩
  obtain ⟨b, rfl⟩ : ∃ b : Nat, y = b := ⟨y.toNat, by omega⟩
  rw [df, df, (xor_nat a b (by omega) (by omega)).1, (xor_nat b a (by omega) (by omega)).1, Nat.xor_comm]
theorem popc_pos : ∀ (k m : Nat), m < 2 ^ k → popc k m = 0 → m = 0
  | 0, m, h, _ => by simp at h; exact h
  | k + 1, m, h, e => by
    rw [popc] at e
    rw [Nat.pow_succ] at h
    have := popc_pos k (m / 2) (by omega) (by omega)
    omega
theorem df_zero {x y : Int} (hx : 0 ≤ x ∧ x ≤ 4095) (hy : 0 ≤ y ∧ y ≤ 4095) : df x y = 0 ↔ x = y := by
  obtain ⟨a, rfl⟩ : ∃ a : Nat, x = a := ⟨x.toNat, by omega⟩
  obtain ⟨b, rfl⟩ : ∃ b : Nat, y = b := ⟨y.toNat, by omega⟩
  obtain ⟨e, h⟩ := xor_nat a b (by omega) (by omega)
  rw [df, e, Int.toNat_natCast]
  constructor
  · intro hp
    have h0 := popc_pos 12 _ h hp
    have : a = b := by
      have h1 : (a ^^^ b) ^^^ b = b := by rw [h0]; simp
      rw [Nat.xor_assoc, Nat.xor_self] at h1
      simpa using h1
    omega
  · intro hab
    have : a = b := by omega
    subst this
    rw [Nat.xor_self]
    exact popc_zero 12

/-- in how many places two cards differ -/
def distN (xs ys : List Int) : Nat := (List.zipWith df xs ys).sum
theorem distN_nil : distN [] [] = 0 := rfl
theorem distN_le : ∀ xs ys : List Int, distN xs ys ≤ 12 * xs.length
  | [], _ => by simp [distN]
  | _ :: _, [] => by simp [distN]
  | x :: xs, y :: ys => by
    have h1 := distN_le xs ys
    have h2 := df_le x y
    simp only [distN, List.zipWith_cons_cons, List.sum_cons, List.length_cons] at h1 ⊢
    omega
theorem distN_drop (xs ys : List Int) (j : Nat) (h : j < xs.length) (h' : j < ys.length) : distN (xs.drop j) (ys.drop j) = df (xs[j]?.getD 0) (ys[j]?.getD 0) + distN (xs.drop (j + 1)) (ys.drop (j + 1)) := by
  rw [distN, distN, List.drop_eq_getElem_cons h, List.drop_eq_getElem_cons h', List.zipWith_cons_cons, List.sum_cons, List.getElem?_eq_getElem h, List.getElem?_eq_getElem h']
  rfl
theorem distN_comm : ∀ xs ys : List Int, legalB xs = true → legalB ys = true → distN xs ys = distN ys xs
  | [], [], _, _ => rfl
  | [], _ :: _, _, _ => rfl
  | _ :: _, [], _, _ => rfl
  | x :: xs, y :: ys, h, h' => by
    simp only [legalB, List.all_cons, Bool.and_eq_true, maskB, inB, decide_eq_true_eq] at h h'
    have h1 := distN_comm xs ys (by simpa [legalB, maskB, inB] using h.2) (by simpa [legalB, maskB, inB] using h'.2)
    rw [distN, distN] at h1
    rw [distN, distN, List.zipWith_cons_cons, List.zipWith_cons_cons, List.sum_cons, List.sum_cons, h1, df_comm h.1 h'.1]
theorem distN_zero : ∀ xs ys : List Int, legalB xs = true → legalB ys = true → xs.length = ys.length → (distN xs ys = 0 ↔ xs = ys)
  | [], [], _, _, _ => by simp [distN]
  | [], _ :: _, _, _, h => by simp at h
  | _ :: _, [], _, _, h => by simp at h
  | x :: xs, y :: ys, h, h', hl => by
    simp only [legalB, List.all_cons, Bool.and_eq_true, maskB, inB, decide_eq_true_eq] at h h'
    have h1 := distN_zero xs ys (by simpa [legalB, maskB, inB] using h.2) (by simpa [legalB, maskB, inB] using h'.2) (by simpa using hl)
    rw [distN] at h1
    rw [distN, List.zipWith_cons_cons, List.sum_cons, List.cons.injEq, ← df_zero h.1 h'.1, ← h1]
    omega

/-- the code of two cards that should have as many columns -/
def pairCode (xs ys : List Int) : Int := if okB xs = false then 1 else if okB ys = false then 1 else if xs.length = ys.length then 0 else 2
theorem pairCode_cases (xs ys : List Int) : (pairCode xs ys = 1 ∧ okB xs = false) ∨ (pairCode xs ys = 1 ∧ okB xs = true ∧ okB ys = false) ∨ (pairCode xs ys = 2 ∧ okB xs = true ∧ okB ys = true ∧ xs.length ≠ ys.length) ∨
    (pairCode xs ys = 0 ∧ okB xs = true ∧ okB ys = true ∧ xs.length = ys.length) := by
  unfold pairCode
  cases okB xs <;> cases okB ys <;> by_cases h : xs.length = ys.length <;> simp [h]
theorem pairCode_zero {xs ys : List Int} (h : pairCode xs ys = 0) : okB xs = true ∧ okB ys = true ∧ xs.length = ys.length := by
  rcases pairCode_cases xs ys with ⟨e, _⟩ | ⟨e, _⟩ | ⟨e, _⟩ | ⟨_, h⟩
  · rw [h] at e; exact absurd e (by decide)
  · rw [h] at e; exact absurd e (by decide)
  · rw [h] at e; exact absurd e (by decide)
  · exact h
end Go.Proofs.Ytjfogadcedgndaa

/- spec.l06Two and impl.checkPair answer the code of two cards that should have as many columns, for all cards of at most 1048576 columns: contracts. -/
namespace Go.Proofs.Ytjfogadcedgndaa
open Go.ChangeShapes Go.WideShapes Go.ChangeAt Go.RowKit

theorem l06Two_any (A A' : Option Addr) (c c' : Nat) (xs ys : List Int) (B B' p o q o' : Nat) (w : World) (hp : w.cell? ⟨p, o, none⟩ = some (.slice A xs.length c)) (hq : w.cell? ⟨q, o', none⟩ = some (.slice A' ys.length c')) (h : Ints w B A xs) (h' : Ints w B' A' ys) (hn : xs.length ≤ 1048576) (hn' : ys.length ≤ 1048576) :
    Calls Try.prog 81 #[.pointer (some ⟨p, o, none⟩), .pointer (some ⟨q, o', none⟩)] w fun e w' => e = .returned (.int .i64 (pairCode xs ys)) ∧ Below w.heap.size w w' := by
  have o1 := l02Ok_any A c xs B p o w hp h hn
  have o2 := l02Ok_any A' c' ys B' q o' w hq h' hn'
  have tok : True := trivial
  rcases pairCode_cases xs ys with ⟨e, hv⟩ | ⟨e, hv, hv'⟩ | ⟨e, hv, hv', hl⟩ | ⟨e, hv, hv', hl⟩
  · rw [e]
    rw [hv] at o1
    have H1 := Lib.hid o1
    clear o1 o2 h h' e hv
    go_enter Try.func81, Try.ntmps81
    go_wp2_with (go_at_call 57; refine H1.out.mono ?_; rintro e w' ⟨rfl, rfl⟩)
    go_ret
    exact ⟨rfl, Below.refl _ _⟩
  · rw [e]
    rw [hv] at o1
    rw [hv'] at o2
    have H1 := Lib.hid o1
    have H2 := Lib.hid o2
    clear o1 o2 h h' e hv hv'
    go_enter Try.func81, Try.ntmps81
    go_wp2_with (first | (go_at_call 57; have _t := tok; refine H1.out.mono ?_; rintro e w' ⟨rfl, rfl⟩; clear tok _t) | (go_at_call 57; refine H2.out.mono ?_; rintro e w' ⟨rfl, rfl⟩))
    go_ret
    exact ⟨rfl, Below.refl _ _⟩
  all_goals
    rw [e]
    rw [hv] at o1
    rw [hv'] at o2
    have H1 := Lib.hid o1
    have H2 := Lib.hid o2
    obtain ⟨n, hN⟩ : ∃ n, xs.length = n := ⟨_, rfl⟩
    obtain ⟨m, hM⟩ : ∃ m, ys.length = m := ⟨_, rfl⟩
    rw [hN, hM] at hl
    rw [hN] at hp
    rw [hM] at hq
    rw [hN] at hn
    rw [hM] at hn'
    have hnm : ((n : Int) == (m : Int)) = decide (n = m) := by
      by_cases h0 : n = m
      · subst h0; simp
      · rw [decide_eq_false h0]; simpa using (by omega : ¬ (n : Int) = m)
    first | rw [decide_eq_false hl] at hnm | rw [decide_eq_true hl] at hnm
    clear o1 o2 h h' e hv hv' hN hM hl
    go_enter Try.func81, Try.ntmps81
    go_wp2_with (first | (go_at_call 57; have _t := tok; refine H1.out.mono ?_; rintro e w' ⟨rfl, rfl⟩; clear tok _t) | (go_at_call 57; refine H2.out.mono ?_; rintro e w' ⟨rfl, rfl⟩))
    go_region
    all_goals
      go_wp2
      go_ret
      exact ⟨rfl, below_drewN (Below.refl _ _) 1⟩

theorem checkPair_any (A A' : Option Addr) (c c' : Nat) (xs ys : List Int) (B B' : Nat) (w : World) (h : Ints w B A xs) (h' : Ints w B' A' ys) (hB : B ≤ w.heap.size) (hB' : B' ≤ w.heap.size) (hn : xs.length ≤ 1048576) (hn' : ys.length ≤ 1048576) :
    Calls Try.prog 77 #[.agg #[.slice A xs.length c], .agg #[.slice A' ys.length c']] w fun e w' => e = .returned (.int .i64 (pairCode xs ys)) ∧ Below w.heap.size w w' := by
  have i1 := (h.alloc hB (.cells #[.slice A xs.length c] 26)).alloc (by simp; omega) (.cells #[.slice A' ys.length c'] 26)
  have o1 := implValidCard_any A c xs B _ i1 (by simp; omega) hn
  have o2 := fun W hI hb => implValidCard_any A' c' ys B' W hI hb hn'
  have HJ := Lib.hid h'
  rcases pairCode_cases xs ys with ⟨e, hv⟩ | ⟨e, hv, hv'⟩ | ⟨e, hv, hv', hl⟩ | ⟨e, hv, hv', hl⟩
  · rw [e]
    rw [hv] at o1
    have H1 := Lib.hid o1
    clear o1 o2 i1 h h' e hv HJ
    go_enter Try.func77, Try.ntmps77
    go_wp2_with fail
    refine H1.out.mono ?_
    rintro e w1 ⟨rfl, hb⟩
    have B1 := Lib.hid (below_step ((below_box w _).alloc (by simp) _) hb)
    clear hb
    go_wp2
    go_ret
    exact ⟨rfl, B1.out⟩
  · rw [e]
    rw [hv] at o1
    rw [hv'] at o2
    have H1 := Lib.hid o1
    have H2 := Lib.hid o2
    clear o1 o2 i1 h h' e hv hv'
    go_enter Try.func77, Try.ntmps77
    go_wp2_with fail
    refine H1.out.mono ?_
    rintro e w1 ⟨rfl, hb⟩
    have B1 := Lib.hid (below_step ((below_box w _).alloc (by simp) _) hb)
    have d1 := cell_kept (p := ⟨w.heap.size + 1, 0, none⟩) (v := .slice A' ys.length c') (by simp [go_sem]) hb
    clear hb H1
    go_wp2_with fail
    refine (H2.out _ (HJ.out.below (B1.out.mono hB')) (Nat.le_trans hB' B1.out.size)).mono ?_
    rintro e w2 ⟨rfl, hb⟩
    have B2 := Lib.hid (below_step B1.out hb)
    clear hb
    go_wp2
    go_ret
    exact ⟨rfl, B2.out⟩
  all_goals
    rw [e]
    rw [hv] at o1
    rw [hv'] at o2
    have H1 := Lib.hid o1
    have H2 := Lib.hid o2
    obtain ⟨n, hN⟩ : ∃ n, xs.length = n := ⟨_, rfl⟩
    obtain ⟨m, hM⟩ : ∃ m, ys.length = m := ⟨_, rfl⟩
    rw [hN, hM] at hl
    have hnm : ((n : Int) == (m : Int)) = decide (n = m) := by
      by_cases h0 : n = m
      · subst h0; simp
      · rw [decide_eq_false h0]; simpa using (by omega : ¬ (n : Int) = m)
    first | rw [decide_eq_false hl] at hnm | rw [decide_eq_true hl] at hnm
    rw [hN, hM] at H1
    rw [hM] at H2
    rw [hN] at hn ⊢
    rw [hM] at hn' ⊢
    clear o1 o2 i1 h h' e hv hv' hN hM hl
    go_enter Try.func77, Try.ntmps77
    go_wp2_with fail
    refine H1.out.mono ?_
    rintro e w1 ⟨rfl, hb⟩
    have B1 := Lib.hid (below_step ((below_box w _).alloc (by simp) _) hb)
    have c1 := cell_kept (p := ⟨w.heap.size, 0, none⟩) (v := .slice A n c) (by simp [go_sem]) hb
    have d1 := cell_kept (p := ⟨w.heap.size + 1, 0, none⟩) (v := .slice A' m c') (by simp [go_sem]) hb
    clear hb H1
    go_wp2_with fail
    refine (H2.out _ (HJ.out.below (B1.out.mono hB')) (Nat.le_trans hB' B1.out.size)).mono ?_
    rintro e w2 ⟨rfl, hb⟩
    have B2 := Lib.hid (below_step B1.out hb)
    have c2 := cell_kept c1 hb
    have d2 := cell_kept d1 hb
    clear hb c1 d1 H2
    go_wp2
    go_ret
    exact ⟨rfl, B2.out⟩
end Go.Proofs.Ytjfogadcedgndaa
