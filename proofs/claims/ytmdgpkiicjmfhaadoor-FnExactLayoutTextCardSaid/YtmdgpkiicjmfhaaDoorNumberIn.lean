/- spec.NumberIn and impl.NumberIn answer the number that a field has, or the code, for every card of at most 1048576 columns and every field: contracts. -/
import Derived.Test.YtmdgpkiicjmfhaaDoorNumber
import Derived.Test.YtmdgpkiicjmfhaaDoorPart
namespace Go.Proofs.YtmdgpkiicjmfhaaDoor
open Go.ChangeShapes Go.WideShapes Go.ChangeAt Go.RowKit

theorem legal_part {xs : List Int} (h : legalB xs = true) (i j : Nat) : legalB (partOf xs i j) = true := by
  unfold legalB partOf at *
  rw [List.all_eq_true] at *
  intro x hx
  exact h x (List.mem_of_mem_drop (List.mem_of_mem_take hx))

theorem implNumberIn_bad (A : Option Addr) (c : Nat) (xs : List Int) (B : Nat) (a b : Int) (w : World) (h : Ints w B A xs) (hB : B ≤ w.heap.size) (hn : xs.length ≤ 1048576) (e : partCode xs a b ≠ 0) :
    Calls Tryd.prog 23 #[.agg #[.slice A xs.length c], .agg #[.int .i64 a, .int .i64 b]] w fun e w' => e = .returned (.tuple #[.int .i64 0, .int .i64 (partCode xs a b)]) ∧ Below w.heap.size w w' := by
  have hat := columnsIn_bad A c xs B a b ((w.alloc (.cells #[.slice A xs.length c] 56)).alloc (.cells #[.int .i64 a, .int .i64 b] 49)) ((h.alloc hB _).alloc (by simp; omega) _) (by simp; omega) hn e
  obtain ⟨k, hk⟩ : ∃ k, partCode xs a b = k := ⟨_, rfl⟩
  rw [hk] at hat e ⊢
  have hne : (k != 0) = true := by simpa using e
  have HA := Lib.hid hat
  clear hat h hk e
  go_enter Tryd.func23, Tryd.ntmps23
  go_wp2_with fail
  refine HA.out.mono ?_
  rintro e w1 ⟨rfl, hb1⟩
  have B1 := Lib.hid (below_step ((below_box w _).alloc (by simp) _) hb1)
  clear hb1
  go_wp2
  go_ret2
  exact ⟨rfl, B1.out⟩

theorem implNumberIn_long (b off c : Nat) (xs : List Int) (B i j : Nat) (w : World) (h : Ints w B (some ⟨b, off, none⟩) xs) (hB : B ≤ w.heap.size) (hc : xs.length ≤ c) (hcm : c ≤ 1048576) (hij : i < j) (hj : j ≤ xs.length) (e : partCode xs i j = 0) (hl : 12 < j - i) {aL aF aM : Addr} (S : Sents w aL aF aM) :
    Calls Tryd.prog 23 #[.agg #[.slice (some ⟨b, off, none⟩) xs.length c], .agg #[.int .i64 i, .int .i64 j]] w fun e w' => e = .returned (.tuple #[.int .i64 0, .int .i64 5]) ∧ Below w.heap.size w w' := by
  have hat := columnsIn_good b off c xs B i j ((w.alloc (.cells #[.slice (some ⟨b, off, none⟩) xs.length c] 56)).alloc (.cells #[.int .i64 i, .int .i64 j] 49)) ((h.alloc hB _).alloc (by simp; omega) _) (by simp; omega) hc ⟨by omega, by omega⟩ hij hj e
  obtain ⟨n, hn⟩ : ∃ n, j - i = n := ⟨_, rfl⟩
  rw [hn] at hat hl
  have HA := Lib.hid hat
  have HS := Lib.hid S
  have hn' : n ≤ 9223372036854775807 := by omega
  clear hat h e hn S
  go_enter Tryd.func23, Tryd.ntmps23
  go_wp2_with fail
  refine HA.out.mono ?_
  rintro e w1 ⟨rfl, hb1⟩
  have B1 := Lib.hid (below_step ((below_box w _).alloc (by simp) _) hb1)
  have S1 := Lib.hid (HS.out.below B1.out)
  clear hb1 HA HS
  go_wp2_with fail
  refine (number_long _ n (c - i) hl hn' w1 S1.out).mono ?_
  rintro e w2 ⟨rfl, m, rfl⟩
  have B2 := Lib.hid (below_drewN B1.out m)
  have S2 := Lib.hid (S1.out.below (below_drewN (Below.refl w1.heap.size w1) m))
  clear B1 S1
  go_wp2_with fail
  refine (codeFor_long _ S2.out).mono ?_
  rintro e w3 ⟨rfl, rfl⟩
  go_wp2
  go_ret2
  exact ⟨rfl, B2.out⟩

theorem implNumberIn_good (b off c : Nat) (xs : List Int) (B i j : Nat) (w : World) (h : Ints w B (some ⟨b, off, none⟩) xs) (hB : B ≤ w.heap.size) (hc : xs.length ≤ c) (hcm : xs.length ≤ 1048576 ∧ c ≤ 9223372036854775807) (hij : i < j) (hj : j ≤ xs.length) (e : partCode xs i j = 0) (hv : okB xs = true) (hl : j - i ≤ 12) {aL aF aM : Addr} (S : Sents w aL aF aM) :
    Calls Tryd.prog 23 #[.agg #[.slice (some ⟨b, off, none⟩) xs.length c], .agg #[.int .i64 i, .int .i64 j]] w fun e w' => e = .returned (.tuple #[.int .i64 (numV (numOf (partOf xs i j))), .int .i64 (numCode (numOf (partOf xs i j)))]) ∧ Below w.heap.size w w' := by
  have hat := columnsIn_good b off c xs B i j ((w.alloc (.cells #[.slice (some ⟨b, off, none⟩) xs.length c] 56)).alloc (.cells #[.int .i64 i, .int .i64 j] 49)) ((h.alloc hB _).alloc (by simp; omega) _) (by simp; omega) hc ⟨by omega, by omega⟩ hij hj e
  have hlen := partOf_length xs i j hj
  have HP := Lib.hid (h.part i j hij hj)
  have HG := Lib.hid (legal_part (okB_parts hv).1 i j)
  obtain ⟨ys, hy⟩ : ∃ ys, partOf xs i j = ys := ⟨_, rfl⟩
  rw [hy] at HP hlen HG ⊢
  obtain ⟨r, hr⟩ : ∃ r, numOf ys = r := ⟨_, rfl⟩
  rw [hr]
  obtain ⟨n, hn⟩ : ∃ n, j - i = n := ⟨_, rfl⟩
  rw [hn] at hat hl hlen
  have hn0 : 0 < n := by omega
  have HA := Lib.hid hat
  have HS := Lib.hid S
  have HL := Lib.hid hlen
  have HR := Lib.hid hr
  clear hat h e hn S hy hr hlen hv
  go_enter Tryd.func23, Tryd.ntmps23
  go_wp2_with fail
  refine HA.out.mono ?_
  rintro e w1 ⟨rfl, hb1⟩
  have B1 := Lib.hid (below_step ((below_box w _).alloc (by simp) _) hb1)
  have S1 := Lib.hid (HS.out.below B1.out)
  have H1 := Lib.hid (HP.out.below (B1.out.mono hB))
  have hnum := number_any b (off + i) (c - i) ys B w1 H1.out (by rw [HL.out]; exact hn0) (by rw [HL.out]; exact hl) HG.out S1.out
  rw [HL.out, HR.out] at hnum
  have HN := Lib.hid hnum
  clear hb1 HA HS hnum HP HG H1 HR HL
  go_wp2_with fail
  refine HN.out.mono ?_
  rintro e w2 ⟨rfl, m, rfl⟩
  have B2 := Lib.hid (below_drewN B1.out m)
  have S2 := Lib.hid (S1.out.below (below_drewN (Below.refl w1.heap.size w1) m))
  clear B1 S1 HN
  cases r with
  | none =>
    go_wp2_with fail
    refine (codeFor_mean _ S2.out).mono ?_
    rintro e w3 ⟨rfl, rfl⟩
    go_wp2
    go_ret2
    exact ⟨rfl, B2.out⟩
  | some v =>
    go_wp2_with fail
    refine (codeFor_nil _).mono ?_
    rintro e w3 ⟨rfl, rfl⟩
    go_wp2
    go_ret2
    exact ⟨rfl, B2.out⟩
end Go.Proofs.YtmdgpkiicjmfhaaDoor
