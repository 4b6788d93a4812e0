/- impl's iterator shifts hands on 0, 1, -1, 2, -2 and so on, below the number of columns: a contract. -/
import Derived.Test.YthkfdfocghmmeaaRangeFirst
namespace Go.Proofs.Ythkfdfocghmmeaa
open Go.ChangeShapes Go.WideShapes Go.ChangeAt Go.RowKit

/-- the shifts that come ahead of k -/
def seqS : Nat → List Int
  | 0 => [0]
  | k + 1 => seqS k ++ [((k + 1 : Nat) : Int)] ++ [-((k + 1 : Nat) : Int)]

theorem seqS_prefix (j : Nat) : ∀ k, seqS j <+: seqS (j + k)
  | 0 => List.prefix_rfl
  | k + 1 => (seqS_prefix j k).trans ⟨[((j + k + 1 : Nat) : Int)] ++ [-((j + k + 1 : Nat) : Int)], by rw [← Nat.add_assoc, seqS, List.append_assoc]⟩

attribute [local go_sem] Oper.semAt_some

set_option maxRecDepth 100000 in
set_option maxHeartbeats 2000000 in
theorem shifts_iterates (A : Option Addr) (c n m : Nat) (hm : 1 ≤ m) (h0 : 1 ≤ n) (hn : n ≤ 1048576) :
    Iterates m Try.prog 59 #[.slice A n c] (fun x : Int => .int .i64 x) (fun xs => xs = seqS (n - 1)) (fun pre => pre <+: seqS (n - 1)) := fun l J Jx W hY hJ => by
  refine callsIn_of_wp Try.func59 rfl trivial ?_ rfl
  simp only [Try.ntmps59, List.size_toArray, List.length_cons, List.length_nil, Nat.reduceAdd, Nat.reduceSub, Array.replicate_succ, Array.replicate_zero, List.push_toArray, List.append_toArray, List.nil_append, List.cons_append]
  obtain ⟨f1, t1, a1, b1, hy1, hR1⟩ := hY [] 0 W (by have := seqS_prefix 0 (n - 1); rwa [Nat.zero_add] at this) hJ
  dsimp only at hy1
  gi_wp2
  refine hR1.mono ?_
  rintro e W1 (⟨rfl, hJ1⟩ | ⟨rfl, hx1⟩)
  · clear hy1 hR1
    gi_wp2
    gi_loopw [4] (fun i wr => ∃ k : Nat, 1 ≤ k ∧ k ≤ n ∧ i = .int .i64 k ∧ J (seqS (k - 1)) wr) (fun i _ => n - (intOf i).toNat)
    case atStart => exact ⟨1, Nat.le_refl _, h0, rfl, hJ1⟩
    case round =>
      obtain ⟨k, hk1, hk, rfl, hJk⟩ := hrel
      by_cases hlt : k < n
      · have hw : IntKind.i64.wrap (-(k : Int)) = -(k : Int) := IntWalk.i64_in _ (by omega)
        have j1 : (k : Int) < (n : Int) := by omega
        have j0 : (0 : Int) ≤ (k : Int) := Int.natCast_nonneg _
        have hs2 : seqS (k - 1) ++ [(k : Int)] ++ [-(k : Int)] = seqS (k + 1 - 1) := by
          obtain ⟨t, rfl⟩ : ∃ t, k = t + 1 := ⟨k - 1, by omega⟩
          rfl
        have hpre : seqS (k - 1) ++ [(k : Int)] ++ [-(k : Int)] <+: seqS (n - 1) := by
          rw [hs2]
          have := seqS_prefix (k + 1 - 1) (n - 1 - (k + 1 - 1))
          rwa [show k + 1 - 1 + (n - 1 - (k + 1 - 1)) = n - 1 by omega] at this
        obtain ⟨f2, t2, a2, b2, hy2, hR2⟩ := hY (seqS (k - 1)) k wr ((List.prefix_append _ _).trans hpre) hJk
        try dsimp only at hy2
        gi_wp2
        refine hR2.mono ?_
        rintro e W2 (⟨rfl, hJ2⟩ | ⟨rfl, hx2⟩)
        · obtain ⟨f3, t3, a3, b3, hy3, hR3⟩ := hY _ (-(k : Int)) W2 hpre hJ2
          try dsimp only at hy3
          clear hy2 hR2
          gi_wp2
          refine hR3.mono ?_
          rintro e W3 (⟨rfl, hJ3⟩ | ⟨rfl, hx3⟩)
          · clear hy3 hR3
            gi_wp2
            go_roundw
            case rel => exact ⟨k + 1, by omega, by omega, by go_num, by rw [← hs2]; exact hJ3⟩
            case measure => simp [intOf]; omega
          · gi_wp2
            refine bodyPost_ret (results_none rfl _ _ _) rfl ?_
            exact ⟨⟨_, rfl⟩, .inr ⟨_, hpre, hx3⟩⟩
        · gi_wp2
          refine ⟨fun _ h => (by cases h), ?_⟩
          gi_wp2
          refine bodyPost_ret (results_none rfl _ _ _) rfl ?_
          exact ⟨⟨_, rfl⟩, .inr ⟨_, (List.prefix_append _ _).trans hpre, hx2⟩⟩
      · have hkn : k = n := by omega
        have j1 : ¬ (k : Int) < (n : Int) := by omega
        gi_wp2
        go_end0
        subst hkn
        first | exact ⟨⟨_, rfl⟩, .inl hJk⟩ | exact ⟨⟨_, rfl⟩, .inl ⟨_, rfl, hJk⟩⟩
  · gi_wp2
    refine bodyPost_ret (results_none rfl _ _ _) rfl ?_
    exact ⟨⟨_, rfl⟩, .inr ⟨[0], by have := seqS_prefix 0 (n - 1); rwa [Nat.zero_add] at this, hx1⟩⟩
end Go.Proofs.Ythkfdfocghmmeaa
