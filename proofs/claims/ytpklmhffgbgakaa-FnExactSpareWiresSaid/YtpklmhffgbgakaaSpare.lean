/- spec.SpareWires and impl.SpareWires answer the wires that are spare: contracts. -/
import Derived.Test.YtpklmhffgbgakaaSources
namespace Go.Proofs.Ytpklmhffgbgakaa
open Go.ChangeShapes Go.WideShapes Go.ChangeAt Go.RowKit Go.Maps Go.WideMaps

def spareC (e n j : Int) (P : List (Int × Int)) : Int := if boardB e n j P = true then 0 else 1
def spareA (e n j : Int) (P : List (Int × Int)) : List Int := if boardB e n j P = true then spareW (startR (e + n + j).toNat) P P.length else []
theorem spareA_length (e n j : Int) (P : List (Int × Int)) (hn : P.length ≤ 1048576) : (spareA e n j P).length ≤ 1048576 := by
  unfold spareA
  by_cases h : boardB e n j P = true
  · rw [if_pos h]
    have := selTo_length (spareB (startR (e + n + j).toNat) P) P.length
    unfold spareW
    omega
  · rw [if_neg h]
    simp

set_option maxRecDepth 100000 in
set_option maxHeartbeats 2000000 in
theorem implSpare_any (e n j : Int) (A : Option Addr) (c : Nat) (P : List (Int × Int)) (B : Nat) (w : World) (h : Wires w B A P) (hB : B ≤ w.heap.size) (hn : P.length ≤ 1048576) :
    Calls Try.prog 53 #[.agg #[.int .i64 e, .int .i64 n, .int .i64 j, .slice A P.length c]] w (GivesIC (spareA e n j P) (spareC e n j P) w) := by
  have hbx := below_box w (.cells #[.int .i64 e, .int .i64 n, .int .i64 j, .slice A P.length c] 29)
  obtain ⟨c0, c1, c2, c3⟩ := board_cells w e n j (.slice A P.length c) 29
  have hval := implValidBoard_any e n j A c P B _ (h.below (hbx.mono hB)) (Nat.le_trans hB hbx.size) hn
  unfold spareA spareC
  cases hb : boardB e n j P
  · rw [hb] at hval
    simp only [Bool.false_eq_true, if_false]
    obtain ⟨m, hN⟩ : ∃ m, P.length = m := ⟨_, rfl⟩
    rw [hN] at hval hbx ⊢
    have HC := Lib.hid hval
    have HX := Lib.hid hbx
    clear hval hbx c0 c1 c2 c3 h hN hn hb
    go_enter Try.func53, Try.ntmps53
    go_wp2_with (go_at_call 18; refine HC.out.mono ?_; rintro r w1 ⟨rfl, hb⟩; have HB := Lib.hid (below_step HX.out hb); clear hb)
    go_ret2
    exact ⟨none, 0, rfl, HB.out, IAt.nil (Nat.le_refl _)⟩
  · rw [hb] at hval
    simp only [if_true]
    obtain ⟨E, N, J, rfl, rfl, rfl, hE1, hE2, hN1, hN2, hH, hP40, hv, hhub⟩ := board_facts hb
    have hto : ((E : Int) + (N : Int) + (J : Int)).toNat = E + N + J := by omega
    rw [hto]
    have hwi := fun (W : World) (hW : Below w.heap.size w W) => wiring_ok (E := E) (N := N) (J := J) (A := A) (c := c) (w := W) (h.below (hW.mono hB)) (Nat.le_trans hB hW.size) hP40 hH hv
    unfold GivesWiring at hwi
    obtain ⟨Z, hZ⟩ : ∃ Z, spareW (startR (E + N + J)) P P.length = Z := ⟨_, rfl⟩
    rw [hZ]
    simp only [hZ] at hwi
    obtain ⟨m, hN⟩ : ∃ m, P.length = m := ⟨_, rfl⟩
    simp only [hN] at hval hbx hwi c0 c1 c2 c3 ⊢
    have HC := Lib.hid hval
    have HX := Lib.hid hbx
    have HWI := Lib.hid hwi
    clear hval hbx hwi h hN hn hb hto hv hhub hP40 hZ hH
    go_enter Try.func53, Try.ntmps53
    go_wp2_with fail
    refine HC.out.mono ?_
    rintro r w1 ⟨rfl, hb⟩
    have HB := Lib.hid (below_step HX.out hb)
    have x0 := cell_kept c0 hb
    have x1 := cell_kept c1 hb
    have x2 := cell_kept c2 hb
    have x3 := cell_kept c3 hb
    clear hb c0 c1 c2 c3
    go_wp2_with fail
    refine (HWI.out _ HB.out).mono ?_
    rintro r w2 ⟨mb, fm, A2, cap2, rfl, hmb, hb, hF, hI⟩
    have HB2 := Lib.hid (below_step HB.out hb)
    have HIA := Lib.hid (hI.wide HB.out.size (Nat.le_refl _) (Nat.le_refl _))
    clear hb hF hI hmb x0 x1 x2 x3
    have hfd : ∀ W : World, (Instr.field 87 (.agg #[.int .i64 E, .int .i64 N, .int .i64 J, .slice A m c, .map (some mb), .slice A2 Z.length cap2]) 2).run Try.prog W = .ok (.slice A2 Z.length cap2) W := fun _ => by kernel_rfl
    go_wp2
    go_ret2
    exact ⟨_, _, rfl, HB2.out, HIA.out⟩

end Go.Proofs.Ytpklmhffgbgakaa
