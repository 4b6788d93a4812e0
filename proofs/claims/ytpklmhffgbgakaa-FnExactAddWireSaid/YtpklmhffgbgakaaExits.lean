/- impl.wiring's exitsAt and sourcesOf: the exits that are joined with a hub: contracts. -/
import Derived.Test.YtpklmhffgbgakaaForest
import Derived.Test.YtpklmhffgbgakaaBrdRoots
namespace Go.Proofs.Ytpklmhffgbgakaa
open Go.ChangeShapes Go.WideShapes Go.ChangeAt Go.RowKit Go.Maps Go.WideMaps

theorem gives_nn {W w : World} {base : Nat} {v : Value} {L : List Int} (h : w.ownsRow base 2 1 v L.length (L.map (Value.int .i64))) (hb : Below W.heap.size W w) (hbase : W.heap.size ≤ base) : GivesN L W (.returned v) w := by
  obtain ⟨A, cap, hv, hr⟩ := owned_list h rfl
  exact ⟨A, cap, by rw [hv], hb, fun h0 => by obtain ⟨g, ex, e, hg, hrow⟩ := hr h0; exact ⟨g, ex, e, by omega, hrow.lt, hrow⟩, Nat.le_refl _⟩

theorem nil_owned (w : World) (base : Nat) : w.ownsRow base 2 1 (.slice none 0 0) 0 [] := ⟨rfl, Or.inl ⟨rfl, rfl⟩⟩

set_option maxRecDepth 100000 in
set_option maxHeartbeats 2000000 in
theorem exitsAt_any (E : Nat) (n j : Int) (sl sp : Value) (b m : Nat) (R : List Int) (hub : Nat) (w : World) (hF : Forest w b m R) (hO : OkR R) (hR : R.length ≤ 1000) (hE : E ≤ R.length) (hh : hub < R.length) :
    Calls Try.prog 84 #[.agg #[.int .i64 E, .int .i64 n, .int .i64 j, sl, .map (some b), sp], .int .i64 hub] w (GivesN (withR R hub E) w) := by
  obtain ⟨i0, hi0, hz0, hz1, hz2⟩ := info_parts info_int64
  have hbx := below_box w (.cells #[.int .i64 E, .int .i64 n, .int .i64 j, sl, .map (some b), sp] 87)
  have hF1 := hF.later hbx
  have p0 : (w.alloc (.cells #[.int .i64 E, .int .i64 n, .int .i64 j, sl, .map (some b), sp] 87)).cell? ⟨w.heap.size, 0, none⟩ = some (.int .i64 E) := by simp
  have p4 : (w.alloc (.cells #[.int .i64 E, .int .i64 n, .int .i64 j, sl, .map (some b), sp] 87)).cell? ⟨w.heap.size, 4, none⟩ = some (.map (some b)) := by simp
  have hs1 : (w.alloc (.cells #[.int .i64 E, .int .i64 n, .int .i64 j, sl, .map (some b), sp] 87)).heap.size = w.heap.size + 1 := by simp
  obtain ⟨W1, hW1⟩ : ∃ W1, w.alloc (.cells #[.int .i64 E, .int .i64 n, .int .i64 j, sl, .map (some b), sp] 87) = W1 := ⟨_, rfl⟩
  rw [hW1] at hF1 p0 p4 hs1 hbx
  have hl := fun (k : Nat) (hk : k < R.length) (W : World) (hW : Below W1.heap.size W1 W) (q : Nat) => (least_any b m R hR hO k (W.drewN q) (hF1.later (below_drewN hW q)) hk).mono fun _ _ hh => And.intro hh.1 hh.2.symm
  have HL := Lib.hid hl
  have HBX := Lib.hid hbx
  have HS := Lib.hid hs1
  clear hl hF hF1 hO hbx hs1
  go_enter Try.func84, Try.ntmps84
  go_wp2
  go_loopw [5, 10] (fun v i wr => ∃ k : Nat, ∃ vv : Value, k ≤ E ∧ i = .int .i64 k ∧ vv = v ∧ Hid (wr.ownsRow W1.heap.size 2 1 v (withR R hub k).length ((withR R hub k).map (Value.int .i64))) ∧ Hid (Below W1.heap.size W1 wr)) (fun _ i _ => E - (intOf i).toNat)
  case atStart => exact ⟨0, _, Nat.zero_le _, rfl, rfl, nil_owned _ _, Below.refl _ _⟩
  case round =>
    obtain ⟨k, vv, hk, rfl, rfl, HW, HB⟩ := hrel
    have hwr : W1.heap.size ≤ wr.heap.size := HB.out.size
    have k0 : (0 : Int) ≤ (k : Int) := Int.natCast_nonneg _
    have x4 := cell_kept p4 HB.out
    by_cases hlt : k < E
    · have k1 : (k : Int) < (E : Int) := by omega
      have l1 := HL.out k (by omega) wr HB.out
      have l2 := HL.out hub hh wr HB.out
      have hq := withR_succ R (hub : Int) k
      have hlen := withR_length R (hub : Int) k
      obtain ⟨x, hx⟩ : ∃ x, rt R (k : Int) = x := ⟨_, rfl⟩
      obtain ⟨y, hy⟩ : ∃ y, rt R (hub : Int) = y := ⟨_, rfl⟩
      rw [hx] at l1 hq
      rw [hy] at l2 hq
      have HL1 := Lib.hid l1
      have HL2 := Lib.hid l2
      clear l1 l2 hx hy HL
      cases hm : (x == y)
      · rw [if_neg (by simpa using hm)] at hq
        have HI := Lib.hid hq
        clear hq
        go_wp2
        go_quiet ((go_at_call 78; first | (with_reducible exact Calls.quiet_of_same (HL1.out _)) | (with_reducible exact Calls.quiet_of_same (HL2.out _))))
        go_wp2
        go_roundw
        case rel => exact ⟨k + 1, _, by omega, by go_num, rfl, by rw [HI.out]; exact HW, below_drewN HB.out _⟩
        case measure => simp [intOf]; omega
      · rw [if_pos (by simpa using hm)] at hq
        have HI := Lib.hid hq
        obtain ⟨ys, hy⟩ : ∃ ys, withR R hub k = ys := ⟨_, rfl⟩
        rw [hy] at HW HI hlen
        clear hq hy
        go_wp2
        go_quiet ((go_at_call 78; first | (with_reducible exact Calls.quiet_of_same (HL1.out _)) | (with_reducible exact Calls.quiet_of_same (HL2.out _))))
        have HWd : Hid ((wr.drewN nq).ownsRow W1.heap.size 2 1 vv ys.length (ys.map (Value.int .i64))) := HW
        have HBd : Hid (Below W1.heap.size W1 (wr.drewN nq)) := below_drewN HB.out nq
        go_wp2_with (at_builtin; refine wpList_append_own _ rfl _ _ 44 rfl W1.heap.size 2 i0 (.int .i64 0) 1 8 Try.underlying44 hi0 hz0 hz1 hz2 rfl (by decide) _ _ _ rfl (HWd.out.alloc _) ⟨wr.heap.size, 0, none⟩ 1 1 [.int .i64 k] rfl rfl (one_newsB (wr.drewN nq) k) (one_onesB k) ?c3 ?c4 ?c5 ?_; rotate_left 3; intro v' w9 hown hgrow _; obtain ⟨ho, hbb⟩ := own_more (w := wr.drewN nq) hown (show ((wr.drewN nq).alloc (.cells #[.int .i64 (k : Int)] 2)).grownBy w9 vv.ownBlock from hgrow) HWd.out HBd.out (Nat.le_refl _) hwr; have HW1 := Lib.hid ho; have HB1 := Lib.hid hbb; clear hown hgrow ho hbb)
        case c3 => unfold maxLen; omega
        case c4 => omega
        case c5 => simp; omega
        go_roundw
        case rel => exact ⟨k + 1, _, by omega, by go_num, rfl, by rw [HI.out]; exact HW1, HB1⟩
        case measure => simp [intOf]; omega
    · obtain rfl : k = E := by omega
      have k1 : ¬ (k : Int) < (k : Int) := by omega
      have HE := Lib.hid (gives_nn (W := w) HW.out (below_step HBX.out HB.out) HBX.out.size)
      clear HW HL
      go_wp2
      go_ret
      exact HE.out

theorem sourcesOf_any (E : Nat) (n j : Int) (sl sp : Value) (b m : Nat) (R : List Int) (entry : Nat) (w : World) (hF : Forest w b m R) (hO : OkR R) (hR : R.length ≤ 1000) (hE : E ≤ R.length) (hh : E + entry < R.length) :
    Calls Try.prog 82 #[.agg #[.int .i64 E, .int .i64 n, .int .i64 j, sl, .map (some b), sp], .int .i64 entry] w (GivesN (withR R ((E : Int) + entry) E) w) := by
  have hbx := below_box w (.cells #[.int .i64 E, .int .i64 n, .int .i64 j, sl, .map (some b), sp] 87)
  have he := exitsAt_any E n j sl sp b m R (E + entry) _ (hF.later hbx) hO hR hE hh
  have e1 : ((E + entry : Nat) : Int) = (E : Int) + entry := Int.natCast_add _ _
  rw [e1] at he
  unfold GivesN at he ⊢
  obtain ⟨L, hL⟩ : ∃ L, withR R ((E : Int) + entry) E = L := ⟨_, rfl⟩
  rw [hL] at he ⊢
  have k1 : (0 : Int) ≤ (E : Int) := Int.natCast_nonneg _
  have k2 : (0 : Int) ≤ (entry : Int) := Int.natCast_nonneg _
  have k3 : (E : Int) + entry ≤ 1000 := by omega
  have HE := Lib.hid he
  have HBX := Lib.hid hbx
  clear he hbx hF hO hL e1
  go_enter Try.func82, Try.ntmps82
  go_wp2_with fail
  refine HE.out.mono ?_
  rintro r w1 ⟨A, cap, rfl, hb, hi⟩
  have HB := Lib.hid (below_step HBX.out hb)
  have HI := Lib.hid (hi.wide HBX.out.size (Nat.le_refl _) (Nat.le_refl _))
  clear hb hi
  go_wp2
  go_ret
  exact ⟨A, cap, rfl, HB.out, HI.out⟩
end Go.Proofs.Ytpklmhffgbgakaa
