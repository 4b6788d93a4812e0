/- impl.lastOnes and AlwaysSorts, over slices.Index, Contains and Equal of passes: contracts. -/
import Derived.Test.YtfffdlmpiglojaaAlways
import Derived.Laws.StructEq
import Derived.Deep.RegionHeld3
namespace Go.Proofs.Ytfffdlmpiglojaa
open Go.ChangeShapes Go.WideShapes Go.ChangeAt Go.RowKit

theorem pass_beq (a b c d : Int) : (a == c && b == d) = decide ((a, b) = (c, d)) := by
  by_cases h1 : a = c <;> by_cases h2 : b = d <;> simp [h1, h2]
theorem eql_pass (a b c d : Int) (w : World) : (binOp .eql 40 (.agg #[.int .i64 a, .int .i64 b]) (.agg #[.int .i64 c, .int .i64 d])).run Try.prog w = .ok (.bool (a == c && b == d)) w := by
  have u3 := Try.underlying2
  have a3 := Try.isAgg2
  have z3 := Try.sizeOf2
  have hS : Try.prog.underlying 40 = some (.struct (Try.prog.fieldsOf 40)) := by kernel_rfl
  have hp : Try.prog.stoodInHeld 40 = false := by kernel_rfl
  rw [run_eql_struct, show (10000 : Nat) = 9999 + 1 from rfl, run_equalIn_agg w 9999 40 _ _ hS hp]
  simp only [Program.fieldsOf, Try.underlying40]
  go_simp
  by_cases h1 : a = c <;> by_cases h2 : b = d <;> simp [h1, h2]
theorem neq_pass (a b c d : Int) (w : World) : (binOp .neq 40 (.agg #[.int .i64 a, .int .i64 b]) (.agg #[.int .i64 c, .int .i64 d])).run Try.prog w = .ok (.bool (!(a == c && b == d))) w := by
  have u3 := Try.underlying2
  have a3 := Try.isAgg2
  have z3 := Try.sizeOf2
  have hS : Try.prog.underlying 40 = some (.struct (Try.prog.fieldsOf 40)) := by kernel_rfl
  have hp : Try.prog.stoodInHeld 40 = false := by kernel_rfl
  rw [run_neq_struct, show (10000 : Nat) = 9999 + 1 from rfl, run_equalIn_agg w 9999 40 _ _ hS hp]
  simp only [Program.fieldsOf, Try.underlying40]
  go_simp
  by_cases h1 : a = c <;> by_cases h2 : b = d <;> simp [h1, h2]
@[go_sem] theorem guard_pass (op : BinOp) (x y : Operand) (xs ys : Array Value) (w : World) : (eqGuard op 40 x y (.agg xs) (.agg ys)).run Try.prog w = .ok () w := run_eqGuard_agg w op _ x y xs ys (by kernel_rfl)

/-- a place, or none: just if b -/
def FoundP (b : Bool) (w : World) (e : Ending) (w' : World) : Prop := ∃ r : Int, e = .returned (.int .i64 r) ∧ decide (r ≥ 0) = b ∧ Below w.heap.size w w'

section
variable (A : Option Addr) (c : Nat) (P : List (Int × Int)) (x y : Int) (B : Nat) (w : World) (h : Passes w B A P) (hB : B ≤ w.heap.size) (hn : P.length ≤ 40)
include h hB hn
set_option maxHeartbeats 1000000 in
theorem indexPass_any :
    Calls Try.prog 74 #[.slice A P.length c, .agg #[.int .i64 x, .int .i64 y]] w (FoundP (decide ((x, y) ∈ P)) w) := by
  obtain ⟨n, hN⟩ : ∃ n, P.length = n := ⟨_, rfl⟩
  obtain ⟨r, hr⟩ : ∃ r, decide ((x, y) ∈ P) = r := ⟨_, rfl⟩
  rw [hN] at hn
  rw [hN, hr]
  have p0 : (w.alloc (.cells #[.int .i64 x, .int .i64 y] 40)).cell? ⟨w.heap.size, 0, none⟩ = some (.int .i64 x) := by simp
  have p1 : (w.alloc (.cells #[.int .i64 x, .int .i64 y] 40)).cell? ⟨w.heap.size, 1, none⟩ = some (.int .i64 y) := by simp
  have BW := Lib.hid (below_box w (.cells #[.int .i64 x, .int .i64 y] 40))
  have H := Lib.hid h
  have HN := Lib.hid hN
  have HR := Lib.hid hr
  clear h hN hr
  go_enter Try.func74, Try.ntmps74
  go_wp2
  go_loopw [8] (fun i wr => ∃ t : Nat, t ≤ n ∧ i = .int .i64 t ∧ Hid ((x, y) ∉ P.take t) ∧ Hid (Below (w.alloc (.cells #[.int .i64 x, .int .i64 y] 40)).heap.size (w.alloc (.cells #[.int .i64 x, .int .i64 y] 40)) wr)) (fun i _ => n - (intOf i).toNat)
  case atStart => exact ⟨0, Nat.zero_le _, rfl, by show _ ∉ _; simp, Below.refl _ _⟩
  case round =>
    obtain ⟨t, ht, rfl, HK, HB⟩ := hrel
    by_cases hlt : t < n
    · obtain ⟨q, hq⟩ : ∃ q, P[t]? = some q := ⟨P[t]'(by rw [HN.out]; exact hlt), List.getElem?_eq_getElem _⟩
      obtain ⟨b, off, rfl, hb, hcell⟩ := (H.out.below ((below_step BW.out HB.out).mono hB)) (by rw [HN.out]; omega)
      obtain ⟨c1, c2⟩ := hcell t q hq
      obtain ⟨u, v⟩ := q
      simp only at c1 c2
      have q0 := cell_kept p0 HB.out
      have q1 := cell_kept p1 HB.out
      have k0 : (0 : Int) ≤ (t : Int) := Int.natCast_nonneg _
      have k1 : (t : Int) < (n : Int) := by omega
      have Hq := Lib.hid hq
      clear hcell hq hb
      by_cases he : x = u ∧ y = v
      · obtain ⟨rfl, rfl⟩ := he
        have heq : ∀ W : World, (binOp .eql 40 (.agg #[.int .i64 x, .int .i64 y]) (.agg #[.int .i64 x, .int .i64 y])).run Try.prog W = .ok (.bool true) W := fun W => by rw [eql_pass]; simp
        obtain rfl : r = true := by
          rw [← HR.out, decide_eq_true_eq]
          exact List.mem_of_getElem? Hq.out
        go_wp2
        go_quiet (fail)
        go_wp2
        go_ret
        exact ⟨t, rfl, by simp, below_drewN (below_step BW.out HB.out) _⟩
      · have he' : (x == u && y == v) = false := by
          rw [pass_beq, decide_eq_false_iff_not]
          intro e
          injection e with e1 e2
          exact he ⟨e1, e2⟩
        have heq : ∀ W : World, (binOp .eql 40 (.agg #[.int .i64 x, .int .i64 y]) (.agg #[.int .i64 u, .int .i64 v])).run Try.prog W = .ok (.bool false) W := fun W => by rw [eql_pass, he']
        have HK1 : Hid ((x, y) ∉ P.take (t + 1)) := by
          show _ ∉ _
          rw [List.take_add_one, Hq.out, List.mem_append]
          rintro (h | h)
          · exact HK.out h
          · have e : (x, y) = (u, v) := by simpa using h
            injection e with e1 e2
            exact he ⟨e1, e2⟩
        clear he he'
        go_wp2
        go_quiet (fail)
        go_wp2
        go_roundw
        case rel => exact ⟨t + 1, by omega, by go_num, HK1, below_drewN HB.out _⟩
        case measure => simp [intOf]; omega
    · have k1 : ¬ (t : Int) < (n : Int) := by omega
      obtain rfl : r = false := by
        have := HK.out
        rw [List.take_of_length_le (by rw [HN.out]; omega)] at this
        rw [← HR.out, decide_eq_false_iff_not]
        exact this
      go_wp2
      go_ret
      exact ⟨-1, rfl, by decide, below_step BW.out HB.out⟩

theorem containsPass_any :
    Calls Try.prog 62 #[.slice A P.length c, .agg #[.int .i64 x, .int .i64 y]] w fun e w' => e = .returned (.bool (decide ((x, y) ∈ P))) ∧ Below w.heap.size w w' := by
  have b0 := below_box w (.cells #[.int .i64 x, .int .i64 y] 40)
  have hi := indexPass_any A c P x y B _ (h.below (b0.mono hB)) (Nat.le_trans hB b0.size) hn
  obtain ⟨r, hr⟩ : ∃ r, decide ((x, y) ∈ P) = r := ⟨_, rfl⟩
  obtain ⟨n, hN⟩ : ∃ n, P.length = n := ⟨_, rfl⟩
  rw [hr, hN] at hi
  rw [hr, hN]
  have HI := Lib.hid hi
  have B0 := Lib.hid b0
  clear hi hr h hN b0 hn
  go_enter Try.func62, Try.ntmps62
  go_wp2_with fail
  refine HI.out.mono ?_
  rintro e w1 ⟨v, rfl, hx, hb⟩
  have B1 := Lib.hid (below_step B0.out hb)
  have HX := Lib.hid hx
  clear hb hx
  go_wp2
  go_ret
  exact ⟨by rw [← HX.out]; rfl, B1.out⟩
end

theorem passes_drop {w : World} {B b off : Nat} {P : List (Int × Int)} (h : Passes w B (some ⟨b, off, none⟩) P) (k : Nat) : Passes w B (some ⟨b, off + k * 2, none⟩) (P.drop k) := fun h0 => by
  have hk : k < P.length := by
    rw [List.length_drop] at h0
    omega
  obtain ⟨b', off', e, hb, hc⟩ := h (by omega)
  injection e with e
  injection e with e1 e2
  subst e1 e2
  refine ⟨b, off + k * 2, rfl, hb, fun j p hj => ?_⟩
  rw [List.getElem?_drop] at hj
  obtain ⟨x1, x2⟩ := hc (k + j) p hj
  rw [show off + k * 2 + j * 2 = off + (k + j) * 2 by omega]
  exact ⟨x1, x2⟩

set_option maxHeartbeats 2000000 in
theorem lastOnes_any (A : Option Addr) (c : Nat) (P : List (Int × Int)) (B : Nat) (w : World) (h : Passes w B A P) (hB : B ≤ w.heap.size) (hn : P.length ≤ 40) (hc : P.length ≤ c) (hc2 : c ≤ 9223372036854775807) :
    Calls Try.prog 45 #[.slice A P.length c] w (GivesP (lastL P) w) := by
  obtain ⟨i0, hi0, hz0, hz1, hz2⟩ := info_parts info_pass
  have ht := fun (t : Nat) (W : World) (A' : Option Addr) (m c' : Nat) (x y : Int) (hm : m = P.length - (t + 1)) (h' : Passes W B A' (P.drop (t + 1))) (hB' : B ≤ W.heap.size) => (show Calls Try.prog 62 #[.slice A' m c', .agg #[.int .i64 x, .int .i64 y]] W fun e w' => e = .returned (.bool (decide ((x, y) ∈ P.drop (t + 1)))) ∧ Below W.heap.size W w' from by
    have := containsPass_any A' c' (P.drop (t + 1)) x y B W h' hB' (by rw [List.length_drop]; omega)
    rw [List.length_drop, ← hm] at this
    exact this)
  obtain ⟨n, hN⟩ : ∃ n, P.length = n := ⟨_, rfl⟩
  simp only [hN] at ht
  rw [hN] at hn hc
  rw [hN]
  have H := Lib.hid h
  have HN := Lib.hid hN
  have HT := Lib.hid ht
  clear h hN ht
  go_enter Try.func45, Try.ntmps45
  go_wp2
  go_loopw [3, 8] (fun v i wr => ∃ t : Nat, ∃ Q : List (Int × Int), ∃ vv : Value, t ≤ n ∧ i = .int .i64 t ∧ vv = v ∧ Q.length ≤ t ∧ Hid (Q ++ lastL (P.drop t) = lastL P) ∧ Hid (wr.ownsRow w.heap.size 40 2 v Q.length (paCells Q)) ∧ Hid (Below w.heap.size w wr)) (fun _ i _ => n - (intOf i).toNat)
  case atStart => exact ⟨0, [], _, Nat.zero_le _, rfl, rfl, Nat.le_refl _, rfl, World.ownsRow_nil _ _ _ _, Below.refl _ _⟩
  case round =>
    obtain ⟨t, Q, vv, ht, rfl, rfl, hQl, HQ, HO, HB⟩ := hrel
    by_cases hlt : t < n
    · obtain ⟨q, hq⟩ : ∃ q, P[t]? = some q := ⟨P[t]'(by rw [HN.out]; exact hlt), List.getElem?_eq_getElem _⟩
      have hp := H.out.below (HB.out.mono hB)
      obtain ⟨b, off, rfl, hb, hcell⟩ := hp (by rw [HN.out]; omega)
      obtain ⟨c1, c2⟩ := hcell t q hq
      have hdr : P.drop t = q :: P.drop (t + 1) := by
        obtain ⟨hs, e⟩ := List.getElem?_eq_some_iff.1 hq
        rw [List.drop_eq_getElem_cons hs, e]
      have hlq : lastL (P.drop t) = if q ∈ P.drop (t + 1) then lastL (P.drop (t + 1)) else q :: lastL (P.drop (t + 1)) := by rw [hdr, lastL]
      obtain ⟨x, y⟩ := q
      simp only at c1 c2
      have k0 : (0 : Int) ≤ (t : Int) := Int.natCast_nonneg _
      have k1 : (t : Int) < (n : Int) := by omega
      have bx := below_box wr (.cells #[.int .i64 x, .int .i64 y] 40)
      obtain ⟨W1, hW1⟩ : ∃ W1, wr.alloc (.cells #[.int .i64 x, .int .i64 y] 40) = W1 := ⟨_, rfl⟩
      have x0 : W1.cell? ⟨wr.heap.size, 0, none⟩ = some (.int .i64 x) := by rw [← hW1]; simp
      have x1 : W1.cell? ⟨wr.heap.size, 1, none⟩ = some (.int .i64 y) := by rw [← hW1]; simp
      rw [hW1] at bx
      have B1 := Lib.hid (below_step HB.out bx)
      have HO1 : Hid (W1.ownsRow w.heap.size 40 2 vv Q.length (paCells Q)) := by rw [← hW1]; exact HO.out.alloc _
      have HC : Hid (Below w.heap.size w W1.drew) := B1.out.drew
      have HS : Hid (Below W1.drew.heap.size W1.drew W1.drew) := Below.refl _ _
      have HOW : Hid (W1.drew.ownsRow w.heap.size 40 2 vv Q.length (paCells Q)) := HO1
      have HD : Hid (∀ W, Below w.heap.size w W → Passes W B (some ⟨b, off + (t + 1) * 2, none⟩) (P.drop (t + 1))) := fun W hW => passes_drop (H.out.below (hW.mono hB)) (t + 1)
      have HDN : Hid (∀ W, n = t + 1 → ∀ A', Passes W B A' (P.drop (t + 1))) := fun W he A' h0 => by
        rw [List.length_drop, HN.out] at h0
        omega
      have HLQ := Lib.hid hlq
      have j0 : IntKind.i64.wrap ((t : Int) + 1) = (t : Int) + 1 := IntWalk.i64_in _ (by omega)
      have j1 : (0 : Int) ≤ (t : Int) + 1 := by omega
      have j2 : (t : Int) + 1 ≤ (n : Int) := by omega
      have j3 : (n : Int) ≤ (c : Int) := by omega
      have j4 : ((t : Int) + 1).toNat = t + 1 := by omega
      have hcell2 := hcell
      clear hcell hcell2 hq hdr hlq hb bx hp
      go_wp2_with fail
      obtain ⟨A2, hA2⟩ : ∃ A2 : Option Addr, (if c = t + 1 then some ⟨b, off, none⟩ else some ⟨b, off + (t + 1) * 2, none⟩) = A2 := ⟨_, rfl⟩
      have hsl : ∀ W : World, (Instr.slice 24 (.slice (some ⟨b, off, none⟩) n c) (some (.int .i64 ((t : Int) + 1))) none none).run Try.prog W = .ok (.slice A2 (n - (t + 1)) (c - (t + 1))) W := fun W => by
        rw [← hA2]
        by_cases hcap : c = t + 1
        · rw [if_pos hcap]
          go_simp
        · rw [if_neg hcap]
          go_simp
      have HD2 : Hid (∀ W, Below w.heap.size w W → Passes W B A2 (P.drop (t + 1))) := fun W hW => by
        rw [← hA2]
        by_cases hcap : c = t + 1
        · exact HDN.out W (by omega) _
        · rw [if_neg hcap]
          exact HD.out W hW
      clear hA2
      by_cases hin : (x, y) ∈ P.drop (t + 1)
      · have HQ1 : Hid (Q ++ lastL (P.drop (t + 1)) = lastL P) := by
          show _ = _
          rw [← HQ.out, HLQ.out, if_pos hin]
        have hdec : decide ((x, y) ∈ P.drop (t + 1)) = true := decide_eq_true hin
        have HTT : Hid (∀ W A' m c', m = n - (t + 1) → Passes W B A' (P.drop (t + 1)) → B ≤ W.heap.size → Calls Try.prog 62 #[.slice A' m c', .agg #[.int .i64 x, .int .i64 y]] W fun e w' => e = .returned (.bool true) ∧ Below W.heap.size W w') := fun W A' m c' h1 h2 h3 => by
          have := HT.out t W A' m c' x y h1 h2 h3
          rw [hdec] at this
          exact this
        clear hin hdec
        go_region_held3 (fun W => W.cell? ⟨wr.heap.size, 0, none⟩ = some (.int .i64 x) ∧ W.cell? ⟨wr.heap.size, 1, none⟩ = some (.int .i64 y))
          (first | exact ⟨cell_kept (w := W1.drew) x0 HS.out, cell_kept (w := W1.drew) x1 HS.out⟩ | go_keep)
          (first
            | (go_at_call 62
               refine (HTT.out _ _ _ _ ?_ ?_ ?_).mono ?_
               · first | rfl | omega
               · exact HD2.out _ HC.out
               · exact Nat.le_trans hB HC.out.size
               rintro e w2 ⟨rfl, hb⟩
               have HOW : Hid (w2.ownsRow w.heap.size 40 2 vv Q.length (paCells Q)) := own_moved HOW.out (fun i _ hi => hb.block i hi)
               have HC := Lib.hid (below_step HC.out hb)
               have HS := Lib.hid (below_step HS.out hb)
               clear hb))
        all_goals
          have HB2 : Hid (Below w.heap.size w _) := HC
          have HO2 : Hid (World.ownsRow _ w.heap.size 40 2 vv Q.length (paCells Q)) := HOW
          go_wp2
          go_roundw
          case rel => exact ⟨t + 1, Q, _, by omega, by go_num, rfl, by omega, HQ1, HO2, HB2⟩
          case measure => simp [intOf]; omega
      · have HQ1 : Hid ((Q ++ [(x, y)]) ++ lastL (P.drop (t + 1)) = lastL P) := by
          show _ = _
          rw [← HQ.out, HLQ.out, if_neg hin, List.append_assoc]
          rfl
        have hdec : decide ((x, y) ∈ P.drop (t + 1)) = false := decide_eq_false hin
        have HTT : Hid (∀ W A' m c', m = n - (t + 1) → Passes W B A' (P.drop (t + 1)) → B ≤ W.heap.size → Calls Try.prog 62 #[.slice A' m c', .agg #[.int .i64 x, .int .i64 y]] W fun e w' => e = .returned (.bool false) ∧ Below W.heap.size W w') := fun W A' m c' h1 h2 h3 => by
          have := HT.out t W A' m c' x y h1 h2 h3
          rw [hdec] at this
          exact this
        clear hin hdec
        go_region_held3 (fun W => W.cell? ⟨wr.heap.size, 0, none⟩ = some (.int .i64 x) ∧ W.cell? ⟨wr.heap.size, 1, none⟩ = some (.int .i64 y))
          (first | exact ⟨cell_kept (w := W1.drew) x0 HS.out, cell_kept (w := W1.drew) x1 HS.out⟩ | go_keep)
          (first
            | (go_at_call 62
               refine (HTT.out _ _ _ _ ?_ ?_ ?_).mono ?_
               · first | rfl | omega
               · exact HD2.out _ HC.out
               · exact Nat.le_trans hB HC.out.size
               rintro e w2 ⟨rfl, hb⟩
               have HOW : Hid (w2.ownsRow w.heap.size 40 2 vv Q.length (paCells Q)) := own_moved HOW.out (fun i _ hi => hb.block i hi)
               have HC := Lib.hid (below_step HC.out hb)
               have HS := Lib.hid (below_step HS.out hb)
               clear hb))
        all_goals
          have y0 := cell_kept (w := W1.drew) x0 HS.out
          have y1 := cell_kept (w := W1.drew) x1 HS.out
          have HB2 := Lib.hid HC.out
          have HN2 := Lib.hid (pa_news w2 [(x, y)] _ rfl)
          have HO2 : Hid (w2.ownsRow w.heap.size 40 2 vv Q.length (paCells Q)) := HOW
          have hz2' : w.heap.size ≤ w2.heap.size := HB2.out.size
          go_wp2_with (at_builtin; refine wpList_append_own _ rfl _ _ 24 rfl w.heap.size 40 i0 (.agg #[.int .i64 0, .int .i64 0]) 2 16 Try.underlying24 hi0 hz0 hz1 hz2 rfl (by decide) _ _ _ rfl (HO2.out.alloc _) ⟨w2.heap.size, 0, none⟩ 1 1 (paCells [(x, y)]) rfl rfl HN2.out (pa_one _) ?c3 ?c4 ?c5 ?_; rotate_left 3; intro v' w9 hown hgrow _; obtain ⟨ho, hbb⟩ := own_pass (Q := [(x, y)]) hown hgrow HO2.out HB2.out (Nat.le_refl _) hz2'; have HW1 := Lib.hid ho; have HB1 := Lib.hid hbb; clear hown hgrow ho hbb)
          case c3 => unfold maxLen; omega
          case c4 => omega
          case c5 => simp; omega
          go_roundw
          case rel => exact ⟨t + 1, Q ++ [(x, y)], _, by omega, by go_num, rfl, by simp; omega, HQ1, HW1, HB1⟩
          case measure => simp [intOf]; omega
    · have htn : t = n := by omega
      have k1 : ¬ (t : Int) < (n : Int) := by omega
      have hq := HQ.out
      rw [List.drop_of_length_le (by rw [HN.out]; omega)] at hq
      have hqe : Q = lastL P := by rw [← hq]; simp [lastL]
      have HE : Hid (∃ A cap, vv = .slice A Q.length cap ∧ PAt wr w.heap.size wr.heap.size A Q) := own_pat HO.out rfl
      rw [hqe] at HE
      clear htn hq hqe HO HQ hQl
      obtain ⟨A', cap, rfl, hp⟩ := HE.out
      have HP := Lib.hid hp
      clear hp HE
      go_wp2
      go_ret
      exact ⟨A', cap, rfl, HB.out, HP.out⟩

set_option maxHeartbeats 1000000 in
theorem equalPass_any (A A' : Option Addr) (c c' : Nat) (P Q : List (Int × Int)) (B B' : Nat) (w : World) (h : Passes w B A P) (h' : Passes w B' A' Q) (hB : B ≤ w.heap.size) (hB' : B' ≤ w.heap.size) (hn : P.length ≤ 40) (hn' : Q.length ≤ 40) :
    Calls Try.prog 44 #[.slice A P.length c, .slice A' Q.length c'] w fun e w' => e = .returned (.bool (decide (P = Q))) ∧ Below w.heap.size w w' := by
  obtain ⟨n, hN⟩ : ∃ n, P.length = n := ⟨_, rfl⟩
  obtain ⟨m, hM⟩ : ∃ m, Q.length = m := ⟨_, rfl⟩
  obtain ⟨r, hr⟩ : ∃ r, decide (P = Q) = r := ⟨_, rfl⟩
  rw [hN] at hn
  rw [hM] at hn'
  rw [hN, hM, hr]
  have H := Lib.hid h
  have H' := Lib.hid h'
  have HN := Lib.hid hN
  have HM := Lib.hid hM
  have HR := Lib.hid hr
  clear h h' hN hM hr
  by_cases hnm : n = m
  · subst hnm
    go_enter Try.func44, Try.ntmps44
    go_wp2
    go_loopw [13] (fun i wr => ∃ t : Nat, t ≤ n ∧ i = .int .i64 t ∧ Hid (P.take t = Q.take t) ∧ Hid (Below w.heap.size w wr)) (fun i _ => n - (intOf i).toNat)
    case atStart => exact ⟨0, Nat.zero_le _, rfl, rfl, Below.refl _ _⟩
    case round =>
      obtain ⟨t, ht, rfl, HK, HB⟩ := hrel
      by_cases hlt : t < n
      · obtain ⟨p, hp⟩ : ∃ p, P[t]? = some p := ⟨P[t]'(by rw [HN.out]; exact hlt), List.getElem?_eq_getElem _⟩
        obtain ⟨q, hq⟩ : ∃ q, Q[t]? = some q := ⟨Q[t]'(by rw [HM.out]; exact hlt), List.getElem?_eq_getElem _⟩
        obtain ⟨b, off, rfl, hb, hcell⟩ := (H.out.below (HB.out.mono hB)) (by rw [HN.out]; omega)
        obtain ⟨b', off', rfl, hb', hcell'⟩ := (H'.out.below (HB.out.mono hB')) (by rw [HM.out]; omega)
        obtain ⟨c1, c2⟩ := hcell t p hp
        obtain ⟨d1, d2⟩ := hcell' t q hq
        have Hp := Lib.hid hp
        have Hq := Lib.hid hq
        obtain ⟨x, y⟩ := p
        obtain ⟨u, v⟩ := q
        simp only at c1 c2 d1 d2
        have k0 : (0 : Int) ≤ (t : Int) := Int.natCast_nonneg _
        have k1 : (t : Int) < (n : Int) := by omega
        clear hcell hcell' hp hq hb hb'
        by_cases he : x = u ∧ y = v
        · obtain ⟨rfl, rfl⟩ := he
          have heq : ∀ W : World, (binOp .neq 40 (.agg #[.int .i64 x, .int .i64 y]) (.agg #[.int .i64 x, .int .i64 y])).run Try.prog W = .ok (.bool false) W := fun W => by rw [neq_pass]; simp
          have HK1 : Hid (P.take (t + 1) = Q.take (t + 1)) := by
            show _ = _
            rw [List.take_add_one, List.take_add_one, Hp.out, Hq.out, HK.out]
          go_wp2
          go_quiet (fail)
          go_wp2
          go_roundw
          case rel => exact ⟨t + 1, by omega, by go_num, HK1, below_drewN HB.out _⟩
          case measure => simp [intOf]; omega
        · have he' : (x == u && y == v) = false := by
            rw [pass_beq, decide_eq_false_iff_not]
            intro e
            injection e with e1 e2
            exact he ⟨e1, e2⟩
          have heq : ∀ W : World, (binOp .neq 40 (.agg #[.int .i64 x, .int .i64 y]) (.agg #[.int .i64 u, .int .i64 v])).run Try.prog W = .ok (.bool true) W := fun W => by rw [neq_pass, he']; rfl
          obtain rfl : r = false := by
            rw [← HR.out, decide_eq_false_iff_not]
            intro e
            have h1 := Hp.out
            rw [e, Hq.out] at h1
            injection h1 with h1
            injection h1 with h1 h2
            exact he ⟨h1.symm, h2.symm⟩
          clear he he'
          go_wp2
          go_quiet (fail)
          go_wp2
          go_ret
          exact ⟨rfl, below_drewN HB.out _⟩
      · have k1 : ¬ (t : Int) < (n : Int) := by omega
        obtain rfl : r = true := by
          have := HK.out
          rw [List.take_of_length_le (by rw [HN.out]; omega), List.take_of_length_le (by rw [HM.out]; omega)] at this
          rw [← HR.out, decide_eq_true_eq]
          exact this
        go_wp2
        go_ret
        exact ⟨rfl, HB.out⟩
  · obtain rfl : r = false := by
      rw [← HR.out, decide_eq_false_iff_not]
      intro e
      exact hnm (by rw [← HN.out, ← HM.out, e])
    have e1 : ((n : Int) != (m : Int)) = true := by
      simp only [bne_iff_ne, ne_eq]
      omega
    go_enter Try.func44, Try.ntmps44
    go_wp2
    go_ret
    exact ⟨rfl, Below.refl _ _⟩

/-- what AlwaysSorts answers -/
def alwaysC (a b : Int) (P : List (Int × Int)) : Int := if (fieldB a b 20 && passes20 P) = true then 0 else 2
def alwaysA (a b : Int) (P : List (Int × Int)) : Bool := if (fieldB a b 20 && passes20 P) = true then alwaysV P a b else false

section
variable (a b : Int) (A : Option Addr) (c : Nat) (P : List (Int × Int)) (B : Nat) (w : World) (h : Passes w B A P) (hB : B ≤ w.heap.size) (hn : P.length ≤ 1048576)
include h hB hn
theorem specAlways_any :
    Calls Try.prog 23 #[.agg #[.int .i64 a, .int .i64 b], .slice A P.length c] w fun e w' => e = .returned (.tuple #[.bool (alwaysA a b P), .int .i64 (alwaysC a b P)]) ∧ Below w.heap.size w w' := by
  have b0 := below_box w (.cells #[.int .i64 a, .int .i64 b] 27)
  have p0 : (w.alloc (.cells #[.int .i64 a, .int .i64 b] 27)).cell? ⟨w.heap.size, 0, none⟩ = some (.int .i64 a) := by simp
  have p1 : (w.alloc (.cells #[.int .i64 a, .int .i64 b] 27)).cell? ⟨w.heap.size, 1, none⟩ = some (.int .i64 b) := by simp
  have hf : ∀ W : World, Calls Try.prog 28 #[.agg #[.int .i64 a, .int .i64 b], .int .i64 20] W fun e w' => e = .returned (.bool (fieldB a b 20)) ∧ Below W.heap.size W w' := fun W => l02Field_any a b 20 W
  have hp := fun W (hW : Below w.heap.size w W) => l08Passes_any A c P B W (h.below (hW.mono hB)) (Nat.le_trans hB hW.size) hn
  unfold alwaysA alwaysC
  have B0 := Lib.hid b0
  obtain ⟨n, hN⟩ : ∃ n, P.length = n := ⟨_, rfl⟩
  rcases fieldC_cases a b with ⟨e, _, _⟩ | ⟨e, h0, h1, h2, _⟩
  · simp only [e] at hf
    rw [hN, e, Bool.false_and, if_neg (by simp), if_neg (by simp)]
    have HF := Lib.hid hf
    clear hf hp e hN h b0 hn
    go_enter Try.func23, Try.ntmps23
    go_wp2_with fail
    refine (HF.out _).mono ?_
    rintro e w1 ⟨rfl, hb⟩
    have B1 := Lib.hid (below_step B0.out hb)
    clear hb
    go_wp2
    go_ret2
    exact ⟨rfl, B1.out⟩
  · simp only [e] at hf
    rw [e, Bool.true_and]
    have HF := Lib.hid hf
    cases h20 : passes20 P
    · simp only [h20, hN] at hp
      rw [hN, if_neg (by simp), if_neg (by simp)]
      have HP := Lib.hid hp
      clear hf hp e hN h b0 hn h20
      go_enter Try.func23, Try.ntmps23
      go_wp2_with fail
      refine (HF.out _).mono ?_
      rintro e w1 ⟨rfl, hb⟩
      have B1 := Lib.hid (below_step B0.out hb)
      clear hb
      go_wp2_with fail
      refine (HP.out _ B1.out).mono ?_
      rintro e w2 ⟨rfl, hb⟩
      have B2 := Lib.hid (below_step B1.out hb)
      clear hb
      go_wp2
      go_ret2
      exact ⟨rfl, B2.out⟩
    · have ha := fun W (hW : Below w.heap.size w W) => l08Always_any A c P a b B W (h.below (hW.mono hB)) (Nat.le_trans hB hW.size) (passes20_len h20) (passes20_modes h20) h0 h1 h2
      rw [if_pos rfl, if_pos rfl]
      obtain ⟨r, hr⟩ : ∃ r, alwaysV P a b = r := ⟨_, rfl⟩
      simp only [h20, hN] at hp
      simp only [hN, hr] at ha
      rw [hN, hr]
      have HP := Lib.hid hp
      have HA := Lib.hid ha
      clear hf hp ha e hN h b0 hn h20 hr
      go_enter Try.func23, Try.ntmps23
      go_wp2_with fail
      refine (HF.out _).mono ?_
      rintro e w1 ⟨rfl, hb⟩
      have B1 := Lib.hid (below_step B0.out hb)
      have q0 := cell_kept p0 hb
      have q1 := cell_kept p1 hb
      clear hb
      go_wp2_with fail
      refine (HP.out _ B1.out).mono ?_
      rintro e w2 ⟨rfl, hb⟩
      have B2 := Lib.hid (below_step B1.out hb)
      have r0 := cell_kept q0 hb
      have r1 := cell_kept q1 hb
      clear hb
      go_wp2_with fail
      refine (HA.out _ B2.out).mono ?_
      rintro e w3 ⟨rfl, hb⟩
      have B3 := Lib.hid (below_step B2.out hb)
      clear hb
      go_wp2
      go_ret2
      exact ⟨rfl, B3.out⟩

set_option maxHeartbeats 1000000 in
theorem implAlways_any (hc : P.length ≤ c) (hc2 : c ≤ 9223372036854775807) :
    Calls Try.prog 25 #[.agg #[.int .i64 a, .int .i64 b], .slice A P.length c] w fun e w' => e = .returned (.tuple #[.bool (alwaysA a b P), .int .i64 (alwaysC a b P)]) ∧ Below w.heap.size w w' := by
  have b0 := below_box w (.cells #[.int .i64 a, .int .i64 b] 27)
  have p0 : (w.alloc (.cells #[.int .i64 a, .int .i64 b] 27)).cell? ⟨w.heap.size, 0, none⟩ = some (.int .i64 a) := by simp
  have p1 : (w.alloc (.cells #[.int .i64 a, .int .i64 b] 27)).cell? ⟨w.heap.size, 1, none⟩ = some (.int .i64 b) := by simp
  have hf : ∀ W : World, Calls Try.prog 30 #[.agg #[.int .i64 a, .int .i64 b], .int .i64 20] W fun e w' => e = .returned (.bool (fieldB a b 20)) ∧ Below W.heap.size W w' := fun W => isFieldOf_any a b 20 W
  have hp : ∀ W : World, Below w.heap.size w W → Calls Try.prog 39 #[.slice none 0 0, .slice A P.length c] W fun e w' => e = .returned (.int .i64 (passesC [] P)) ∧ Below W.heap.size W w' := fun W hW => checkPasses_any none A 0 c [] P B B W Deck.nil (h.below (hW.mono hB)) (Nat.le_trans hB hW.size) (Nat.le_trans hB hW.size) (by simp) (by simp) hn
  rw [passesC_nil] at hp
  unfold alwaysA alwaysC
  have B0 := Lib.hid b0
  obtain ⟨n, hN⟩ : ∃ n, P.length = n := ⟨_, rfl⟩
  rcases fieldC_cases a b with ⟨e, _, _⟩ | ⟨e, h0, h1, h2, _⟩
  · simp only [e] at hf
    rw [hN, e, Bool.false_and, if_neg (by simp), if_neg (by simp)]
    have HF := Lib.hid hf
    clear hf hp e hN h b0 hn hc
    go_enter Try.func25, Try.ntmps25
    go_wp2_with fail
    refine (HF.out _).mono ?_
    rintro e w1 ⟨rfl, hb⟩
    have B1 := Lib.hid (below_step B0.out hb)
    clear hb
    go_wp2
    go_ret2
    exact ⟨rfl, B1.out⟩
  · simp only [e] at hf
    rw [e, Bool.true_and]
    have HF := Lib.hid hf
    cases h20 : passes20 P
    · rw [h20] at hp
      simp only [hN] at hp
      rw [hN, if_neg (by simp), if_neg (by simp)]
      have HP : Hid (∀ W : World, Below w.heap.size w W → Calls Try.prog 39 #[.slice none 0 0, .slice A n c] W fun e w' => e = .returned (.int .i64 2) ∧ Below W.heap.size W w') := hp
      clear hf hp e hN h b0 hn h20 hc
      go_enter Try.func25, Try.ntmps25
      go_wp2_with fail
      refine (HF.out _).mono ?_
      rintro e w1 ⟨rfl, hb⟩
      have B1 := Lib.hid (below_step B0.out hb)
      clear hb
      go_wp2_with fail
      refine (HP.out _ B1.out).mono ?_
      rintro e w2 ⟨rfl, hb⟩
      have B2 := Lib.hid (below_step B1.out hb)
      clear hb
      go_wp2
      go_ret2
      exact ⟨rfl, B2.out⟩
    · have hl40 := passes20_len h20
      have hlo := fun W (hW : Below w.heap.size w W) => lastOnes_any A c P B W (h.below (hW.mono hB)) (Nat.le_trans hB hW.size) hl40 hc hc2
      have hpl := fun W => planOf_any a b W h0 h1 h2
      have hll : ∀ L : List (Int × Int), (lastL L).length ≤ L.length := fun L => by
        induction L with
        | nil => exact Nat.le_refl _
        | cons p L ih =>
          rw [lastL]
          split
          · simp only [List.length_cons]; omega
          · simp only [List.length_cons]; omega
      have heq := fun A A' c c' W (h1' : Passes W W.heap.size A (lastL P)) (h2' : Passes W W.heap.size A' (planTo b (b - a).toNat)) => equalPass_any A A' c c' (lastL P) (planTo b (b - a).toNat) W.heap.size W.heap.size W h1' h2' (Nat.le_refl _) (Nat.le_refl _) (Nat.le_trans (hll P) hl40) (by rw [planTo_length]; omega)
      rw [if_pos rfl, if_pos rfl, alwaysV]
      obtain ⟨r, hr⟩ : ∃ r, decide (lastL P = planTo b (b - a).toNat) = r := ⟨_, rfl⟩
      obtain ⟨L, hL⟩ : ∃ L, lastL P = L := ⟨_, rfl⟩
      obtain ⟨Q, hQ⟩ : ∃ Q, planTo b (b - a).toNat = Q := ⟨_, rfl⟩
      rw [hr]
      simp only [hr] at heq
      simp only [hL, hQ] at hlo hpl heq
      rw [h20] at hp
      simp only [hN] at hp hlo
      rw [hN]
      have HP : Hid (∀ W : World, Below w.heap.size w W → Calls Try.prog 39 #[.slice none 0 0, .slice A n c] W fun e w' => e = .returned (.int .i64 0) ∧ Below W.heap.size W w') := hp
      have HLO := Lib.hid hlo
      have HPL := Lib.hid hpl
      have HEQ := Lib.hid heq
      clear hf hp e hN h b0 hn h20 hr hL hQ hlo hpl heq hll hl40 hc
      go_enter Try.func25, Try.ntmps25
      go_wp2_with fail
      refine (HF.out _).mono ?_
      rintro e w1 ⟨rfl, hb⟩
      have B1 := Lib.hid (below_step B0.out hb)
      have q0 := cell_kept p0 hb
      have q1 := cell_kept p1 hb
      clear hb
      go_wp2_with fail
      refine (HP.out _ B1.out).mono ?_
      rintro e w2 ⟨rfl, hb⟩
      have B2 := Lib.hid (below_step B1.out hb)
      have r0 := cell_kept q0 hb
      have r1 := cell_kept q1 hb
      have HC : Hid (Below w.heap.size w w2.drew) := B2.out.drew
      have HS : Hid (Below w2.drew.heap.size w2.drew w2.drew) := Below.refl _ _
      clear hb q0 q1 p0 p1
      go_wp2_with fail
      go_region_held3 (fun W => W.cell? ⟨w.heap.size, 0, none⟩ = some (.int .i64 a) ∧ W.cell? ⟨w.heap.size, 1, none⟩ = some (.int .i64 b))
        (first | exact ⟨cell_kept (w := w2.drew) r0 HS.out, cell_kept (w := w2.drew) r1 HS.out⟩ | go_keep)
        (first
          | (go_at_call 45
             refine (HLO.out _ HC.out).mono ?_
             rintro e w3 ⟨A1, c1, rfl, hb, ho⟩
             try (have O2 := Lib.hid (O2.out.later hb))
             have O1 := Lib.hid ho
             have HC := Lib.hid (below_step HC.out hb)
             have HS := Lib.hid (below_step HS.out hb)
             clear hb ho)
          | (go_at_call 31
             refine (HPL.out _).mono ?_
             rintro e w3 ⟨A2, c2, rfl, hb, ho⟩
             try (have O1 := Lib.hid (O1.out.later hb))
             have O2 := Lib.hid ho
             have HC := Lib.hid (below_step HC.out hb)
             have HS := Lib.hid (below_step HS.out hb)
             clear hb ho)
          | (go_at_call 44
             refine (HEQ.out _ _ _ _ _ O1.out.passes O2.out.passes).mono ?_
             rintro e w3 ⟨rfl, hb⟩
             have HC := Lib.hid (below_step HC.out hb)
             have HS := Lib.hid (below_step HS.out hb)
             clear hb))
      all_goals
        have HB2 : Hid (Below w.heap.size w _) := HC
        go_wp2
        go_ret2
        exact ⟨rfl, HB2.out⟩
end
end Go.Proofs.Ytfffdlmpiglojaa
