/- slices.Repeat of one card: a contract. -/
import Derived.Test.YtamookdlbmbncaaShelf
import Derived.Test.YtamookdlbmbncaaFeed
import Derived.Laws.CopyOwn
import Derived.Deep.RegionLaw
namespace Go.Proofs.Ytamookdlbmbncaa
open Go.ChangeShapes Go.WideShapes Go.ChangeAt Go.RowKit

/-- s cards, then none -/
def reps (v : Value) (s n : Nat) : List Value := List.replicate s v ++ List.replicate (n - s) (.slice none 0 0)
theorem reps_length {v : Value} {s n : Nat} (h : s ≤ n) : (reps v s n).length = n := by simp [reps]; omega
theorem reps_get {v : Value} {s n i : Nat} (h : i < s) : (reps v s n)[i]? = some v := by
  unfold reps
  rw [List.getElem?_append_left (by simpa using h), List.getElem?_replicate, if_pos h]
theorem reps_splice {v : Value} {s k n : Nat} (h : s + k ≤ n) : splice (reps v s n) s (List.replicate k v) = reps v (s + k) n := by
  unfold splice reps
  rw [List.take_append_of_le_length (by simp), List.take_of_length_le (by simp), List.length_replicate, List.drop_append, List.drop_of_length_le (by simp), List.nil_append, List.length_replicate, List.drop_replicate, ← List.append_assoc, List.replicate_append_replicate]
  congr 2
  omega
theorem cells_nil (n : Nat) : cellsOf [] n = reps (.slice none 0 0) 0 n := by simp [cellsOf, reps]
theorem reps_zero (v : Value) (n : Nat) : reps v 0 n = cellsOf [] n := by simp [cellsOf, reps]

/-- equal cards in a block of one's own -/
def GivesReps (v : Value) (n : Nat) (w : World) (e : Ending) (w' : World) : Prop :=
  ∃ g, e = .returned (.slice (some ⟨g, 0, none⟩) n n) ∧ w.heap.size ≤ g ∧ Below w.heap.size w w' ∧ w'.heap[g]? = some (.cells (reps v n n).toArray 33 (0, 0))

set_option maxRecDepth 100000 in
set_option maxHeartbeats 4000000 in
theorem repeat_any (b : Nat) (v : Value) (h1 : v.oneCell' = true) (n : Nat) (w : World) (hc : w.cell? ⟨b, 0, none⟩ = some v) (hn : n ≤ 40) :
    Calls Try.prog 67 #[.slice (some ⟨b, 0, none⟩) 1 1, .int .i64 n] w (GivesReps v n w) := by
  have hmul := fun W => Try.bits_Mul 1 n (by omega) (by omega) W
  have hm1 : (1 * n / 18446744073709551616 : Nat) = 0 := by omega
  have hm2 : (1 * n % 18446744073709551616 : Nat) = n := by omega
  simp only [hm1, hm2] at hmul
  have hmk := make_feed n (by omega)
  obtain ⟨ic, hi0, hz0, hz1, hz2⟩ := info_parts info_card
  have hsz : (Try.prog.info? 33).map (·.size) = some 1 := by rw [hi0, Option.map_some, hz1]
  have n0 : ¬ (n : Int) < 0 := by omega
  have n1 : IntKind.u64.wrap (n : Int) = (n : Int) := by unfold IntKind.wrap; simp [IntKind.bits]; omega
  have n2 : decide ((9223372036854775807 : Int) < (n : Int)) = false := decide_eq_false (by omega)
  simp only [← reps_zero v n] at hmk
  have hlt := World.block_lt_of_cell? _ _ hc
  have hb0 := below_box w (.cells (reps v 0 n).toArray 33)
  have HG0 := Lib.hid (heap_alloc_new w (.cells (reps v 0 n).toArray 33))
  have hc0 := cell_kept hc hb0
  have HC := Lib.hid hc0
  have HB0 := Lib.hid hb0
  obtain ⟨W1, hW1⟩ : ∃ W1, w.alloc (.cells (reps v 0 n).toArray 33) = W1 := ⟨_, rfl⟩
  rw [hW1] at HG0 HC HB0
  have hmk2 := hmk w
  rw [hW1] at hmk2
  have HM := Lib.hid hmul
  have HL0 := Lib.hid (reps_length (v := v) (Nat.zero_le n))
  have HS0 : Hid (splice (reps v 0 n) 0 (List.replicate (Nat.min 1 n) v) = reps v (Nat.min 1 n) n) := by
    have := reps_splice (v := v) (s := 0) (k := Nat.min 1 n) (n := n) (by rw [Nat.zero_add]; exact Nat.min_le_right _ _)
    rw [Nat.zero_add] at this
    exact this
  have HW1 := Lib.hid hW1
  clear hmul hm1 hm2 hmk hb0 hc hc0
  go_enter Try.func67, Try.ntmps67
  go_wp2_with (first | (go_at_call 81; refine (HM.out _).mono ?_; rintro e w' ⟨rfl, rfl⟩) | (refine wpList_copy_splice (o := ⟨some 33, _, _, _, _, _⟩) rfl (.tmp 31) (.tmp 32) 82 82 rfl 33 Try.underlying82 hsz _ _ _ _ _ _ rfl rfl _ 0 (reps v 0 n) 33 HG0.out (List.replicate (Nat.min 1 n) v) ?p1 ?p2 ?p3 ?p4 _ _ HB0.out (Nat.le_refl _) ?_; rotate_left 4; intro w2 HG2 hB2; rw [HS0.out] at HG2; have HB2 := Lib.hid hB2; clear hB2))
  case p1 => simp
  case p2 =>
    intro h0 j u hj
    have h9 : Nat.min 1 n ≤ 1 := Nat.min_le_left _ _
    obtain ⟨hj1, hj2⟩ := List.getElem?_eq_some_iff.1 hj
    rw [List.length_replicate] at hj1
    obtain rfl : j = 0 := by omega
    rw [List.getElem_replicate] at hj2
    rw [← hj2]
    exact HC.out
  case p3 => rw [HL0.out, List.length_replicate, Nat.zero_add]; exact Nat.min_le_right _ _
  case p4 => intro u hu; rw [List.eq_of_mem_replicate hu]; exact h1
  rename World => w2
  clear hW1 hmk2
  have HH1 := Lib.hid h1
  go_loopw [8] (fun x wr => ∃ s : Nat, s ≤ n ∧ x = .int .i64 s ∧ Hid (0 < n → 0 < s) ∧ Hid (Below w'.heap.size w' wr) ∧ Hid (wr.heap[w'.heap.size]? = some (.cells (reps v s n).toArray 33 (0, 0)))) (fun x _ => n - (intOf x).toNat)
  case atStart => exact ⟨Nat.min 1 n, Nat.min_le_right _ _, by simp, (fun h0 => Nat.lt_min.2 ⟨by omega, h0⟩), HB2, HG2⟩
  case round =>
    obtain ⟨s, hs, rfl, HP, HB, HG⟩ := hrel
    obtain ⟨g, hg⟩ : ∃ g, w'.heap.size = g := ⟨_, rfl⟩
    by_cases hlt : s < n
    · have hpos := HP.out (by omega)
      obtain ⟨k, hk⟩ : ∃ k, Nat.min s (n - s) = k := ⟨_, rfl⟩
      have hk1 : k ≤ n - s := by rw [← hk]; exact Nat.min_le_right _ _
      have hk2 : 0 < k := by rw [← hk]; exact Nat.lt_min.2 ⟨hpos, by omega⟩
      have hsl1 : ∀ W : World, (Instr.slice 82 (.slice (some ⟨w'.heap.size, 0, none⟩) n n) (some (.int .i64 s)) none none).run Try.prog W = .ok (.slice (some ⟨w'.heap.size, s, none⟩) (n - s) (n - s)) W := fun W => by
        have e1 : (s : Int) ≤ (n : Int) := by omega
        have e2 : n - s ≠ 0 := by omega
        go_simp
        omega
      have hsl2 : ∀ W : World, (Instr.slice 82 (.slice (some ⟨w'.heap.size, 0, none⟩) n n) none (some (.int .i64 s)) none).run Try.prog W = .ok (.slice (some ⟨w'.heap.size, 0, none⟩) s n) W := fun W => by
        have e1 : (s : Int) ≤ (n : Int) := by omega
        have e2 : (0 : Int) ≤ (s : Int) := by omega
        go_simp
      have q1 : (List.replicate k v).length = Nat.min s (n - s) := by rw [List.length_replicate, hk]
      have q2 : ∀ dp sp : Option Addr, dp = some ⟨w'.heap.size, s, none⟩ → sp = some ⟨w'.heap.size, 0, none⟩ → 0 < (List.replicate k v).length → dp = some ⟨w'.heap.size, s, none⟩ ∧ ∃ ad, sp = some ad ∧ ∀ j u, (List.replicate k v)[j]? = some u → wr.drew.cell? (ad.add j) = some u := fun dp sp h1 h2 _ => by
        refine ⟨h1, _, h2, fun j u hj => ?_⟩
        obtain ⟨hj1, hj2⟩ := List.getElem?_eq_some_iff.1 hj
        rw [List.length_replicate] at hj1
        rw [List.getElem_replicate] at hj2
        have e : (⟨w'.heap.size, 0, none⟩ : Addr).add j = ⟨w'.heap.size, 0 + j, none⟩ := Go.WideShapes.add_plain _ _ _
        have hc := cell_of_row wr w'.heap.size j _ _ _ HG.out
        rw [e, Nat.zero_add]
        have hks : k ≤ s := by rw [← hk]; exact Nat.min_le_left _ _
        have h3 := reps_get (v := v) (n := n) (show j < s by omega)
        show wr.cell? _ = _
        rw [hc]
        simp only [List.getElem?_toArray]
        rw [h3, hj2]
      have q3 : s + (List.replicate k v).length ≤ (reps v s n).length := by rw [List.length_replicate, reps_length hs]; omega
      have q4 : ∀ u ∈ List.replicate k v, u.oneCell' = true := fun u hu => by rw [List.eq_of_mem_replicate hu]; exact HH1.out
      have q5 : goInt ((List.replicate k v).length : Int) = .int .i64 k := by rw [List.length_replicate]; rfl
      have hsp := reps_splice (v := v) (s := s) (k := k) (n := n) (by omega)
      have HGD : wr.drew.heap[w'.heap.size]? = some (.cells (reps v s n).toArray 33 (0, 0)) := HG.out
      have HBD : Below w'.heap.size w' wr.drew := HB.out.drew
      obtain ⟨_, ad, had, hsrc⟩ := q2 _ _ rfl rfl (by rw [List.length_replicate]; exact hk2)
      obtain rfl : (⟨w'.heap.size, 0, none⟩ : Addr) = ad := Option.some.inj had
      have hcopy := run_copy_row (P := Try.prog) wr.drew 82 82 3 33 w'.heap.size s (n - s) (n - s) ⟨w'.heap.size, 0, none⟩ s n (reps v s n).toArray 33 (List.replicate k v) Try.underlying82 hsz HGD q1 hsrc (by simpa using q3) q4
      have hg9 := setRow_heap wr.drew w'.heap.size _ ((reps v s n).toArray.toList.take s ++ (List.replicate k v ++ (reps v s n).toArray.toList.drop (s + (List.replicate k v).length))).toArray _ _ HGD
      have hb9 := below_setRow HBD (Nat.le_refl _) ((reps v s n).toArray.toList.take s ++ (List.replicate k v ++ (reps v s n).toArray.toList.drop (s + (List.replicate k v).length))).toArray
      obtain ⟨W9, hW9⟩ : ∃ W9, wr.drew.setRow w'.heap.size ((reps v s n).toArray.toList.take s ++ (List.replicate k v ++ (reps v s n).toArray.toList.drop (s + (List.replicate k v).length))).toArray = W9 := ⟨_, rfl⟩
      rw [List.append_assoc] at hcopy
      rw [hW9] at hcopy hg9 hb9
      rw [q5] at hcopy
      have hg10 : W9.heap[w'.heap.size]? = some (.cells (reps v (s + k) n).toArray 33 (0, 0)) := by
        rw [hg9, ← hsp]
        rfl
      have HG9 := Lib.hid hg10
      have HB9 := Lib.hid hb9
      have t0 : (0 : Int) ≤ (s : Int) := Int.natCast_nonneg _
      have t1 : (s : Int) < (n : Int) := by omega
      have t2 : IntKind.i64.wrap ((s : Int) + (k : Int)) = ((s + k : Nat) : Int) := by rw [IntWalk.i64_in _ (by omega)]; omega
      clear hk q1 q2 q3 q4 q5 hg hsp HGD HBD had hsrc hg9 hb9 hW9 hg10
      go_wp2_with fail
      go_region
      all_goals
        go_wp2
        go_roundw
        case rel => exact ⟨s + k, by omega, by first | go_num | rfl, (fun _ => by omega), HB9, HG9⟩
        case measure => simp [intOf]; omega
    · obtain rfl : s = n := by omega
      have t1 : ¬ (s : Int) < (s : Int) := by omega
      clear hg
      go_wp2
      go_ret
      exact ⟨_, rfl, Nat.le_refl _, HB.out, HG.out⟩
end Go.Proofs.Ytamookdlbmbncaa
