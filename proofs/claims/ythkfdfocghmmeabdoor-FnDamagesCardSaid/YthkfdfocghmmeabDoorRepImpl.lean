/- impl.RepairCard gives the card with the nearest characters, and how many holes are changed, or the code, for every card of at most 1048576 columns: a contract, in worlds whose table of places holds what the program's text lays in it. -/
import Derived.Test.YthkfdfocghmmeabDoorRepCard
import Derived.Test.YthkfdfocghmmeabDoorNearest
namespace Go.Proofs.YthkfdfocghmmeabDoor
open Go.ChangeShapes Go.WideShapes Go.ChangeAt Go.RowKit

theorem implRepair_bad (A : Option Addr) (c : Nat) (xs : List Int) (B : Nat) (w : World) (h : Ints w B A xs) (hB : B ≤ w.heap.size) (hn : xs.length ≤ 1048576) (hv : okB xs = false) :
    Calls Tryd.prog 13 #[.agg #[.slice A xs.length c]] w (GivesCodeN 1 w) := by
  have ho := implValidCard_any A c xs B ((w.alloc (.cells #[.slice A xs.length c] 26)).alloc (.cells #[.slice none 0 0] 26)) ((h.alloc hB _).alloc (by simp; omega) _) (by simp; omega) hn
  rw [hv] at ho
  have HO := Lib.hid ho
  clear ho hv h hn
  go_enter Tryd.func13, Tryd.ntmps13
  go_wp2_with fail
  refine HO.out.mono ?_
  rintro e w1 ⟨rfl, hb1⟩
  have B1 := Lib.hid (below_step ((below_box w _).alloc (by simp) _) hb1)
  have c1 := cell_kept (p := ⟨w.heap.size + 1, 0, none⟩) (v := .slice none 0 0) (by simp) hb1
  have f1 : w1.frozen? ⟨w.heap.size + 1, 0, none⟩ = false := by rw [hb1.frozen (by simp)]; simp
  clear hb1 HO
  go_wp2
  exact bodyPost_ret (v := .tuple #[.agg #[.slice none 0 0], .int .i64 0, .int .i64 1]) (by simp [results, Tryd.results13, go_sem, c1]) rfl ⟨rfl, B1.out.setCell (by simp) _⟩

theorem frozen_keptR {w w' : World} {p : Addr} {v : Value} (h : w.cell? p = some v) (f : w.frozen? p = false) (hb : Below w.heap.size w w') : w'.frozen? p = false := by
  rw [hb.frozen (World.block_lt_of_cell? _ _ h)]
  exact f

theorem implRepair_good (A : Option Addr) (c : Nat) (xs : List Int) (B : Nat) (w : World) (h : Ints w B A xs) (hB : B ≤ w.heap.size) (hn : xs.length ≤ 1048576) (hv : okB xs = true) (hp : Places w) :
    Calls Tryd.prog 13 #[.agg #[.slice A xs.length c]] w (GivesCardN (repL xs) (distN xs (repL xs)) w) := by
  have ho := implValidCard_any A c xs B ((w.alloc (.cells #[.slice A xs.length c] 26)).alloc (.cells #[.slice none 0 0] 26)) ((h.alloc hB _).alloc (by simp; omega) _) (by simp; omega) hn
  rw [hv] at ho
  obtain ⟨hleg, hn20⟩ := okB_parts hv
  have hn0 : 0 < xs.length := by
    have := hv
    simp [okB, inB] at this
    omega
  rw [distN_comm xs (repL xs) hleg (repL_legal xs)]
  obtain ⟨n, hN⟩ : ∃ n, xs.length = n := ⟨_, rfl⟩
  have hmk := run_make_row' (P := Tryd.prog) 43 2 (.int .i64 0) 8 Tryd.underlying43 info_int64 rfl .i64 .i64 n (by omega) (by omega)
  rw [hN] at ho hn hn0 ⊢
  have HO := Lib.hid ho
  have HN := Lib.hid hN
  have HL := Lib.hid hleg
  have HI := Lib.hid h
  have HP := Lib.hid hp
  have HRL : Hid ((repL xs).length = n) := by show _ = _; rw [repL_length, hN]
  have HF := Lib.hid (fun W A' hI hI' => colsDist_any A' A n c (repL xs) xs (B + W.heap.size) B W hI hI' (by rw [repL_length]; omega) (repL_length xs) (repL_legal xs) hleg)
  obtain ⟨ys, hys⟩ : ∃ ys, repL xs = ys := ⟨_, rfl⟩
  have HYS := Lib.hid hys
  have HGET := Lib.hid (fun k h => repL_get xs k h)
  rw [hys] at HRL HF HGET ⊢
  clear ho h hv hN hleg hn20 hp hys
  go_enter Tryd.func13, Tryd.ntmps13
  go_wp2_with fail
  refine HO.out.mono ?_
  rintro e w1 ⟨rfl, hb1⟩
  have B1 := Lib.hid (below_step ((below_box w _).alloc (by simp) _) hb1)
  have c0 := cell_kept (p := ⟨w.heap.size, 0, none⟩) (v := .slice A n c) (by simp) hb1
  have c1 := cell_kept (p := ⟨w.heap.size + 1, 0, none⟩) (v := .slice none 0 0) (by simp) hb1
  have f1 : w1.frozen? ⟨w.heap.size + 1, 0, none⟩ = false := by rw [hb1.frozen (by simp)]; simp
  have hbx := below_box w1 (.cells (madeCells #[Value.int .i64 0] n) 2)
  have c0a := cell_kept c0 hbx
  have HBX := Lib.hid hbx
  clear hb1 HO hbx
  go_wp2
  clear hmk c0a
  have hbx := HBX.out
  have HROW : Hid (Row (w1.alloc (.cells (madeCells #[Value.int .i64 0] n) 2)) w1.heap.size (part ys 0) []) := by
    show Row _ _ _ _
    rw [part_zero, HRL.out, madeCells_int]
    exact Row.new_at _ _ rfl
  have B2 := Lib.hid (below_step B1.out hbx)
  have C0 := Lib.hid (cell_kept c0 hbx)
  have C1 := Lib.hid (cell_kept c1 hbx)
  have F1 := Lib.hid (frozen_keptR c1 f1 hbx)
  have hg1 : w.heap.size + 1 < w1.heap.size := World.block_lt_of_cell? _ _ c1
  clear hbx HBX c0 c1 f1 B1
  generalize w1.alloc (.cells (madeCells #[Value.int .i64 0] n) 2) = w2 at *
  go_loopw [19] (fun i wr => ∃ k : Nat, k ≤ n ∧ i = .int .i64 k ∧ Hid (Below w.heap.size w wr) ∧ Hid (wr.cell? ⟨w.heap.size, 0, none⟩ = some (.slice A n c)) ∧ Hid (wr.cell? ⟨w.heap.size + 1, 0, none⟩ = some (.slice none 0 0)) ∧ Hid (wr.frozen? ⟨w.heap.size + 1, 0, none⟩ = false) ∧ Hid (Row wr w1.heap.size (part ys k) [])) (fun i _ => n - (intOf i).toNat)
  case atStart => exact ⟨0, Nat.zero_le _, rfl, B2, C0, C1, F1, HROW⟩
  case round =>
    obtain ⟨k, hk, rfl, HB, K0, K1, KF, HRW⟩ := hrel
    by_cases hlt : k < n
    · have hx : k < xs.length := by rw [HN.out]; exact hlt
      obtain ⟨b, off, rfl, hb, hcell⟩ := (HI.out.below (HB.out.mono hB)) (by omega)
      have x1 := hcell k hx
      have hm := legal_at HL.out hx
      have hset := part_set ys k (by rw [HRL.out]; exact hlt)
      rw [HGET.out k hx] at hset
      obtain ⟨x, hxx⟩ : ∃ x, xs[k]?.getD 0 = x := ⟨_, rfl⟩
      rw [hxx] at x1 hm hset
      have hr := nearest_any x hm wr (HP.out.below HB.out)
      have hc := fun W => codeOf_char (nearK x) (nearK_lt x) W
      obtain ⟨ch, hch⟩ : ∃ ch, charR (nearK x) = ch := ⟨_, rfl⟩
      rw [hch] at hr hc hset
      obtain ⟨y, hy⟩ : ∃ y, codeS ch = y := ⟨_, rfl⟩
      rw [hy] at hc hset
      have HR := Lib.hid hr
      have HX := Lib.hid hc
      have HSET := Lib.hid hset
      have HPL := Lib.hid (part_length ys k (by rw [HRL.out]; exact hk))
      have hk0 : (0 : Int) ≤ (k : Int) := Int.natCast_nonneg _
      have hk1 : (k : Int) < (n : Int) := by omega
      clear hcell hx hxx hm hr hch hc hy hset
      go_wp2_with fail
      refine HR.out.mono ?_
      rintro e w3 ⟨rfl, hb3⟩
      have B3 := Lib.hid (below_step HB.out hb3)
      have R3 := Lib.hid (HRW.out.later hb3)
      have M0 := Lib.hid (cell_kept K0.out hb3)
      have M1 := Lib.hid (cell_kept K1.out hb3)
      have MF := Lib.hid (frozen_keptR K1.out KF.out hb3)
      have z1 := R3.out.cell (i := k) (by rw [HPL.out, HRL.out]; exact hlt)
      have z2 := R3.out.frozen k
      obtain ⟨v, hvv⟩ : ∃ v, (part ys k)[k]?.getD 0 = v := ⟨_, rfl⟩
      rw [hvv] at z1
      clear hb3 hvv HR x1 HB K0 K1 KF HRW
      go_wp2_with (go_at_call 31; refine (HX.out _).mono ?_; rintro e w' ⟨rfl, rfl⟩)
      go_roundw
      case rel =>
        refine ⟨k + 1, by omega, by go_num, B3.out.setCell (by show w.heap.size ≤ w1.heap.size; omega) _, ?_, ?_, ?_, ?_⟩
        · show _ = _
          rw [World.cell?_setCell_other _ _ _ _ (by intro e; injection e with e; omega)]
          exact M0.out
        · show _ = _
          rw [World.cell?_setCell_other _ _ _ _ (by intro e; injection e with e; omega)]
          exact M1.out
        · show _ = _
          rw [World.frozen?_setCell]
          exact MF.out
        · show Row _ _ _ _
          rw [← HSET.out]
          exact R3.out.set (by rw [HPL.out, HRL.out]; exact hlt) _
      case measure => simp [intOf]; omega
    · obtain rfl : k = n := by omega
      have hk1 : ¬ (k : Int) < (k : Int) := by omega
      have hrow2 : Row wr w1.heap.size ys [] := by
        have := HRW.out
        rw [← HRL.out, part_all] at this
        exact this
      have c0 := K0.out
      have c1 := K1.out
      have f1 := KF.out
      have hI := hrow2.ints
      have hI2 := HI.out.below (HB.out.mono hB)
      have hf := HF.out wr (some ⟨w1.heap.size, 0, none⟩) (hI.more (by have := hrow2.lt; omega)) hI2
      rw [HRL.out, HN.out] at hf
      obtain ⟨d, hd⟩ : ∃ d, distN ys xs = d := ⟨_, rfl⟩
      have HD := Lib.hid hd
      rw [hd] at hf
      have H1 := Lib.hid hf
      have R4 := Lib.hid hrow2
      clear hrow2 hI hI2 hf hd K0 K1 KF HRW
      go_wp2_with fail
      refine H1.out.mono ?_
      rintro e w4 ⟨rfl, rfl⟩
      go_wp2
      refine bodyPost_ret (v := .tuple #[.agg #[.slice (some ⟨w1.heap.size, 0, none⟩) k k], .int .i64 d, .int .i64 0]) (by simp [results, Tryd.results13, go_sem, c1]) rfl ⟨w1.heap.size, k, [], by rw [HRL.out, HD.out], by omega, ?_, ?_⟩
      · exact HB.out.setCell (by simp) _
      · exact R4.out.far (by simp; omega) _
end Go.Proofs.YthkfdfocghmmeabDoor
