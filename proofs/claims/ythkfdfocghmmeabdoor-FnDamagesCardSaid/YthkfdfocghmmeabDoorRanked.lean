/- impl.charactersByRank answers the characters in the order of their ranks, slices.MinFunc and impl's method nearest the nearest character of a column: contracts; impl.RepairColumn too. -/
import Derived.Test.YthkfdfocghmmeabDoorRepair
import Derived.Test.YthkfdfocghmmeabDoorRank
import Derived.Test.YthkfdfocghmmeabDoorMem
import Derived.Deep.DeepCutAuto
import Derived.Laws.Tables
namespace Go.Proofs.YthkfdfocghmmeabDoor
open Go.ChangeShapes Go.WideShapes Go.ChangeAt Go.RowKit

/-- the rank of the character at a place of the sheet -/
def rkS (k : Nat) : Nat := (placesL.getD (sheetC k).toNat 0).toNat - 1
def sheetFact (k : Nat) : Bool := decide ((sheetC k).toNat < 91) && (decide (placesL.getD (sheetC k).toNat 0 = (rkS k : Int) + 1) && (decide (rkS k < 40) && decide (0 ≤ sheetC k)))
theorem sheet_all : ∀ k : Fin 40, sheetFact k.val = true := by decide +kernel
theorem sheet_rank (k : Nat) (h : k < 40) : ∃ n : Nat, sheetC k = n ∧ n < 91 ∧ placesL.getD n 0 = (rkS k : Int) + 1 ∧ rkS k < 40 := by
  have := sheet_all ⟨k, h⟩
  simp only [sheetFact, Bool.and_eq_true, decide_eq_true_eq] at this
  exact ⟨(sheetC k).toNat, by omega, this.1, this.2.1, this.2.2.1⟩
/-- the table behind k steps -/
def arrTo : Nat → List Int
  | 0 => List.replicate 40 0
  | k + 1 => (arrTo k).set (rkS k) (sheetC k)
theorem arrTo_length : ∀ k, (arrTo k).length = 40
  | 0 => by simp [arrTo]
  | k + 1 => by rw [arrTo, List.length_set, arrTo_length k]
theorem arrTo_all : arrTo 40 = (List.range 40).map charR := by decide +kernel

/-- Block g holds the bytes l, as an array. -/
def ARow (w : World) (g : Nat) (l : List Int) : Prop := w.heap[g]? = some (.cells (l.map (Value.int .u8)).toArray 79 (0, 0))
theorem ARow.cell {w : World} {g : Nat} {l : List Int} (h : ARow w g l) {i : Nat} (hi : i < l.length) : w.cell? ⟨g, i, none⟩ = some (.int .u8 (l[i]?.getD 0)) := by
  rw [cell_of_row w g i _ _ _ h]
  simp [hi]
theorem ARow.frozen {w : World} {g : Nat} {l : List Int} (h : ARow w g l) (i : Nat) : w.frozen? ⟨g, i, none⟩ = false := by
  unfold ARow at h
  simp [World.frozen?, h]
theorem ARow.lt {w : World} {g : Nat} {l : List Int} (h : ARow w g l) : g < w.heap.size := by
  unfold ARow at h
  rcases Nat.lt_or_ge g w.heap.size with hg | hg
  · exact hg
  · rw [Array.getElem?_eq_none hg] at h
    cases h
theorem ARow.set {w : World} {g : Nat} {l : List Int} (h : ARow w g l) (i : Nat) (u : Int) : ARow (w.setCell ⟨g, i, none⟩ (.int .u8 u)) g (l.set i u) := by
  unfold ARow at h ⊢
  simp only [World.setCell, Array.getElem?_modify, if_true, h, Option.map_some]
  congr 2
  apply Array.ext'
  simp [List.map_set]
theorem below_setRow {B : Nat} {a w : World} {g : Nat} (h : Below B a w) (hg : B ≤ g) (cs : Array Value) : Below B a (w.setRow g cs) := ⟨h.os, h.tape, h.output, by simpa [World.setRow] using h.size, fun k hk => by
  rw [← h.block k hk]
  simp [World.setRow, Array.getElem?_modify]
  intro e
  omega⟩
theorem info_arr : (Tryd.prog.info? 79).map (·.size) = some 40 := by kernel_rfl
/-- the characters in the order of their ranks, as an array -/
def rankedA : Array Value := (((List.range 40).map charR).map (Value.int .u8)).toArray
theorem ranked_size : rankedA.size = 40 := by simp [rankedA]

set_option maxRecDepth 100000 in
theorem byRank_any (w : World) (hp : Places w) :
    Calls Tryd.prog 52 #[] w fun e w' => e = .returned (.agg rankedA) ∧ Below w.heap.size w w' := by
  have HP := Lib.hid hp
  clear hp
  go_enter Tryd.func52, Tryd.ntmps52
  go_wp2
  have B2 : Hid (Below w.heap.size w ((w.alloc (.cells #[Value.int .u8 0, Value.int .u8 0, Value.int .u8 0, Value.int .u8 0, Value.int .u8 0, Value.int .u8 0, Value.int .u8 0, Value.int .u8 0, Value.int .u8 0, Value.int .u8 0, Value.int .u8 0, Value.int .u8 0, Value.int .u8 0, Value.int .u8 0, Value.int .u8 0, Value.int .u8 0, Value.int .u8 0, Value.int .u8 0, Value.int .u8 0, Value.int .u8 0, Value.int .u8 0, Value.int .u8 0, Value.int .u8 0, Value.int .u8 0, Value.int .u8 0, Value.int .u8 0, Value.int .u8 0, Value.int .u8 0, Value.int .u8 0, Value.int .u8 0, Value.int .u8 0, Value.int .u8 0, Value.int .u8 0, Value.int .u8 0, Value.int .u8 0, Value.int .u8 0, Value.int .u8 0, Value.int .u8 0, Value.int .u8 0, Value.int .u8 0] 79)).alloc (.cells #[Value.int .u8 0, Value.int .u8 0, Value.int .u8 0, Value.int .u8 0, Value.int .u8 0, Value.int .u8 0, Value.int .u8 0, Value.int .u8 0, Value.int .u8 0, Value.int .u8 0, Value.int .u8 0, Value.int .u8 0, Value.int .u8 0, Value.int .u8 0, Value.int .u8 0, Value.int .u8 0, Value.int .u8 0, Value.int .u8 0, Value.int .u8 0, Value.int .u8 0, Value.int .u8 0, Value.int .u8 0, Value.int .u8 0, Value.int .u8 0, Value.int .u8 0, Value.int .u8 0, Value.int .u8 0, Value.int .u8 0, Value.int .u8 0, Value.int .u8 0, Value.int .u8 0, Value.int .u8 0, Value.int .u8 0, Value.int .u8 0, Value.int .u8 0, Value.int .u8 0, Value.int .u8 0, Value.int .u8 0, Value.int .u8 0, Value.int .u8 0] 79))) := (below_box w _).alloc (by simp) _
  have R1 : Hid (ARow ((w.alloc (.cells #[Value.int .u8 0, Value.int .u8 0, Value.int .u8 0, Value.int .u8 0, Value.int .u8 0, Value.int .u8 0, Value.int .u8 0, Value.int .u8 0, Value.int .u8 0, Value.int .u8 0, Value.int .u8 0, Value.int .u8 0, Value.int .u8 0, Value.int .u8 0, Value.int .u8 0, Value.int .u8 0, Value.int .u8 0, Value.int .u8 0, Value.int .u8 0, Value.int .u8 0, Value.int .u8 0, Value.int .u8 0, Value.int .u8 0, Value.int .u8 0, Value.int .u8 0, Value.int .u8 0, Value.int .u8 0, Value.int .u8 0, Value.int .u8 0, Value.int .u8 0, Value.int .u8 0, Value.int .u8 0, Value.int .u8 0, Value.int .u8 0, Value.int .u8 0, Value.int .u8 0, Value.int .u8 0, Value.int .u8 0, Value.int .u8 0, Value.int .u8 0] 79)).alloc (.cells #[Value.int .u8 0, Value.int .u8 0, Value.int .u8 0, Value.int .u8 0, Value.int .u8 0, Value.int .u8 0, Value.int .u8 0, Value.int .u8 0, Value.int .u8 0, Value.int .u8 0, Value.int .u8 0, Value.int .u8 0, Value.int .u8 0, Value.int .u8 0, Value.int .u8 0, Value.int .u8 0, Value.int .u8 0, Value.int .u8 0, Value.int .u8 0, Value.int .u8 0, Value.int .u8 0, Value.int .u8 0, Value.int .u8 0, Value.int .u8 0, Value.int .u8 0, Value.int .u8 0, Value.int .u8 0, Value.int .u8 0, Value.int .u8 0, Value.int .u8 0, Value.int .u8 0, Value.int .u8 0, Value.int .u8 0, Value.int .u8 0, Value.int .u8 0, Value.int .u8 0, Value.int .u8 0, Value.int .u8 0, Value.int .u8 0, Value.int .u8 0] 79)) w.heap.size (List.replicate 40 0)) := heap_alloc2_old w _ _
  have R2 : Hid (ARow ((w.alloc (.cells #[Value.int .u8 0, Value.int .u8 0, Value.int .u8 0, Value.int .u8 0, Value.int .u8 0, Value.int .u8 0, Value.int .u8 0, Value.int .u8 0, Value.int .u8 0, Value.int .u8 0, Value.int .u8 0, Value.int .u8 0, Value.int .u8 0, Value.int .u8 0, Value.int .u8 0, Value.int .u8 0, Value.int .u8 0, Value.int .u8 0, Value.int .u8 0, Value.int .u8 0, Value.int .u8 0, Value.int .u8 0, Value.int .u8 0, Value.int .u8 0, Value.int .u8 0, Value.int .u8 0, Value.int .u8 0, Value.int .u8 0, Value.int .u8 0, Value.int .u8 0, Value.int .u8 0, Value.int .u8 0, Value.int .u8 0, Value.int .u8 0, Value.int .u8 0, Value.int .u8 0, Value.int .u8 0, Value.int .u8 0, Value.int .u8 0, Value.int .u8 0] 79)).alloc (.cells #[Value.int .u8 0, Value.int .u8 0, Value.int .u8 0, Value.int .u8 0, Value.int .u8 0, Value.int .u8 0, Value.int .u8 0, Value.int .u8 0, Value.int .u8 0, Value.int .u8 0, Value.int .u8 0, Value.int .u8 0, Value.int .u8 0, Value.int .u8 0, Value.int .u8 0, Value.int .u8 0, Value.int .u8 0, Value.int .u8 0, Value.int .u8 0, Value.int .u8 0, Value.int .u8 0, Value.int .u8 0, Value.int .u8 0, Value.int .u8 0, Value.int .u8 0, Value.int .u8 0, Value.int .u8 0, Value.int .u8 0, Value.int .u8 0, Value.int .u8 0, Value.int .u8 0, Value.int .u8 0, Value.int .u8 0, Value.int .u8 0, Value.int .u8 0, Value.int .u8 0, Value.int .u8 0, Value.int .u8 0, Value.int .u8 0, Value.int .u8 0] 79)) (w.heap.size + 1) (arrTo 0)) := heap_alloc2_new w _ _
  generalize ((w.alloc (.cells #[Value.int .u8 0, Value.int .u8 0, Value.int .u8 0, Value.int .u8 0, Value.int .u8 0, Value.int .u8 0, Value.int .u8 0, Value.int .u8 0, Value.int .u8 0, Value.int .u8 0, Value.int .u8 0, Value.int .u8 0, Value.int .u8 0, Value.int .u8 0, Value.int .u8 0, Value.int .u8 0, Value.int .u8 0, Value.int .u8 0, Value.int .u8 0, Value.int .u8 0, Value.int .u8 0, Value.int .u8 0, Value.int .u8 0, Value.int .u8 0, Value.int .u8 0, Value.int .u8 0, Value.int .u8 0, Value.int .u8 0, Value.int .u8 0, Value.int .u8 0, Value.int .u8 0, Value.int .u8 0, Value.int .u8 0, Value.int .u8 0, Value.int .u8 0, Value.int .u8 0, Value.int .u8 0, Value.int .u8 0, Value.int .u8 0, Value.int .u8 0] 79)).alloc (.cells #[Value.int .u8 0, Value.int .u8 0, Value.int .u8 0, Value.int .u8 0, Value.int .u8 0, Value.int .u8 0, Value.int .u8 0, Value.int .u8 0, Value.int .u8 0, Value.int .u8 0, Value.int .u8 0, Value.int .u8 0, Value.int .u8 0, Value.int .u8 0, Value.int .u8 0, Value.int .u8 0, Value.int .u8 0, Value.int .u8 0, Value.int .u8 0, Value.int .u8 0, Value.int .u8 0, Value.int .u8 0, Value.int .u8 0, Value.int .u8 0, Value.int .u8 0, Value.int .u8 0, Value.int .u8 0, Value.int .u8 0, Value.int .u8 0, Value.int .u8 0, Value.int .u8 0, Value.int .u8 0, Value.int .u8 0, Value.int .u8 0, Value.int .u8 0, Value.int .u8 0, Value.int .u8 0, Value.int .u8 0, Value.int .u8 0, Value.int .u8 0] 79)) = w2 at *
  go_loopw [5] (fun i wr => ∃ k : Nat, k ≤ 40 ∧ i = .int .i64 k ∧ w2.grownBy wr (some (w.heap.size + 1)) ∧ ARow wr (w.heap.size + 1) (arrTo k)) (fun i _ => 40 - (intOf i).toNat)
  case atStart => exact ⟨0, Nat.zero_le _, rfl, World.grownBy.refl _ _, R2.out⟩
  case round =>
    obtain ⟨k, hk, rfl, hgr, hrow⟩ := hrel
    have B3 := Lib.hid (below_only B2.out hgr (by omega))
    by_cases hlt : k < 40
    · obtain ⟨n, hn, hn91, hpl, hrk⟩ := sheet_rank k hlt
      have hsz : k < sheetS.size := hlt
      have HG := Lib.hid (sheet_get k hsz)
      have hr := implRank_yes n (rkS k) hn91 hrk hpl wr (HP.out.below B3.out)
      rw [← hn, ← sheet_get k hsz] at hr
      have HR := Lib.hid hr
      have hlen := arrTo_length k
      have x1 := hrow.cell (i := rkS k) (by rw [hlen]; exact hrk)
      have z1 := hrow.frozen (rkS k)
      obtain ⟨v, hv⟩ : ∃ v, (arrTo k)[rkS k]?.getD 0 = v := ⟨_, rfl⟩
      rw [hv] at x1
      have HSET : Hid (∀ u, u = sheetC k → (arrTo k).set (rkS k) u = arrTo (k + 1)) := fun u hu => by rw [hu]; rfl
      obtain ⟨r, hrr⟩ : ∃ r, rkS k = r := ⟨_, rfl⟩
      rw [hrr] at HR x1 z1 HSET hrk
      have HGR := Lib.hid hgr
      have HRW := Lib.hid hrow
      have j0 : (0 : Int) ≤ (k : Int) := Int.natCast_nonneg _
      have j1 : (k : Int) < 40 := by omega
      have j2 : (0 : Int) ≤ (r : Int) := Int.natCast_nonneg _
      have j3 : (r : Int) < 40 := by omega
      clear hgr hrow hv hrr hr hn hn91 hpl hlen
      go_wp2_with (go_at_call 69; refine HR.out.mono ?_; rintro e w' ⟨rfl, rfl⟩)
      go_roundw
      case rel =>
        refine ⟨k + 1, by omega, by go_num, only_step HGR.out (only_set _ _ _ _), ?_⟩
        rw [← HSET.out _ HG.out]
        exact HRW.out.set _ _
      case measure => simp [intOf]; omega
    · have RA : Hid (ARow wr (w.heap.size + 1) ((List.range 40).map charR)) := by
        have := hrow
        rw [show k = 40 by omega, arrTo_all] at this
        exact this
      have RB : Hid (ARow wr w.heap.size (List.replicate 40 0)) := (hgr.block w.heap.size R1.out.lt (fun e => by injection e; omega)).trans R1.out
      have j1 : ¬ (k : Int) < 40 := by omega
      have hi40 : (Tryd.prog.info? 79).map (·.size) = some rankedA.size := by rw [ranked_size]; exact info_arr
      have hone : rankedA.all (·.oneCell') = true := by simp [rankedA, Value.oneCell']
      have RA2 : Hid (wr.heap[w.heap.size + 1]? = some (.cells rankedA 79 (0, 0))) := RA.out
      have RB2 : Hid (wr.heap[w.heap.size]? = some (.cells ((List.replicate 40 (0 : Int)).map (Value.int .u8)).toArray 79 (0, 0))) := RB.out
      have hold : ((List.replicate 40 (0 : Int)).map (Value.int .u8)).toArray.size = rankedA.size := by rw [ranked_size]; simp
      have HI := Lib.hid hi40
      have HO := Lib.hid hone
      have HH := Lib.hid hold
      clear hgr hrow hk hlt HP RA RB hone hi40 hold
      go_upto_region 8 with (fail)
      go_wp2_with (first
        | (refine wpList_load_row rfl 79 (.tmp 1) rfl (w.heap.size + 1) rfl _ _ _ _ RA2.out Tryd.underlying79 rfl HI.out ?_)
        | (refine wpList_store_row rfl 79 (.tmp 0) (.tmp 19) rfl w.heap.size _ rfl rfl _ _ RB2.out HI.out HH.out HO.out ?_))
      refine bodyPost_ret (v := .agg rankedA) (results_cell_row rfl _ _ w.heap.size 79 rankedA (0, 0) _ rfl ?_ Tryd.underlying79 rfl HI.out) rfl ⟨rfl, ?_⟩
      · have := RB2.out
        simp [World.setRow, Array.getElem?_modify, this]
      · exact below_setRow B3.out (Nat.le_refl _) _

theorem cmpI_neg (x y : Int) : (cmpI x y < 0) ↔ x < y := by
  unfold cmpI
  split
  · simp [*]
  · split <;> omega

theorem minFunc_any (m : Int) (hm : 0 ≤ m ∧ m ≤ 4095) (g : Nat) (w : World) (h : ∀ k, k < 40 → w.cell? ⟨g, k, none⟩ = some (.int .u8 (charR k))) :
    Calls Tryd.prog 53 #[.slice (some ⟨g, 0, none⟩) 40 40, .func (.func 54) #[.int .i64 m] #[]] w fun e w' => e = .returned (.int .u8 (charR (nearK m))) ∧ w = w' := by
  have HC := Lib.hid h
  have HM := Lib.hid hm
  have HG := Lib.hid (fun k h => nearL_get m k h)
  obtain ⟨ds, hds⟩ : ∃ ds, nearL m = ds := ⟨_, rfl⟩
  have HK : Hid (nearK m = bestTo ds 39) := by show _ = _; rw [nearK, hds]
  rw [hds] at HG
  have x0 := h 0 (by omega)
  have h32 : charR 0 = 32 := rfl
  rw [h32] at x0
  clear h hm hds h32
  go_enter Tryd.func53, Tryd.ntmps53
  go_wp2
  clear x0
  go_loop [5, 6] (fun a i => ∃ k : Nat, 1 ≤ k ∧ k ≤ 40 ∧ i = .int .i64 k ∧ a = .int .u8 (charR (bestTo ds (k - 1)))) (fun _ i => 40 - (intOf i).toNat)
  case atStart => exact ⟨1, by omega, by omega, rfl, rfl⟩
  case round =>
    obtain ⟨k, hk1, hk, rfl, rfl⟩ := hrel
    by_cases hlt : k < 40
    · have x1 := HC.out k hlt
      have hle := best_le ds (k - 1)
      have hcmp := fun W => markCompare_any m HM.out k (bestTo ds (k - 1)) hlt (by omega) W
      have hst : Hid (bestTo ds k = if (df m (codeS (charR k)) : Int) < (df m (codeS (charR (bestTo ds (k - 1)))) : Int) then k else bestTo ds (k - 1)) := by
        show _ = _
        obtain ⟨t, rfl⟩ : ∃ t, k = t + 1 := ⟨k - 1, by omega⟩
        have hle := best_le ds t
        rw [bestTo, HG.out _ hlt, HG.out _ (by omega)]
        rfl
      have hneg := cmpI_neg (df m (codeS (charR k))) (df m (codeS (charR (bestTo ds (k - 1)))))
      obtain ⟨t, ht⟩ : ∃ t, bestTo ds (k - 1) = t := ⟨_, rfl⟩
      rw [ht] at hst hcmp hneg ⊢
      obtain ⟨r, hr⟩ : ∃ r, cmpI (df m (codeS (charR k))) (df m (codeS (charR t))) = r := ⟨_, rfl⟩
      rw [hr] at hcmp hneg
      obtain ⟨x, hx⟩ : ∃ x, charR k = x := ⟨_, rfl⟩
      obtain ⟨z, hz⟩ : ∃ z, charR t = z := ⟨_, rfl⟩
      have HX := Lib.hid hx
      have HZ := Lib.hid hz
      have HR : Hid (r = -1 ∨ r = 0 ∨ r = 1) := by
        show _ ∨ _
        rw [← hr]
        unfold cmpI
        split
        · exact Or.inl rfl
        · split
          · exact Or.inr (Or.inr rfl)
          · exact Or.inr (Or.inl rfl)
      have HS : Hid ((r < 0 → bestTo ds k = k) ∧ (¬ r < 0 → bestTo ds k = t)) := ⟨fun hh => by rw [hst.out, if_pos (hneg.1 hh)], fun hh => by rw [hst.out, if_neg (fun e => hh (hneg.2 e))]⟩
      rw [hx] at x1 hcmp
      rw [hz] at hcmp ⊢
      have H1 := Lib.hid hcmp
      have j0 : (0 : Int) ≤ (k : Int) := Int.natCast_nonneg _
      have j1 : (k : Int) < 40 := by omega
      clear hcmp hneg hst hr hx hz ht hle
      by_cases hrn : r < 0
      · have hs := Lib.hid (HS.out.1 hrn)
        clear HS
        go_wp2_with (go_at_call 54; refine (H1.out _).mono ?_; rintro e w' ⟨rfl, rfl⟩)
        go_round
        case rel => exact ⟨k + 1, by omega, by omega, by go_num, by rw [show bestTo ds (k + 1 - 1) = k from hs.out, HX.out]⟩
        case measure => simp [intOf]; omega
      · have hs := Lib.hid (HS.out.2 hrn)
        rcases HR.out with e | e | e
        · exact absurd (by omega) hrn
        all_goals
          rw [e] at H1
          clear HS HR hrn e r
          go_wp2_with (go_at_call 54; refine (H1.out _).mono ?_; rintro e w' ⟨rfl, rfl⟩)
          go_round
          case rel => exact ⟨k + 1, by omega, by omega, by go_num, by rw [show bestTo ds (k + 1 - 1) = t from hs.out, HZ.out]⟩
          case measure => simp [intOf]; omega
    · have HK2 : Hid (bestTo ds (k - 1) = nearK m) := by show _ = _; rw [HK.out, show k - 1 = 39 by omega]
      have j1 : ¬ (k : Int) < 40 := by omega
      obtain ⟨t, ht⟩ : ∃ t, bestTo ds (k - 1) = t := ⟨_, rfl⟩
      rw [ht] at HK2 ⊢
      obtain ⟨z, hz⟩ : ∃ z, charR t = z := ⟨_, rfl⟩
      have HZ := Lib.hid hz
      rw [hz]
      clear ht hz hk1 hk hlt HC
      go_wp2
      go_ret
      exact ⟨by rw [← HK2.out, HZ.out]; rfl, rfl⟩
end Go.Proofs.YthkfdfocghmmeabDoor
