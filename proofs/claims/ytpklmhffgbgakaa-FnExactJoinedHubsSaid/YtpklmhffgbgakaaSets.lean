/- impl.wiring's sets: the sets of hubs that are joined, by their least hubs: a contract. -/
import Derived.Test.YtpklmhffgbgakaaSources
import Derived.Maps.OwnRows
import Derived.Maps.GroupsBeside
namespace Go.Proofs.Ytpklmhffgbgakaa
open Go.ChangeShapes Go.WideShapes Go.ChangeAt Go.RowKit Go.Maps Go.WideMaps

/-- the hubs below k whose least hub is r -/
def grp (R : List Int) (r : Int) (k : Nat) : List Int := ((List.range k).filter fun i : Nat => decide (rt R (i : Int) = r)).map fun i : Nat => (i : Int)
theorem grp_with (R : List Int) (hub : Int) (k : Nat) : withR R hub k = grp R (rt R hub) k := rfl
theorem grp_succ (R : List Int) (r : Int) (k : Nat) : grp R r (k + 1) = if rt R (k : Int) = r then grp R r k ++ [(k : Int)] else grp R r k := by
  by_cases h : rt R (k : Int) = r
  · simp [grp, List.range_succ, List.filter_append, h]
  · simp [grp, List.range_succ, List.filter_append, h]

theorem lits_inj : ∀ {xs ys : List Int}, (lits .i64 xs : List (DataW Unit)) = lits .i64 ys → xs = ys
  | [], [], _ => rfl
  | [], y :: ys, h => by simp [lits] at h
  | x :: xs, [], h => by simp [lits] at h
  | x :: xs, y :: ys, h => by
    have h' : (DataW.lit (.int .i64 x) : DataW Unit) :: lits .i64 xs = DataW.lit (.int .i64 y) :: lits .i64 ys := h
    injection h' with h1 h2
    have h3 := (Lit.int.inj (DataW.lit.inj h1)).2
    rw [h3, lits_inj h2]

/-- what the map of sets says of the hubs below k -/
def SetsD (D : DataW Unit) (R : List Int) (k : Nat) : Prop := ∀ r : Int, (grp R r k = [] ∧ D.atKey (.int .i64 r) .nil = .nil) ∨ (grp R r k ≠ [] ∧ D.atKey (.int .i64 r) .nil = .slice (lits .i64 (grp R r k)) [])
theorem SetsD.start (R : List Int) : SetsD (.map []) R 0 := fun r => Or.inl ⟨rfl, by simp [DataW.atKey]⟩
theorem SetsD.here {D : DataW Unit} {R : List Int} {k base : Nat} {r : Int} {w : World} {v : Value} {zs : List Int} (h : SetsD D R k) (ho : w.ownsInts base 2 .i64 v zs) (hat : D.atKey (.int .i64 r) .nil = rowDatum .i64 v zs) : zs = grp R r k := by
  rcases ho.datum (H := Unit) with ⟨h1, h2⟩ | h1
  · rw [h1] at hat
    rcases h r with ⟨g, _⟩ | ⟨_, g⟩
    · rw [h2, g]
    · rw [g] at hat
      cases hat
  · rw [h1] at hat
    rcases h r with ⟨_, g⟩ | ⟨_, g⟩
    · rw [g] at hat
      cases hat
    · rw [g] at hat
      injection hat with hat
      exact (lits_inj hat).symm
theorem SetsD.step {D : DataW Unit} {R : List Int} {k base : Nat} {r : Int} {w : World} {v : Value} (h : SetsD D R k) (hD : IsMap D) (hr : rt R (k : Int) = r) (ho : w.ownsInts base 2 .i64 v (grp R r k ++ [(k : Int)])) : SetsD (D.put (.int .i64 r) (rowDatum .i64 v (grp R r k ++ [(k : Int)]))) R (k + 1) := fun s => by
  have hkl : WideAt.IsKeyLit (.int .i64 r) := by first | exact trivial | exact rfl | simp [WideAt.IsKeyLit]
  rw [grp_succ]
  by_cases e : r = s
  · subst e
    rw [if_pos hr, atKey_put_same hD hkl]
    refine Or.inr ⟨by simp, ?_⟩
    exact ho.datum_pos (by simp)
  · have hk : (Lit.int .i64 s) ≠ .int .i64 r := fun e' => e (by injection e' with _ e''; exact e''.symm)
    rw [if_neg (by rw [hr]; exact e), atKey_put_other hk]
    exact h s

/-- A map of sets, of new memory. -/
def GivesSets (R : List Int) (H : Nat) (w : World) (e : Ending) (w' : World) : Prop :=
  ∃ sb N base, ∃ D : DataW Unit, e = .returned (.map (some sb)) ∧ Below w.heap.size w w' ∧ w.heap.size ≤ base ∧ N ≤ 1000 ∧ w'.ownsGroups Try.prog 2 base 2 .i64 sb N D ∧ SetsD D R H

theorem zeroSl (w : World) : (zeroValue 44).run Try.prog w = .ok (.slice none 0 0) w := by kernel_rfl
theorem grown_after {w w' : World} {o : Obj} {row : Option Nat} (h : (w.alloc o).grownBy w' row) : w.grownBy w' row :=
  ⟨h.os, h.tape, h.output, by have := h.size; simp at this; omega, fun i hi hne => (h.block i (by simp; omega) hne).trans (Below.heap_alloc w o i hi)⟩

set_option maxRecDepth 100000 in
set_option maxHeartbeats 4000000 in
theorem sets_any (E N J : Nat) (sl sp : Value) (b m : Nat) (R : List Int) (H : Nat) (w : World) (hF : Forest w b m R) (hO : OkR R) (hR : R.length = H) (hH : H ≤ 100) (hhub : hubV E N J = H) :
    Calls Try.prog 77 #[.agg #[.int .i64 E, .int .i64 N, .int .i64 J, sl, .map (some b), sp]] w (GivesSets R H w) := by
  obtain ⟨i0, hi0, hz0, hz1, hz2⟩ := info_parts info_int64
  have hmm : ∀ W : World, (Instr.makeMap 89 none).run Try.prog W = .ok (.map (some W.heap.size)) (W.alloc (.map #[] 0)) := fun W => by
    simp [Instr.makeMap, Result.andThen]
  have hkeyN := fun (r : Nat) (hr : r < H) => hubKey (h := (r : Int)) (Int.natCast_nonneg _) (by omega)
  have hw1 : Wbox (w.alloc (.cells #[.int .i64 E, .int .i64 N, .int .i64 J, sl, .map (some b), sp] 87)) w.heap.size E N J sl (.map (some b)) sp := heap_alloc_new w _
  have hbx := (below_box w (.cells #[.int .i64 E, .int .i64 N, .int .i64 J, sl, .map (some b), sp] 87)).alloc (by simp) (.map #[] 0)
  have hw2 := hw1.later (below_box _ (.map #[] 0))
  have hgr := World.ownsGroups_made (H := Unit) (w.alloc (.cells #[.int .i64 E, .int .i64 N, .int .i64 J, sl, .map (some b), sp] 87)) Try.prog 2 2 .i64
  rw [World.size_alloc] at hgr
  have hsz : ((w.alloc (.cells #[.int .i64 E, .int .i64 N, .int .i64 J, sl, .map (some b), sp] 87)).alloc (.map #[] 0)).heap.size = w.heap.size + 1 + 1 := by simp
  obtain ⟨W0, hW0⟩ : ∃ W0, (w.alloc (.cells #[.int .i64 E, .int .i64 N, .int .i64 J, sl, .map (some b), sp] 87)).alloc (.map #[] 0) = W0 := ⟨_, rfl⟩
  rw [hW0] at hbx hw2 hgr hsz
  have hh := fun W => hubs_any E N J sl W
  rw [hhub] at hh
  have HF := Lib.hid (hF.later hbx)
  have hFlt := hF.lt
  have HB0 := Lib.hid hbx
  have HW2 := Lib.hid hw2
  have HGR := Lib.hid hgr
  have HSZ := Lib.hid hsz
  have HH := Lib.hid hh
  have HO := Lib.hid hO
  have HR := Lib.hid hR
  obtain ⟨p0, p1, p2, p3, p4, p5⟩ := hw2.cells
  clear hF hbx hw1 hw2 hgr hsz hh hO hR hhub
  go_enter Try.func77, Try.ntmps77
  go_wp2_with fail
  with_reducible refine (HH.out _).mono ?_
  rintro r w1 ⟨rfl, hb1⟩
  have HBs := Lib.hid hb1
  have HW3 := Lib.hid (HW2.out.later hb1)
  have HF3 := Lib.hid (HF.out.later hb1)
  have HG3 : Hid (w1.ownsGroups (H := Unit) Try.prog 2 (w.heap.size + 1 + 1) 2 .i64 (w.heap.size + 1) 0 (.map [])) :=
    HGR.out.kept (row := none) ⟨hb1.os, hb1.tape, hb1.output, hb1.size, fun i hi _ => hb1.block i hi⟩ (by simp) (HGR.out.rowsAbove (fun j hj => by cases hj))
  have HSZ1 : Hid (w.heap.size + 1 + 1 ≤ w1.heap.size) := by show _ ≤ _; have := hb1.size; have := HSZ.out; omega
  have HB1 := Lib.hid (below_step HB0.out hb1)
  clear hb1 p0 p1 p2 p3 p4 p5 hmm HW2 HGR HSZ HF HBs HB0
  go_wp2
  go_loopw [10] (fun i wr => ∃ k : Nat, k ≤ H ∧ i = .int .i64 k ∧ Hid (Below (w.heap.size + 1) w1 wr) ∧ Hid (∃ D : DataW Unit, wr.ownsGroups Try.prog 2 (w.heap.size + 1 + 1) 2 .i64 (w.heap.size + 1) k D ∧ SetsD D R k)) (fun i _ => H - (intOf i).toNat)
  case atStart => exact ⟨0, Nat.zero_le _, rfl, Below.refl _ _, ⟨_, HG3.out, SetsD.start R⟩⟩
  case round =>
    obtain ⟨k, hk, rfl, HB, HG⟩ := hrel
    have k0 : (0 : Int) ≤ (k : Int) := Int.natCast_nonneg _
    have HWX := Lib.hid (HW3.out.block (w' := wr) (HB.out.block w.heap.size (Nat.lt_succ_self _)))
    obtain ⟨x0, x1, x2, x3, x4, x5⟩ := HWX.out.cells
    by_cases hlt : k < H
    · obtain ⟨D, hown, hS⟩ := HG.out
      have hFb := HF3.out.block (w' := wr) (HB.out.block b (Nat.lt_succ_of_lt hFlt))
      have hle := least_any b m R (by have := HR.out; omega) HO.out k wr hFb (by rw [HR.out]; exact hlt)
      obtain ⟨r, hr, hrk, _, _⟩ := HO.out.root (h := k) (by rw [HR.out]; exact hlt)
      rw [hr] at hle
      have hkey := hkeyN r (by omega)
      have hDm : IsMap D := by
        obtain ⟨es, clock, _, _, _, q4, _⟩ := hown
        exact ⟨_, q4⟩
      have HLE := Lib.hid hle
      have HS := Lib.hid hS
      have HRR := Lib.hid hr
      have HDM := Lib.hid hDm
      have HOWN := Lib.hid hown
      have k1 : (k : Int) < (H : Int) := by omega
      have kb : (Lit.int .i64 (k : Int)).wf = true := WalkArith.wf_i64 (by omega)
      have hsw : w.heap.size + 1 + 1 ≤ wr.heap.size := Nat.le_trans HSZ1.out HB.out.size
      clear hle hS hr hDm hown hFb HG
      go_wp2_with (first
        | (go_at_call 78; with_reducible refine HLE.out.mono ?_; rintro e w2 ⟨rfl, rfl⟩)
        | (at_lookup; refine wpList_lookup_groups _ rfl _ _ 89 rfl 2 44 2 .i64 keyLawI Try.underlying89 (zeroSl _) (w.heap.size + 1 + 1) (w.heap.size + 1) k D rfl HOWN.out (by unfold maxLen; omega) _ _ rfl hkey ?_; intro v zs hat hoi hzl hback; have hzs := HS.out.here hoi hat; have HOI := Lib.hid hoi; have HBK := Lib.hid hback; have HZS := Lib.hid hzs; clear hat hoi hback hzs)
        | (at_builtin; refine wpList_append_own_at _ rfl _ _ 44 rfl (w.heap.size + 1 + 1) 2 i0 (.int .i64 0) 1 8 Try.underlying44 hi0 hz0 hz1 hz2 rfl (by decide) _ _ _ rfl (HOI.out.1.alloc _) ⟨wr.heap.size, 0, none⟩ 1 1 [.int .i64 k] rfl rfl (one_newsB wr k) (one_onesB k) ?c3 ?c4 ?c5 ?_; rotate_left 3; intro v' w9 hown9 hgrow9 _ hloc9; have HO9 := Lib.hid (HOI.out.appended hown9 kb); have HGW := Lib.hid (grown_after hgrow9); have HLC : Hid (v'.ownBlock = v.ownBlock ∨ ∃ g, v'.ownBlock = some g ∧ wr.heap.size ≤ g) := hloc9.elim Or.inl (fun e => Or.inr ⟨_, e, by simp⟩); clear hown9 hgrow9 hloc9)
        | (at_mapUpdate; refine wpList_mapUpdate_back _ rfl _ _ _ 89 rfl HBK.out rfl rfl rfl HGW.out HO9.out (by simp; omega) HLC.out ?_; intro w2 hown2 hgrow2; have HO2 := Lib.hid hown2; have HB2 := Lib.hid (RowKit.Below.groups HB.out HOI.out HGW.out hgrow2 (by omega) (by omega) (Nat.le_refl _)); clear hown2 hgrow2))
      case c3 => unfold maxLen; omega
      case c4 => omega
      case c5 => simp; omega
      go_roundw
      case rel =>
        refine ⟨k + 1, by omega, by go_num, HB2, ⟨_, HO2.out, ?_⟩⟩
        have ho9 := HO9.out
        rw [HZS.out] at ho9 ⊢
        exact HS.out.step HDM.out HRR.out ho9
      case measure => simp [intOf]; omega
    · obtain rfl : k = H := by omega
      have k1 : ¬ (k : Int) < (k : Int) := by omega
      have HE : Hid (Below w.heap.size w wr) := ⟨HB.out.os.trans HB1.out.os, HB.out.tape.trans HB1.out.tape, HB.out.output.trans HB1.out.output, Nat.le_trans HB1.out.size HB.out.size, fun i hi => (HB.out.block i (by omega)).trans (HB1.out.block i hi)⟩
      go_wp2
      go_ret
      obtain ⟨D, hown, hS⟩ := HG.out
      exact ⟨_, k, _, D, rfl, HE.out, by omega, by omega, hown, hS⟩
end Go.Proofs.Ytpklmhffgbgakaa
