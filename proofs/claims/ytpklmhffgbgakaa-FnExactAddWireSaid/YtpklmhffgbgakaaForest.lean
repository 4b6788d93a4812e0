/- impl.forest's least and join: a map that leads from hub to lesser hub: contracts. -/
import Derived.Test.YtpklmhffgbgakaaBrdOk
import Derived.Maps.OwnSet
import Derived.Maps.OwnOps
import Derived.Deep.QuietTactic
import Derived.BigQuiet
namespace Go.Proofs.Ytpklmhffgbgakaa
open Go.ChangeShapes Go.WideShapes Go.ChangeAt Go.RowKit Go.Maps Go.WideMaps

theorem keyLawI : Keyed Try.prog 2 := int_keyed Try.underlying2
theorem hubKey {h : Int} (h0 : 0 ≤ h) (h1 : h ≤ 1000) : keyOf Try.prog 2 (.int .i64 h) = some (.int .i64 h) := keyOf_int_mk Try.underlying2 (WalkArith.wf_i64 (by omega))
theorem zeroI64 (w : World) : (zeroValue 2).run Try.prog w = .ok (.int .i64 0) w := by kernel_rfl

/-- Block b is a map that leads from each hub of a list of least hubs to a lesser one that it is joined with. -/
def Forest (w : World) (b n : Nat) (R : List Int) : Prop := ∃ D : DataW Unit, w.ownsMap Try.prog 2 (plainElem (H := Unit) Try.prog 2) b n D ∧ ForD D R
theorem Forest.lt {w : World} {b n : Nat} {R : List Int} (h : Forest w b n R) : b < w.heap.size := by
  obtain ⟨D, h1, _⟩ := h
  exact h1.lt
theorem Forest.later {w w' : World} {b n : Nat} {R : List Int} (h : Forest w b n R) (hb : Below w.heap.size w w') : Forest w' b n R := by
  obtain ⟨D, h1, h2⟩ := h
  exact ⟨D, World.ownsMap.kept (row := none) h1 ⟨hb.os, hb.tape, hb.output, hb.size, fun i hi _ => hb.block i hi⟩ (by simp), h2⟩
theorem Forest.drew {w : World} {b n : Nat} {R : List Int} (h : Forest w b n R) : Forest w.drew b n R := h
theorem Forest.only {w w' : World} {b n g : Nat} {R : List Int} (h : Forest w b n R) (hg : w.grownBy w' (some g)) (hne : b ≠ g) : Forest w' b n R := by
  obtain ⟨D, h1, h2⟩ := h
  exact ⟨D, World.ownsMap.kept h1 hg (by simpa using hne), h2⟩

/-- the least hub: by the hubs below it -/
theorem least_any (b m : Nat) (R : List Int) (hR : R.length ≤ 1000) (_ : OkR R) : ∀ (h : Nat) (w : World), Forest w b m R → h < R.length →
    Calls Try.prog 78 #[.map (some b), .int .i64 h] w fun e w' => e = .returned (.int .i64 (rt R (h : Int))) ∧ w = w' := by
  intro h
  induction h using Nat.strongRecOn with
  | _ h ih =>
    intro w hF hh
    obtain ⟨D, hown, hD⟩ := hF
    obtain ⟨f1, f2⟩ := hD h hh
    have hkey := hubKey (h := (h : Int)) (Int.natCast_nonneg _) (by omega)
    cases hhas : Maps.has D (.int .i64 (h : Int))
    · have hr : rt R (h : Int) = h := by simp [rt, f1 hhas]
      rw [hr]
      clear ih f1 f2 hD hr
      go_enter Try.func78, Try.ntmps78
      go_wp2_with (at_lookup; refine wpList_lookup_own_ok_int _ rfl _ _ 85 rfl 2 2 .i64 keyLawI Try.underlying85 Try.underlying2 (zeroI64 _) b m D rfl hown _ _ rfl hkey ?_; intro cv hcv _; rw [hhas])
      go_ret
      exact ⟨rfl, rfl⟩
    · obtain ⟨l, hl, hat, hrl⟩ := f2 hhas
      have hr : rt R (h : Int) = rt R (l : Int) := by simp [rt, hrl]
      have hrec := ih l hl w ⟨D, hown, hD⟩ (by omega)
      rw [hr]
      have HREC := Lib.hid hrec
      have HAT := Lib.hid hat
      clear ih f1 f2 hD hr hrec hrl hat
      go_enter Try.func78, Try.ntmps78
      go_wp2_with (at_lookup; refine wpList_lookup_own_ok_int _ rfl _ _ 85 rfl 2 2 .i64 keyLawI Try.underlying85 Try.underlying2 (zeroI64 _) b m D rfl hown _ _ rfl hkey ?_; intro cv hcv _; rw [hhas])
      rw [HAT.out] at hcv
      have hcv := (Lit.int.inj (DataW.lit.inj hcv)).2
      subst hcv
      go_wp2_with (go_at_call 78; refine HREC.out.mono ?_; rintro e w1 ⟨rfl, rfl⟩)
      go_ret
      exact ⟨rfl, rfl⟩

theorem only_drewN {w w' : World} {g : Nat} (h : w.grownBy w' (some g)) (q : Nat) : w.grownBy (w'.drewN q) (some g) := ⟨h.os, h.tape, h.output, h.size, h.block⟩
theorem owns_drewN {w : World} {b n : Nat} {D : DataW Unit} (h : w.ownsMap Try.prog 2 (plainElem (H := Unit) Try.prog 2) b n D) (q : Nat) : (w.drewN q).ownsMap Try.prog 2 (plainElem (H := Unit) Try.prog 2) b n D := h

set_option maxRecDepth 100000 in
/-- joining two hubs -/
theorem join_any (b m : Nat) (R : List Int) (hR : R.length ≤ 1000) (hO : OkR R) (x y : Nat) (w : World) (hF : Forest w b m R) (hx : x < R.length) (hy : y < R.length) (hm : m < 1000) :
    Calls Try.prog 101 #[.map (some b), .agg #[.int .i64 x, .int .i64 y]] w fun e w' => e = .returned (.bool (!(rt R (x : Int) == rt R (y : Int)))) ∧ w.grownBy w' (some b) ∧ Forest w' b (m + 1) (stepR R ((x : Int), (y : Int))) := by
  have hbx := below_box w (.cells #[.int .i64 x, .int .i64 y] 38)
  have hF1 := hF.later hbx
  have p0 : (w.alloc (.cells #[.int .i64 x, .int .i64 y] 38)).cell? ⟨w.heap.size, 0, none⟩ = some (.int .i64 x) := by simp
  have p1 : (w.alloc (.cells #[.int .i64 x, .int .i64 y] 38)).cell? ⟨w.heap.size, 1, none⟩ = some (.int .i64 y) := by simp
  have hg1 := only_box w (.cells #[.int .i64 x, .int .i64 y] 38) b
  obtain ⟨W1, hW1⟩ : ∃ W1, w.alloc (.cells #[.int .i64 x, .int .i64 y] 38) = W1 := ⟨_, rfl⟩
  rw [hW1] at hF1 p0 p1 hg1
  have l1 : ∀ q, Calls Try.prog 78 #[.map (some b), .int .i64 x] (W1.drewN q) fun e w' => e = .returned (.int .i64 (rt R (x : Int))) ∧ w' = W1.drewN q := fun q => (least_any b m R hR hO x (W1.drewN q) hF1 hx).mono fun _ _ hh => ⟨hh.1, hh.2.symm⟩
  have l2 : ∀ q, Calls Try.prog 78 #[.map (some b), .int .i64 y] (W1.drewN q) fun e w' => e = .returned (.int .i64 (rt R (y : Int))) ∧ w' = W1.drewN q := fun q => (least_any b m R hR hO y (W1.drewN q) hF1 hy).mono fun _ _ hh => ⟨hh.1, hh.2.symm⟩
  obtain ⟨a, ea, ha1, hxa, _⟩ := hO.root hx
  obtain ⟨c, ec, hc1, hyc, _⟩ := hO.root hy
  have hst : stepR R ((x : Int), (y : Int)) = joinL R a c := by rw [stepR, ea, ec]
  rw [ea] at l1
  rw [ec] at l2
  rw [hst, ea, ec]
  have HG1 := Lib.hid hg1
  have HL1 := Lib.hid l1
  have HL2 := Lib.hid l2
  clear l1 l2 hst ea ec hbx hg1
  by_cases hac : a = c
  · subst hac
    have HF := Lib.hid hF1
    have e1 : (!((a : Int) == (a : Int))) = false := by simp
    rw [e1, joinL_same]
    clear hF hF1 hO e1 hxa hyc
    go_enter Try.func101, Try.ntmps101
    go_wp2
    go_quiet ((go_at_call 78; first | (with_reducible exact Calls.quiet_of_same (HL1.out _)) | (with_reducible exact Calls.quiet_of_same (HL2.out _))))
    go_wp2
    go_ret
    obtain ⟨D, h1, h2⟩ := HF.out
    exact ⟨rfl, only_drewN HG1.out _, ⟨D, owns_drewN (h1.mono (by omega)) _, h2⟩⟩
  · have hca : ((a : Int) == (c : Int)) = false := by simp; omega
    have e1 : (!((a : Int) == (c : Int))) = true := by rw [hca]; rfl
    rw [e1]
    obtain ⟨D, hown, hD⟩ := hF1
    have hj := ForD.join hD (hown.isMap) hO hxa hyc hac
    have HD := Lib.hid hj
    clear hF hO hD hj e1 hxa hyc
    rcases Nat.lt_or_ge a c with hlt | hge
    · have hkey := hubKey (h := (c : Int)) (by omega) (by omega)
      have e2 : max (a : Int) c = c := by omega
      have e3 : min (a : Int) c = a := by omega
      rw [e2, e3] at HD
      have hwa : (Lit.int .i64 (a : Int)).wf = true := WalkArith.wf_i64 (by omega)
      obtain ⟨u, hu⟩ : ∃ u : Int, (a : Int) = u := ⟨_, rfl⟩
      obtain ⟨v, hv⟩ : ∃ v : Int, (c : Int) = v := ⟨_, rfl⟩
      have i1 : u < v := by omega
      have i2 : ¬ v < u := by omega
      have HJ : Hid (joinL R a c = joinL R u v) := by show _ = _; rw [hu, hv]
      rw [HJ.out] at HD
      rw [HJ.out]
      simp only [hu] at HL1 HD hwa hca hkey
      simp only [hv] at HL2 HD hwa hkey hca
      clear e2 e3 hac hu hv HJ ha1 hc1
      go_enter Try.func101, Try.ntmps101
      go_wp2
      go_quiet ((go_at_call 78; first | (with_reducible exact Calls.quiet_of_same (HL1.out _)) | (with_reducible exact Calls.quiet_of_same (HL2.out _))))
      go_wp2_with (at_mapUpdate; refine wpList_mapUpdate_own _ rfl _ _ _ 85 rfl 2 2 keyLawI Try.underlying85 _ b m _ rfl (owns_drewN hown _) (by unfold maxLen; omega) _ _ _ rfl rfl hkey _ [] (plainElem_int Try.underlying2 hwa) ?_; intro w2 hown1 hgrow1; have HO2 := Lib.hid hown1; have HG2 := Lib.hid hgrow1; clear hown1 hgrow1)
      go_ret
      exact ⟨rfl, only_step (only_drewN HG1.out _) HG2.out, ⟨_, HO2.out, HD.out⟩⟩
    · have hkey := hubKey (h := (a : Int)) (by omega) (by omega)
      have e2 : max (a : Int) c = a := by omega
      have e3 : min (a : Int) c = c := by omega
      rw [e2, e3] at HD
      have hwa : (Lit.int .i64 (c : Int)).wf = true := WalkArith.wf_i64 (by omega)
      obtain ⟨u, hu⟩ : ∃ u : Int, (a : Int) = u := ⟨_, rfl⟩
      obtain ⟨v, hv⟩ : ∃ v : Int, (c : Int) = v := ⟨_, rfl⟩
      have i1 : v < u := by omega
      have i2 : ¬ u < v := by omega
      have HJ : Hid (joinL R a c = joinL R u v) := by show _ = _; rw [hu, hv]
      rw [HJ.out] at HD
      rw [HJ.out]
      simp only [hu] at HL1 HD hwa hca hkey
      simp only [hv] at HL2 HD hwa hkey hca
      clear e2 e3 hac hu hv HJ ha1 hc1
      go_enter Try.func101, Try.ntmps101
      go_wp2
      go_quiet ((go_at_call 78; first | (with_reducible exact Calls.quiet_of_same (HL1.out _)) | (with_reducible exact Calls.quiet_of_same (HL2.out _))))
      go_wp2_with (at_mapUpdate; refine wpList_mapUpdate_own _ rfl _ _ _ 85 rfl 2 2 keyLawI Try.underlying85 _ b m _ rfl (owns_drewN hown _) (by unfold maxLen; omega) _ _ _ rfl rfl hkey _ [] (plainElem_int Try.underlying2 hwa) ?_; intro w2 hown1 hgrow1; have HO2 := Lib.hid hown1; have HG2 := Lib.hid hgrow1; clear hown1 hgrow1)
      go_ret
      exact ⟨rfl, only_step (only_drewN HG1.out _) HG2.out, ⟨_, HO2.out, HD.out⟩⟩
end Go.Proofs.Ytpklmhffgbgakaa
