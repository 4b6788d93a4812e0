/- The map of the places of a layout's items by their names: contracts of impl.placesOf and impl.placesIn. -/
import Derived.Test.YtmdgpkiicjmfhaaDoorLayMath
import Derived.Deep.QuietTactic
import Derived.BigQuiet
namespace Go.Proofs.YtmdgpkiicjmfhaaDoor
open Go.ChangeShapes Go.WideShapes Go.ChangeAt Go.RowKit Go.Maps Go.WideMaps

theorem keyLaw : Keyed Tryd.prog 9 := string_keyed Tryd.underlying9
theorem run_makePlaces (n : Nat) (w : World) : (Instr.makeMap 106 (some (.int .i64 n))).run Tryd.prog w = .ok (.map (some w.heap.size)) (w.alloc (.map #[] 0)) := by
  simp [Instr.makeMap, run_underlying Tryd.underlying106, asInt, asIntOf, Result.andThen]
theorem nameKey {s : ByteArray} (h : s.size ≤ 1048576) : keyOf Tryd.prog 9 (.string s) = some (keyOfName s) := keyOf_string_mk Tryd.underlying9 (by unfold maxLen; omega)

theorem name1_any (d : It) (w : World) : Calls Tryd.prog 75 #[d.val] w fun e w' => e = .returned (.string d.name) ∧ Below w.heap.size w w' := by
  obtain ⟨nm, kd, f0, f1⟩ := d
  show Calls Tryd.prog 75 #[.agg #[.string nm, .int .i64 kd, .int .i64 f0, .int .i64 f1]] w _
  go_enter Tryd.func75, Tryd.ntmps75
  go_wp2
  go_ret
  exact ⟨rfl, below_box w _⟩

/-- a call that gives the map of the places of some items, in a block of its own -/
def GivesPlaces (H : Type) (ds : List It) (w : World) (e : Ending) (w' : World) : Prop :=
  ∃ b, e = .returned (.map (some b)) ∧ w.heap.size ≤ b ∧ Below w.heap.size w w' ∧ w'.ownsMap Tryd.prog 9 (plainElem (H := H) Tryd.prog 2) b ds.length (placesD ds ds.length)

set_option maxHeartbeats 1000000 in
theorem placesOf_any {H : Type} (A : Option Addr) (c : Nat) (ds : List It) (B : Nat) (w : World) (h : Items w B A ds) (hB : B ≤ w.heap.size) (hn : ds.length ≤ 1048576) (hs : ∀ d ∈ ds, d.name.size ≤ 1048576) :
    Calls Tryd.prog 74 #[.slice A ds.length c, .func (.func 75) #[] #[]] w (GivesPlaces H ds w) := by
  unfold GivesPlaces
  obtain ⟨n, hN⟩ : ∃ n, ds.length = n := ⟨_, rfl⟩
  rw [hN] at hn ⊢
  have H0 := Lib.hid h
  have HN := Lib.hid hN
  have HS := Lib.hid hs
  have hmm := run_makePlaces n
  clear h hN hs
  go_enter Tryd.func74, Tryd.ntmps74
  go_wp2
  go_loopw [13] (fun x wr => ∃ k : Nat, k ≤ n ∧ x = .int .i64 k ∧ Hid (wr.ownsMap Tryd.prog 9 (plainElem (H := H) Tryd.prog 2) w.heap.size k (placesD ds k)) ∧ Hid (Below w.heap.size w wr)) (fun x _ => n - (intOf x).toNat)
  case atStart => exact ⟨0, Nat.zero_le _, rfl, World.ownsMap_made _ _ _ _, (Below.refl _ _).alloc (Nat.le_refl _) _⟩
  case round =>
    obtain ⟨k, hk, rfl, HM, HB⟩ := hrel
    by_cases hlt : k < n
    · obtain ⟨d, hd⟩ : ∃ d, ds[k]? = some d := ⟨ds[k]'(by rw [HN.out]; exact hlt), List.getElem?_eq_getElem _⟩
      obtain ⟨b1, off, rfl, hb, e0, e1, e2, e3⟩ := (H0.out.below (HB.out.mono hB)).at_ hd
      have hk0 : (0 : Int) ≤ (k : Int) := Int.natCast_nonneg _
      have hk1 : (k : Int) < (n : Int) := by omega
      have hkey := nameKey (HS.out d (List.mem_of_getElem? hd))
      have HST := Lib.hid (placesD_step (H := H) hd)
      have HD := Lib.hid (fun W => name1_any d W)
      have bx := below_box wr (.cells #[.string d.name, .int .i64 d.kind, .int .i64 d.f0, .int .i64 d.f1] 51)
      have HB1 := Lib.hid (below_step HB.out bx)
      have HM1 := Lib.hid (HM.out.alloc (.cells #[.string d.name, .int .i64 d.kind, .int .i64 d.f0, .int .i64 d.f1] 51))
      clear hd hb bx HB HM
      go_wp2_with fail
      refine (HD.out _).mono ?_
      rintro e w1 ⟨rfl, hb1⟩
      have HB2 := Lib.hid (below_step HB1.out hb1)
      have hown := World.ownsMap.kept (row := none) HM1.out ⟨hb1.os, hb1.tape, hb1.output, hb1.size, fun i hi _ => hb1.block i hi⟩ (by simp)
      clear hb1 HB1 HM1 HD
      go_wp2_with (at_mapUpdate; refine wpList_mapUpdate_own _ rfl _ _ _ 106 rfl 9 2 keyLaw Tryd.underlying106 _ w.heap.size k _ rfl hown (by unfold maxLen; omega) _ _ _ rfl rfl hkey _ [] (plainElem_int Tryd.underlying2 (WalkArith.wf_i64 (by omega))) ?_)
      intro w2 hown1 hgrow1
      have R1 := Lib.hid (HST.out.symm ▸ hown1)
      have R2 := Lib.hid (HB2.out.grown hgrow1 HB2.out.size (fun j hj => by cases hj; exact Nat.le_refl _))
      clear hown1 hgrow1 hown
      go_wp2
      go_roundw
      case rel => exact ⟨k + 1, by omega, by go_num, R1.out, R2.out⟩
      case measure => simp [intOf]; omega
    · have hk1 : ¬ (k : Int) < (n : Int) := by omega
      obtain rfl : k = n := by omega
      go_wp2
      go_ret
      exact ⟨_, rfl, Nat.le_refl _, HB.out, HM.out⟩

theorem placesIn_any {H : Type} (u : Int) (A : Option Addr) (c : Nat) (ds : List It) (B : Nat) (w : World) (h : Items w B A ds) (hB : B ≤ w.heap.size) (hn : ds.length ≤ 1048576) (hs : ∀ d ∈ ds, d.name.size ≤ 1048576) :
    Calls Tryd.prog 54 #[.agg #[.int .i64 u, .slice A ds.length c]] w (GivesPlaces H ds w) := by
  have B0 := Lib.hid (below_box w (.cells #[.int .i64 u, .slice A ds.length c] 32))
  have HP := Lib.hid (placesOf_any (H := H) A c ds B _ (h.alloc hB (.cells #[.int .i64 u, .slice A ds.length c] 32)) (Nat.le_trans hB B0.out.size) hn hs)
  unfold GivesPlaces at HP ⊢
  obtain ⟨n, hN⟩ : ∃ n, ds.length = n := ⟨_, rfl⟩
  rw [hN] at hn HP B0 ⊢
  clear h hN hs
  go_enter Tryd.func54, Tryd.ntmps54
  go_wp2_with fail
  refine HP.out.mono ?_
  rintro e w1 ⟨b, rfl, hlt, hb, hm⟩
  have HB := Lib.hid (below_step B0.out hb)
  have HM := Lib.hid hm
  have hl := Nat.le_trans B0.out.size hlt
  clear hb hm hlt
  go_wp2
  go_ret
  exact ⟨_, rfl, hl, HB.out, HM.out⟩
end Go.Proofs.YtmdgpkiicjmfhaaDoor
