/- Whether a field has a column in common with one of some items: contracts of impl.isTaken and of what it calls. -/
import Derived.Test.YtmdgpkiicjmfhaaDoorLayMath
import Derived.Deep.QuietTactic
import Derived.BigQuiet
namespace Go.Proofs.YtmdgpkiicjmfhaaDoor
open Go.ChangeShapes Go.WideShapes Go.ChangeAt Go.RowKit

theorem taken1_any (d : It) (pb : Nat) (a b : Int) (w : World) (c0 : w.cell? ⟨pb, 0, none⟩ = some (.int .i64 a)) (c1 : w.cell? ⟨pb, 1, none⟩ = some (.int .i64 b)) :
    Calls Tryd.prog 73 #[d.val, .pointer (some ⟨pb, 0, none⟩)] w fun e w' => e = .returned (.bool (meetB d.f0 d.f1 a b)) ∧ Below w.heap.size w w' := by
  obtain ⟨nm, kd, f0, f1⟩ := d
  show Calls Tryd.prog 73 #[.agg #[.string nm, .int .i64 kd, .int .i64 f0, .int .i64 f1], .pointer (some ⟨pb, 0, none⟩)] w _
  have B0 := Lib.hid (below_box w (.cells #[.string nm, .int .i64 kd, .int .i64 f0, .int .i64 f1] 51))
  have d0 := cell_kept c0 B0.out
  have d1 := cell_kept c1 B0.out
  have x2 : (w.alloc (.cells #[.string nm, .int .i64 kd, .int .i64 f0, .int .i64 f1] 51)).cell? ⟨w.heap.size, 2, none⟩ = some (.int .i64 f0) := by simp [go_sem]
  have x3 : (w.alloc (.cells #[.string nm, .int .i64 kd, .int .i64 f0, .int .i64 f1] 51)).cell? ⟨w.heap.size, 3, none⟩ = some (.int .i64 f1) := by simp [go_sem]
  by_cases h1 : a < f1
  · by_cases h2 : f0 < b
    · have e : meetB f0 f1 a b = true := by simp [meetB, h1, h2]
      rw [e]
      clear e
      go_enter Tryd.func73, Tryd.ntmps73
      go_wp2
      go_ret
      exact ⟨rfl, B0.out⟩
    · have e : meetB f0 f1 a b = false := by simp [meetB, h2]
      rw [e]
      clear e
      go_enter Tryd.func73, Tryd.ntmps73
      go_wp2
      go_ret
      exact ⟨rfl, B0.out⟩
  · have e : meetB f0 f1 a b = false := by simp [meetB, h1]
    rw [e]
    clear e
    go_enter Tryd.func73, Tryd.ntmps73
    go_wp2
    go_ret
    exact ⟨rfl, B0.out⟩

theorem indexTaken_any (A : Option Addr) (c : Nat) (ds : List It) (B pb : Nat) (a b : Int) (w : World) (h : Items w B A ds) (hB : B ≤ w.heap.size) (hn : ds.length ≤ 1048576) (c0 : w.cell? ⟨pb, 0, none⟩ = some (.int .i64 a)) (c1 : w.cell? ⟨pb, 1, none⟩ = some (.int .i64 b)) :
    Calls Tryd.prog 86 #[.slice A ds.length c, .func (.func 73) #[] #[.pointer (some ⟨pb, 0, none⟩)]] w fun e w' =>
      (∃ r : Int, e = .returned (.int .i64 r) ∧ decide (0 ≤ r) = meetTo ds a b ds.length) ∧ Below w.heap.size w w' := by
  obtain ⟨n, hN⟩ : ∃ n, ds.length = n := ⟨_, rfl⟩
  rw [hN] at hn ⊢
  have H := Lib.hid h
  have HN := Lib.hid hN
  have hT := fun (d : It) W q0 q1 => taken1_any d pb a b W q0 q1
  have HT := Lib.hid hT
  clear h hN hT
  go_enter Tryd.func86, Tryd.ntmps86
  go_wp2
  go_loopw [8] (fun x wr => ∃ k : Nat, k ≤ n ∧ x = .int .i64 k ∧ Hid (meetTo ds a b k = false) ∧ Hid (Below w.heap.size w wr)) (fun x _ => n - (intOf x).toNat)
  case atStart => exact ⟨0, Nat.zero_le _, rfl, rfl, Below.refl _ _⟩
  case round =>
    obtain ⟨k, hk, rfl, HM, HB⟩ := hrel
    have k0 := cell_kept c0 HB.out
    have k1 := cell_kept c1 HB.out
    by_cases hlt : k < n
    · obtain ⟨d, hd⟩ : ∃ d, ds[k]? = some d := ⟨ds[k]'(by rw [HN.out]; exact hlt), List.getElem?_eq_getElem _⟩
      obtain ⟨b1, off, rfl, hb, e0, e1, e2, e3⟩ := (H.out.below (HB.out.mono hB)).at_ hd
      have hk0 : (0 : Int) ≤ (k : Int) := Int.natCast_nonneg _
      have hk1 : (k : Int) < (n : Int) := by omega
      have hst := meetTo_step (a := a) (b := b) hd
      rw [HM.out, Bool.false_or] at hst
      have HST := Lib.hid hst
      clear hst hd
      cases hm : meetB d.f0 d.f1 a b
      · have hT1 := HT.out d wr k0 k1
        rw [hm] at hT1
        have HT1 := Lib.hid hT1
        have HM1 := Lib.hid (HST.out.trans hm)
        clear hT1 HST hm HM
        go_wp2_with (go_at_call 73; refine HT1.out.mono ?_; rintro e w1 ⟨rfl, hb1⟩; have HB1 := Lib.hid (below_step HB.out hb1); clear hb1)
        go_roundw
        case rel => exact ⟨k + 1, by omega, by go_num, HM1.out, HB1.out⟩
        case measure => simp [intOf]; omega
      · have hT1 := HT.out d wr k0 k1
        rw [hm] at hT1
        have HT1 := Lib.hid hT1
        have HM1 := Lib.hid (meetTo_true (HST.out.trans hm) (Nat.succ_le_of_lt hlt))
        clear hT1 HST hm HM
        go_wp2_with (go_at_call 73; refine HT1.out.mono ?_; rintro e w1 ⟨rfl, hb1⟩; have HB1 := Lib.hid (below_step HB.out hb1); clear hb1)
        go_ret
        exact ⟨⟨_, rfl, by rw [HM1.out]; simp⟩, HB1.out⟩
    · have hk1 : ¬ (k : Int) < (n : Int) := by omega
      obtain rfl : k = n := by omega
      go_wp2
      go_ret
      exact ⟨⟨_, rfl, by rw [HM.out]; simp⟩, HB.out⟩

theorem containsTaken_any (A : Option Addr) (c : Nat) (ds : List It) (B pb : Nat) (a b : Int) (w : World) (h : Items w B A ds) (hB : B ≤ w.heap.size) (hn : ds.length ≤ 1048576) (c0 : w.cell? ⟨pb, 0, none⟩ = some (.int .i64 a)) (c1 : w.cell? ⟨pb, 1, none⟩ = some (.int .i64 b)) :
    Calls Tryd.prog 72 #[.slice A ds.length c, .func (.func 73) #[] #[.pointer (some ⟨pb, 0, none⟩)]] w fun e w' =>
      e = .returned (.bool (meetTo ds a b ds.length)) ∧ Below w.heap.size w w' := by
  have HI := Lib.hid (indexTaken_any A c ds B pb a b w h hB hn c0 c1)
  obtain ⟨n, hN⟩ : ∃ n, ds.length = n := ⟨_, rfl⟩
  rw [hN] at hn HI ⊢
  clear h hN
  go_enter Tryd.func72, Tryd.ntmps72
  go_wp2_with fail
  refine HI.out.mono ?_
  rintro e w1 ⟨⟨r, rfl, hr⟩, hb⟩
  have HR := Lib.hid hr
  have HB := Lib.hid hb
  clear hr hb
  go_wp2
  go_ret
  exact ⟨ret_bool (by first | exact HR.out | (rw [← HR.out]; simp)), HB.out⟩

theorem isTaken_any (A : Option Addr) (c : Nat) (ds : List It) (B : Nat) (a b : Int) (w : World) (h : Items w B A ds) (hB : B ≤ w.heap.size) (hn : ds.length ≤ 1048576) :
    Calls Tryd.prog 53 #[.slice A ds.length c, .agg #[.int .i64 a, .int .i64 b]] w fun e w' =>
      e = .returned (.bool (meetTo ds a b ds.length)) ∧ Below w.heap.size w w' := by
  have B0 := Lib.hid (below_box w (.cells #[.int .i64 a, .int .i64 b] 49))
  have x0 : (w.alloc (.cells #[.int .i64 a, .int .i64 b] 49)).cell? ⟨w.heap.size, 0, none⟩ = some (.int .i64 a) := by simp [go_sem]
  have x1 : (w.alloc (.cells #[.int .i64 a, .int .i64 b] 49)).cell? ⟨w.heap.size, 1, none⟩ = some (.int .i64 b) := by simp [go_sem]
  have HC := Lib.hid (containsTaken_any A c ds B w.heap.size a b _ (h.alloc hB _) (Nat.le_trans hB B0.out.size) hn x0 x1)
  obtain ⟨n, hN⟩ : ∃ n, ds.length = n := ⟨_, rfl⟩
  rw [hN] at hn HC ⊢
  clear h hN
  go_enter Tryd.func53, Tryd.ntmps53
  go_wp2_with fail
  refine HC.out.mono ?_
  rintro e w1 ⟨rfl, hb⟩
  have HB := Lib.hid (below_step B0.out hb)
  clear hb
  go_wp2
  go_ret
  exact ⟨rfl, HB.out⟩
end Go.Proofs.YtmdgpkiicjmfhaaDoor
