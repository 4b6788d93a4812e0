/- spec.l10Copy, and impl's pair.punched: the columns that copies punch: contracts. -/
import Derived.Test.YtamookdlbmbncaaPairs
import Derived.RegionTactic
import Derived.ChangeAlike
import Derived.Laws.NewDeep
namespace Go.Proofs.Ytamookdlbmbncaa
open Go.ChangeShapes Go.WideShapes Go.ChangeAt Go.RowKit

theorem punch_one {xs zs : List Int} {P : List (Int × Int)} {t p q : Nat} {x : Int × Int} (hx : P[t]? = some x) (hp : x.1 = p) (hq : x.2 = q) : xferTo xs zs (P.drop t) = xferTo xs (zs.set q (bits .or .i64 (zs[q]?.getD 0) (xs[p]?.getD 0))) (P.drop (t + 1)) := by
  rw [drop_one hx, xferTo, hp, hq, Int.toNat_natCast, Int.toNat_natCast]
theorem punch_end {xs zs : List Int} {P : List (Int × Int)} {t : Nat} (h : P.length ≤ t) : xferTo xs zs (P.drop t) = zs := by
  rw [List.drop_of_length_le h]
  rfl

theorem drewOnly {a w : World} {g : Nat} (h : a.grownBy w (some g)) : a.grownBy w.drew (some g) := ⟨h.os, h.tape, h.output, h.size, h.block⟩

set_option maxHeartbeats 1000000 in
theorem l10Copy_any (pc oc po oo : Nat) (A : Option Addr) (c : Nat) (xs : List Int) (B g cap : Nat) (ys : List Int) (ex : List Value) (AP : Option Addr) (cP : Nat) (P : List (Int × Int)) (BP : Nat) (w : World)
    (h1 : w.cell? ⟨pc, oc, none⟩ = some (.slice A xs.length c)) (hI : Ints w B A xs) (h2 : w.cell? ⟨po, oo, none⟩ = some (.slice (some ⟨g, 0, none⟩) ys.length cap)) (hR : Row w g ys ex) (hP : Copies w BP AP P)
    (hB : B ≤ g) (hBP : BP ≤ g) (hpc : pc ≠ g) (hpo : po ≠ g) (l : Int) (hv : validTo xs.length ys.length P l = true) (hn : P.length ≤ 20) (hxl : xs.length ≤ 20) :
    Calls Try.prog 56 #[.pointer (some ⟨pc, oc, none⟩), .pointer (some ⟨po, oo, none⟩), .slice AP P.length cP] w fun e w' => e = .returned (.tuple #[]) ∧ w.grownBy w' (some g) ∧ Row w' g (xferTo xs ys P) ex := by
  obtain ⟨n, hN⟩ : ∃ n, P.length = n := ⟨_, rfl⟩
  obtain ⟨m, hM⟩ : ∃ m, ys.length = m := ⟨_, rfl⟩
  obtain ⟨z, hZ⟩ : ∃ z, xs.length = z := ⟨_, rfl⟩
  obtain ⟨Y, hY⟩ : ∃ Y, xferTo xs ys P = Y := ⟨_, rfl⟩
  rw [hM] at h2 hv
  rw [hZ] at h1 hv hxl
  rw [hN] at hn ⊢
  rw [hY]
  have H1 := Lib.hid h1
  have H2 := Lib.hid h2
  have HI := Lib.hid hI
  have HP := Lib.hid hP
  have HN := Lib.hid hN
  have HM := Lib.hid hM
  have HZ := Lib.hid hZ
  have HY := Lib.hid hY
  have HV := Lib.hid hv
  clear h1 h2 hI hP hN hM hZ hY hv
  go_enter Try.func56, Try.ntmps56
  go_wp2
  go_loopw [6] (fun i wr => ∃ t : Nat, ∃ zs : List Int, t ≤ n ∧ i = .int .i64 t ∧ Hid (zs.length = m) ∧ Hid (xferTo xs zs (P.drop t) = Y) ∧ Hid (w.grownBy wr (some g)) ∧ Hid (Row wr g zs ex)) (fun i _ => n - (intOf i).toNat)
  case atStart => exact ⟨0, ys, Nat.zero_le _, rfl, HM, HY, ⟨rfl, rfl, rfl, Nat.le_refl _, fun _ _ _ => rfl⟩, hR⟩
  case round =>
    obtain ⟨t, zs, ht, rfl, HL, HK, HG, HR⟩ := hrel
    by_cases hlt : t < n
    · obtain ⟨x, hx⟩ : ∃ x, P[t]? = some x := ⟨P[t]'(by rw [HN.out]; exact hlt), List.getElem?_eq_getElem _⟩
      obtain ⟨x1, x2, x3, x4⟩ := validTo_at HV.out hx
      obtain ⟨b, off, rfl, hb, hcell⟩ := (HP.out.only HG.out hBP) (by rw [HN.out]; omega)
      obtain ⟨c1, c2⟩ := hcell t x hx
      obtain ⟨p, hp⟩ : ∃ p : Nat, x.1 = p := ⟨x.1.toNat, by omega⟩
      obtain ⟨q, hq⟩ : ∃ q : Nat, x.2 = q := ⟨x.2.toNat, by omega⟩
      rw [hp] at c1 x2
      rw [hq] at c2 x4
      have r1 := cell_only HG.out H1.out (by show pc ≠ g; exact hpc)
      have r2 := cell_only HG.out H2.out (by show po ≠ g; exact hpo)
      obtain ⟨b2, off2, rfl, hb2, hcell2⟩ := (HI.out.only HG.out hB) (by rw [HZ.out]; omega)
      have r3 := hcell2 p (by rw [HZ.out]; omega)
      have r4 := HR.out.cell (i := q) (by rw [HL.out]; omega)
      have f4 := HR.out.frozen q
      have hk := HK.out
      rw [punch_one hx hp hq] at hk
      have HS := Lib.hid (HR.out.set (i := q) (by rw [HL.out]; omega) (bits .or .i64 (zs[q]?.getD 0) (xs[p]?.getD 0)))
      obtain ⟨u, hu⟩ : ∃ u, zs[q]?.getD 0 = u := ⟨_, rfl⟩
      obtain ⟨v, hv⟩ : ∃ v, xs[p]?.getD 0 = v := ⟨_, rfl⟩
      rw [hu] at r4 hk HS
      rw [hv] at r3 hk HS
      have HK1 := Lib.hid hk
      have HL1 : Hid ((zs.set q (bits .or .i64 u v)).length = m) := by show _ = _; rw [List.length_set]; exact HL.out
      have HG1 : Hid (w.grownBy (wr.setCell ⟨g, q, none⟩ (.int .i64 (bits .or .i64 u v))) (some g)) := only_step HG.out (only_set _ _ _ _)
      have k0 : (0 : Int) ≤ (t : Int) := Int.natCast_nonneg _
      have k1 : (t : Int) < (n : Int) := by omega
      have k2 : (0 : Int) ≤ (p : Int) := Int.natCast_nonneg _
      have k3 : (0 : Int) ≤ (q : Int) := Int.natCast_nonneg _
      have k4 : p < z := by omega
      have k5 : q < m := by omega
      clear hcell hcell2 hx hk hu hv x1 x3 hp hq hb hb2
      go_wp2
      go_region
      all_goals
        go_wp2
        go_roundw
        case rel => exact ⟨t + 1, _, by omega, by go_num, HL1, HK1, drewOnly HG1.out, HS.out.drew⟩
        case measure => simp [intOf]; omega
    · have k1 : ¬ (t : Int) < (n : Int) := by omega
      have hz := HK.out
      rw [punch_end (by rw [HN.out]; omega)] at hz
      have HR2 := HR
      rw [hz] at HR2
      clear hz HR
      go_wp2
      go_end0
      exact ⟨rfl, HG.out, HR2.out⟩
end Go.Proofs.Ytamookdlbmbncaa
