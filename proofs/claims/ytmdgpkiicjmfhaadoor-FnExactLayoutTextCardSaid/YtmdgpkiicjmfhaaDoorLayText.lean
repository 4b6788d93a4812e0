/- spec.LayoutText gives the text of a layout: contract. -/
import Derived.Test.YtmdgpkiicjmfhaaDoorTotalMath
import Derived.Test.YtmdgpkiicjmfhaaDoorTailRow
import Derived.Test.YtmdgpkiicjmfhaaDoorDec
import Derived.Deep.RegionHeld3
import Derived.Lib.ItoaLen
namespace Go.Proofs.YtmdgpkiicjmfhaaDoor
open Go.ChangeShapes Go.WideShapes Go.ChangeAt Go.RowKit

def decT (a : Int) : ByteArray := ⟨(Lib.itoa a).toArray⟩
def kindT (k : Int) : ByteArray := if k = 2 then ⟨#[110, 117, 109, 98, 101, 114]⟩ else ⟨#[116, 101, 120, 116]⟩
/-- the line of an item -/
def lineT (d : It) : ByteArray := d.name ++ ⟨#[32]⟩ ++ kindT d.kind ++ ⟨#[32]⟩ ++ decT d.f0 ++ ⟨#[45]⟩ ++ decT d.f1 ++ ⟨#[10]⟩
def headT (u : Int) : ByteArray := ⟨#[119, 105, 100, 116, 104, 32]⟩ ++ decT u ++ ⟨#[10]⟩
/-- the text of the width and of the first k items -/
def layTo (u : Int) (ds : List It) : Nat → ByteArray
  | 0 => headT u
  | k + 1 => match ds[k]? with
    | some d => layTo u ds k ++ lineT d
    | none => layTo u ds k
def layTx (u : Int) (ds : List It) : ByteArray := if layoutB u ds = true then layTo u ds ds.length else ⟨#[]⟩
theorem layTo_succ {u : Int} {ds : List It} {k : Nat} {d : It} (h : ds[k]? = some d) : layTo u ds (k + 1) = layTo u ds k ++ lineT d := by
  rw [layTo, h]
theorem decT_size {a : Int} (h0 : -9223372036854775808 ≤ a) (h1 : a ≤ 9223372036854775807) : (decT a).size ≤ 21 := by
  show (Lib.itoa a).toArray.size ≤ 21
  rw [List.size_toArray]
  exact Lib.itoa_length_le a (by omega) (by omega)
theorem kindT_size (k : Int) : (kindT k).size ≤ 6 := by
  unfold kindT
  split <;> decide
theorem layTo_size {u : Int} {ds : List It} (hu : -9223372036854775808 ≤ u ∧ u ≤ 9223372036854775807) (hd : ∀ d ∈ ds, d.name.size ≤ 1048576 ∧ (-9223372036854775808 ≤ d.f0 ∧ d.f0 ≤ 9223372036854775807) ∧ (-9223372036854775808 ≤ d.f1 ∧ d.f1 ≤ 9223372036854775807)) : ∀ k, (layTo u ds k).size ≤ 64 + 1048640 * k
  | 0 => by
    have := decT_size hu.1 hu.2
    simp only [layTo, headT, ByteArray.size_append]
    have e1 : (⟨#[119, 105, 100, 116, 104, 32]⟩ : ByteArray).size = 6 := rfl
    have e2 : (⟨#[10]⟩ : ByteArray).size = 1 := rfl
    omega
  | k + 1 => by
    have ih := layTo_size hu hd k
    cases h : ds[k]? with
    | none => rw [layTo, h]; simp only; omega
    | some d =>
      obtain ⟨h1, ⟨h2, h3⟩, h4, h5⟩ := hd d (List.mem_of_getElem? h)
      have a1 := decT_size h2 h3
      have a2 := decT_size h4 h5
      have a3 := kindT_size d.kind
      rw [layTo_succ h]
      simp only [lineT, ByteArray.size_append]
      have e1 : (⟨#[32]⟩ : ByteArray).size = 1 := rfl
      have e2 : (⟨#[10]⟩ : ByteArray).size = 1 := rfl
      have e3 : (⟨#[45]⟩ : ByteArray).size = 1 := rfl
      omega
theorem itemB_nums {d : It} {u : Int} (h : itemB d u = true) (hu : u ≤ 20) : (-9223372036854775808 ≤ d.f0 ∧ d.f0 ≤ 9223372036854775807) ∧ (-9223372036854775808 ≤ d.f1 ∧ d.f1 ≤ 9223372036854775807) := by
  have h' : 0 ≤ d.f0 ∧ d.f0 < d.f1 ∧ d.f1 ≤ u := by simpa [fieldB] using (itemB_field h).1
  omega
theorem list_append (a b : ByteArray) : (a ++ b).data.toList = a.data.toList ++ b.data.toList := by simp
set_option maxRecDepth 100000 in
set_option maxHeartbeats 4000000 in
theorem l04Text_any (u : Int) (A : Option Addr) (c : Nat) (ds : List It) (B p : Nat) (w : World) (hp0 : w.cell? ⟨p, 0, none⟩ = some (.int .i64 u)) (hp1 : w.cell? ⟨p, 1, none⟩ = some (.slice A ds.length c)) (h : Items w B A ds) (hB : B ≤ w.heap.size) (hn : ds.length ≤ 12) (hs : ∀ d ∈ ds, d.name.size ≤ 1048576) (hv : layoutB u ds = true) :
    Calls Tryd.prog 27 #[.pointer (some ⟨p, 0, none⟩)] w fun e w' => e = .returned (.string (layTo u ds ds.length)) ∧ Below w.heap.size w w' := by
  have hsz := layout_size hv
  have hu : -9223372036854775808 ≤ u ∧ u ≤ 9223372036854775807 := by omega
  have hd : ∀ d ∈ ds, d.name.size ≤ 1048576 ∧ (-9223372036854775808 ≤ d.f0 ∧ d.f0 ≤ 9223372036854775807) ∧ (-9223372036854775808 ≤ d.f1 ∧ d.f1 ≤ 9223372036854775807) := fun d hm => by
    obtain ⟨k, hk⟩ := List.getElem?_of_mem hm
    exact ⟨hs d hm, itemB_nums (layout_item hv hk) (by omega)⟩
  have hkd : ∀ (k : Nat) (d : It), ds[k]? = some d → d.kind = 1 ∨ d.kind = 2 := fun k d hk => by
    have := (itemB_field (layout_item hv hk)).2
    omega
  have hTZ := layTo_size hu hd
  have hdz := decT_size hu.1 hu.2
  have HDC := Lib.hid (fun W => l01Dec_any u hu.1 hu.2 W)
  obtain ⟨D, hD⟩ : ∃ D, decT u = D := ⟨_, rfl⟩
  have hD' : (⟨(Lib.itoa u).toArray⟩ : ByteArray) = D := hD
  have h0T : layTo u ds 0 = ⟨#[119, 105, 100, 116, 104, 32]⟩ ++ D ++ ⟨#[10]⟩ := by rw [layTo, headT, hD]
  rw [hD] at hdz
  simp only [hD'] at HDC
  obtain ⟨n, hN⟩ : ∃ n, ds.length = n := ⟨_, rfl⟩
  have HN := Lib.hid hN
  have H := Lib.hid h
  have HHD := Lib.hid hd
  have HKD := Lib.hid hkd
  have HTZ := Lib.hid hTZ
  have H0T := Lib.hid h0T
  have HP1 := Lib.hid hp1
  rw [hN] at hn hp1 ⊢
  have s1 : ¬ 9223372036854775807 < 6 + D.size := by omega
  have s2 : ¬ 9223372036854775807 < 6 + D.size + 1 := by omega
  clear hd hkd hTZ h h0T hN hs hv hD hD' hu hsz
  go_enter Tryd.func27, Tryd.ntmps27
  go_wp2_with fail
  refine (HDC.out _).mono ?_
  rintro e w1 ⟨rfl, hb⟩
  have B1 := Lib.hid hb
  have q1 := cell_kept hp1 hb
  clear hb hp0 hp1 HDC
  obtain ⟨v2, w2, hcv, htr, hb2⟩ := conv_tail (⟨#[119, 105, 100, 116, 104, 32]⟩ ++ D ++ ⟨#[10]⟩) w.heap.size w1 B1.out.size (by have := HTZ.out 0; rw [H0T.out] at this; omega)
  have T2 := Lib.hid htr
  have B2 := Lib.hid (below_step B1.out hb2)
  have q2 := cell_kept q1 hb2
  clear htr hb2 q1 B1
  go_wp2_with fail
  go_loopw [3, 4] (fun b i wr => ∃ k : Nat, k ≤ n ∧ i = .int .i64 k ∧ Hid (TailRow wr w.heap.size b (layTo u ds k).data.toList) ∧ Hid (Below w.heap.size w wr)) (fun _ i _ => n - (intOf i).toNat)
  case atStart => exact ⟨0, Nat.zero_le _, rfl, by rw [H0T.out]; exact T2, B2⟩
  case round =>
    obtain ⟨k, hk, rfl, HT, HB⟩ := hrel
    have q3 := cell_kept (show w.cell? ⟨p, 1, none⟩ = some (.slice A n c) by rw [HP1.out, HN.out]) HB.out
    by_cases hlt : k < n
    · obtain ⟨d, hd⟩ : ∃ d, ds[k]? = some d := ⟨ds[k]'(by rw [HN.out]; exact hlt), List.getElem?_eq_getElem _⟩
      obtain ⟨bi, oi, rfl, hbi, hcell⟩ := (H.out.below (HB.out.mono hB)) (by rw [HN.out]; omega)
      obtain ⟨c0, c1, c2, c3⟩ := hcell k d hd
      obtain ⟨h1, ⟨h2, h3⟩, h4, h5⟩ := HHD.out d (List.mem_of_getElem? hd)
      have hkk := HKD.out k d hd
      have hsucc := layTo_succ (u := u) hd
      have htz := HTZ.out k
      obtain ⟨nm, kd, f0, f1⟩ := d
      simp only at c0 c1 c2 c3 h1 h2 h3 h4 h5 hkk
      have z0 := decT_size h2 h3
      have z1 := decT_size h4 h5
      have hl : lineT ⟨nm, kd, f0, f1⟩ = nm ++ ⟨#[32]⟩ ++ kindT kd ++ ⟨#[32]⟩ ++ decT f0 ++ ⟨#[45]⟩ ++ decT f1 ++ ⟨#[10]⟩ := rfl
      rw [hl] at hsucc
      obtain ⟨L, hL⟩ : ∃ L, layTo u ds k = L := ⟨_, rfl⟩
      rw [hL] at HT hsucc htz
      have k0 : (0 : Int) ≤ (k : Int) := Int.natCast_nonneg _
      have k1 : (k : Int) < (n : Int) := by omega
      have HDA : Hid (∀ (a : Int) (W : World), -9223372036854775808 ≤ a → a ≤ 9223372036854775807 → Calls Tryd.prog 50 #[.int .i64 a] W fun e w' => e = .returned (.string (decT a)) ∧ Below W.heap.size W w') := fun a W g0 g1 => l01Dec_any a g0 g1 W
      have HR0 := Lib.hid (And.intro h2 h3)
      have HR1 := Lib.hid (And.intro h4 h5)
      clear hcell hd hl hL h2 h3 h4 h5
      have e1 : ¬ 9223372036854775807 < nm.size + 1 := by omega
      have HS : Hid (Below wr.heap.size wr wr.drew) := (Below.refl wr.heap.size wr).drew
      have hbw : bi < w.heap.size := by have := hbi; omega
      rcases hkk with rfl | rfl
      · have hK : kindT 1 = ⟨#[116, 101, 120, 116]⟩ := rfl
        rw [hK] at hsucc
        have HSU := Lib.hid hsucc
        have e2 : ¬ 9223372036854775807 < nm.size + 1 + 4 := by omega
        have e3 : ¬ 9223372036854775807 < nm.size + 1 + 4 + 1 := by omega
        have e4 : ¬ 9223372036854775807 < nm.size + 1 + 4 + 1 + (decT f0).size := by omega
        have e5 : ¬ 9223372036854775807 < nm.size + 1 + 4 + 1 + (decT f0).size + 1 := by omega
        have e6 : ¬ 9223372036854775807 < nm.size + 1 + 4 + 1 + (decT f0).size + 1 + (decT f1).size := by omega
        have e7 : ¬ 9223372036854775807 < nm.size + 1 + 4 + 1 + (decT f0).size + 1 + (decT f1).size + 1 := by omega
        have HLZ : Hid (L.data.toList.length + (nm ++ ⟨#[32]⟩ ++ ⟨#[116, 101, 120, 116]⟩ ++ ⟨#[32]⟩ ++ decT f0 ++ ⟨#[45]⟩ ++ decT f1 ++ ⟨#[10]⟩ : ByteArray).size ≤ 140737488355328) := by
          show _ ≤ _
          have e8 : L.data.toList.length = L.size := rfl
          have t1 : (⟨#[32]⟩ : ByteArray).size = 1 := rfl
          have t2 : (⟨#[10]⟩ : ByteArray).size = 1 := rfl
          have t3 : (⟨#[45]⟩ : ByteArray).size = 1 := rfl
          have t4 : (⟨#[116, 101, 120, 116]⟩ : ByteArray).size = 4 := rfl
          simp only [ByteArray.size_append]
          omega
        clear hsucc hK htz z0 z1 h1 hk hlt q2 s1 s2 hcv
        go_wp2_with fail
        go_region_held3 (fun W => W.cell? ⟨bi, oi + k * 4, none⟩ = some (.string nm) ∧ W.cell? ⟨bi, oi + k * 4 + 2, none⟩ = some (.int .i64 f0) ∧ W.cell? ⟨bi, oi + k * 4 + 3, none⟩ = some (.int .i64 f1))
          (first | exact ⟨x0, x2, x3⟩ | exact ⟨cell_kept c0 HS.out, cell_kept c2 HS.out, cell_kept c3 HS.out⟩)
          (first
            | (go_at_call 50
               refine (HDA.out _ _ (by first | exact HR0.out.1 | exact HR1.out.1) (by first | exact HR0.out.2 | exact HR1.out.2)).mono ?_
               rintro e w5 ⟨rfl, hb⟩
               have HS := Lib.hid (below_step HS.out hb)
               clear hb)
            | (refine step_append_tail _ rfl _ _ rfl w.heap.size _ L.data.toList _ rfl rfl (HT.out.later HS.out) HLZ.out (Nat.le_trans HB.out.size HS.out.size) ?_
               intro v9 w9 ht hb
               have x0 := (hb.cell (p := ⟨bi, oi + k * 4, none⟩) hbw).trans (cell_kept c0 HS.out)
               have x2 := (hb.cell (p := ⟨bi, oi + k * 4 + 2, none⟩) hbw).trans (cell_kept c2 HS.out)
               have x3 := (hb.cell (p := ⟨bi, oi + k * 4 + 3, none⟩) hbw).trans (cell_kept c3 HS.out)
               have HT9 := Lib.hid ht
               have HS9 := Lib.hid ((below_step HB.out HS.out).trans hb)
               clear ht hb))
        all_goals
          go_wp2
          go_roundw
          case rel => exact ⟨k + 1, by omega, by go_num, by rw [HSU.out, list_append]; exact HT9, HS9⟩
          case measure => simp [intOf]; omega
      · have hK : kindT 2 = ⟨#[110, 117, 109, 98, 101, 114]⟩ := rfl
        rw [hK] at hsucc
        have HSU := Lib.hid hsucc
        have e2 : ¬ 9223372036854775807 < nm.size + 1 + 6 := by omega
        have e3 : ¬ 9223372036854775807 < nm.size + 1 + 6 + 1 := by omega
        have e4 : ¬ 9223372036854775807 < nm.size + 1 + 6 + 1 + (decT f0).size := by omega
        have e5 : ¬ 9223372036854775807 < nm.size + 1 + 6 + 1 + (decT f0).size + 1 := by omega
        have e6 : ¬ 9223372036854775807 < nm.size + 1 + 6 + 1 + (decT f0).size + 1 + (decT f1).size := by omega
        have e7 : ¬ 9223372036854775807 < nm.size + 1 + 6 + 1 + (decT f0).size + 1 + (decT f1).size + 1 := by omega
        have HLZ : Hid (L.data.toList.length + (nm ++ ⟨#[32]⟩ ++ ⟨#[110, 117, 109, 98, 101, 114]⟩ ++ ⟨#[32]⟩ ++ decT f0 ++ ⟨#[45]⟩ ++ decT f1 ++ ⟨#[10]⟩ : ByteArray).size ≤ 140737488355328) := by
          show _ ≤ _
          have e8 : L.data.toList.length = L.size := rfl
          have t1 : (⟨#[32]⟩ : ByteArray).size = 1 := rfl
          have t2 : (⟨#[10]⟩ : ByteArray).size = 1 := rfl
          have t3 : (⟨#[45]⟩ : ByteArray).size = 1 := rfl
          have t4 : (⟨#[110, 117, 109, 98, 101, 114]⟩ : ByteArray).size = 6 := rfl
          simp only [ByteArray.size_append]
          omega
        clear hsucc hK htz z0 z1 h1 hk hlt q2 s1 s2 hcv
        go_wp2_with fail
        go_region_held3 (fun W => W.cell? ⟨bi, oi + k * 4, none⟩ = some (.string nm) ∧ W.cell? ⟨bi, oi + k * 4 + 2, none⟩ = some (.int .i64 f0) ∧ W.cell? ⟨bi, oi + k * 4 + 3, none⟩ = some (.int .i64 f1))
          (first | exact ⟨x0, x2, x3⟩ | exact ⟨cell_kept c0 HS.out, cell_kept c2 HS.out, cell_kept c3 HS.out⟩)
          (first
            | (go_at_call 50
               refine (HDA.out _ _ (by first | exact HR0.out.1 | exact HR1.out.1) (by first | exact HR0.out.2 | exact HR1.out.2)).mono ?_
               rintro e w5 ⟨rfl, hb⟩
               have HS := Lib.hid (below_step HS.out hb)
               clear hb)
            | (refine step_append_tail _ rfl _ _ rfl w.heap.size _ L.data.toList _ rfl rfl (HT.out.later HS.out) HLZ.out (Nat.le_trans HB.out.size HS.out.size) ?_
               intro v9 w9 ht hb
               have x0 := (hb.cell (p := ⟨bi, oi + k * 4, none⟩) hbw).trans (cell_kept c0 HS.out)
               have x2 := (hb.cell (p := ⟨bi, oi + k * 4 + 2, none⟩) hbw).trans (cell_kept c2 HS.out)
               have x3 := (hb.cell (p := ⟨bi, oi + k * 4 + 3, none⟩) hbw).trans (cell_kept c3 HS.out)
               have HT9 := Lib.hid ht
               have HS9 := Lib.hid ((below_step HB.out HS.out).trans hb)
               clear ht hb))
        all_goals
          go_wp2
          go_roundw
          case rel => exact ⟨k + 1, by omega, by go_num, by rw [HSU.out, list_append]; exact HT9, HS9⟩
          case measure => simp [intOf]; omega
    · have hkn : k = n := by omega
      have k1 : ¬ (k : Int) < (n : Int) := by omega
      have hstr := HT.out.text
      have HF : Hid ((⟨(layTo u ds k).data.toList.toArray⟩ : ByteArray) = layTo u ds n) := by show _ = _; rw [hkn]
      clear hkn q2 s1 s2 hcv
      go_wp2
      go_ret
      exact ⟨congrArg (fun z => Ending.returned (.string z)) HF.out, HB.out⟩

theorem specLayText_any (u : Int) (A : Option Addr) (c : Nat) (ds : List It) (B : Nat) (w : World) (h : Items w B A ds) (hB : B ≤ w.heap.size) (hn : ds.length ≤ 1048576) (hs : ∀ d ∈ ds, d.name.size ≤ 1048576) :
    Calls Tryd.prog 13 #[.agg #[.int .i64 u, .slice A ds.length c]] w fun e w' => e = .returned (.string (layTx u ds)) ∧ Below w.heap.size w w' := by
  have b0 := below_box w (.cells #[.int .i64 u, .slice A ds.length c] 32)
  have p0 : (w.alloc (.cells #[.int .i64 u, .slice A ds.length c] 32)).cell? ⟨w.heap.size, 0, none⟩ = some (.int .i64 u) := by simp
  have p1 : (w.alloc (.cells #[.int .i64 u, .slice A ds.length c] 32)).cell? ⟨w.heap.size, 1, none⟩ = some (.slice A ds.length c) := by simp
  have ho := l04Ok_any u A c ds B w.heap.size 0 _ p0 p1 (h.below (b0.mono hB)) (Nat.le_trans hB b0.size) hn
  have ht := fun W (hW : Below w.heap.size w W) (q0 : W.cell? ⟨w.heap.size, 0, none⟩ = some (.int .i64 u)) (q1 : W.cell? ⟨w.heap.size, 1, none⟩ = some (.slice A ds.length c)) (hv : layoutB u ds = true) => l04Text_any u A c ds B w.heap.size W q0 q1 (h.below (hW.mono hB)) (Nat.le_trans hB hW.size) (layout_size hv).1 hs hv
  obtain ⟨T, hT⟩ : ∃ T, layTo u ds ds.length = T := ⟨_, rfl⟩
  rw [layTx, hT]
  rw [hT] at ht
  obtain ⟨r, hr⟩ : ∃ r, layoutB u ds = r := ⟨_, rfl⟩
  rw [hr] at ho ⊢
  simp only [hr] at ht
  obtain ⟨n, hN⟩ : ∃ n, ds.length = n := ⟨_, rfl⟩
  simp only [hN] at ho ht b0 p0 p1 ⊢
  have HO := Lib.hid ho
  have HT := Lib.hid ht
  have B0 := Lib.hid b0
  clear ho ht b0 h hT hr hN hs hn
  cases r
  · rw [if_neg (by simp)]
    go_enter Tryd.func13, Tryd.ntmps13
    go_wp2_with fail
    refine HO.out.mono ?_
    rintro e w1 ⟨rfl, hb⟩
    have B1 := Lib.hid (below_step B0.out hb)
    clear hb
    go_wp2
    go_ret
    exact ⟨rfl, B1.out⟩
  · rw [if_pos rfl]
    go_enter Tryd.func13, Tryd.ntmps13
    go_wp2_with fail
    refine HO.out.mono ?_
    rintro e w1 ⟨rfl, hb⟩
    have B1 := Lib.hid (below_step B0.out hb)
    have HQ := Lib.hid (And.intro (cell_kept p0 hb) (cell_kept p1 hb))
    clear hb
    go_wp2_with fail
    refine (HT.out _ B1.out HQ.out.1 HQ.out.2 trivial).mono ?_
    rintro e w2 ⟨rfl, hb⟩
    have B2 := Lib.hid (below_step B1.out hb)
    clear hb
    go_wp2
    go_ret
    exact ⟨rfl, B2.out⟩
end Go.Proofs.YtmdgpkiicjmfhaaDoor
