/- The text of copies: spec.l10Text, spec.CopiesText, the text of one copy and impl.CopiesText: contracts. -/
import Derived.Test.YtamookdlbmbncaaDoorCopyI
import Derived.Test.YtamookdlbmbncaaDoorCopyS
import Derived.Test.YtamookdlbmbncaaDoorJoinB
import Derived.Test.YtamookdlbmbncaaDoorDec
import Derived.Test.YtamookdlbmbncaaDoorDecText
import Derived.Test.YtamookdlbmbncaaDoorStrRow
import Derived.Test.YtamookdlbmbncaaDoorDecimal
import Derived.Test.YtamookdlbmbncaaDoorShelf
import Derived.Deep.RegionHeld3
namespace Go.Proofs.YtamookdlbmbncaaDoor
open Go.ChangeShapes Go.WideShapes Go.ChangeAt Go.RowKit

/-- the text of a copy -/
def copS (p : Int × Int) : ByteArray := decS p.1 ++ ⟨#[62]⟩ ++ decS p.2
def copTo (P : List (Int × Int)) (k : Nat) : ByteArray := joinB ((P.take k).map copS)
/-- what CopiesText answers -/
def copT (P : List (Int × Int)) : ByteArray := if validTo 20 20 P (-1) = true then copTo P P.length else ⟨#[]⟩

theorem copTo_one {P : List (Int × Int)} {d : Int × Int} (h : P[0]? = some d) : copTo P 1 = copS d := by
  unfold copTo
  rw [List.take_add_one, h]
  exact joinB_one _
theorem copTo_succ {P : List (Int × Int)} {k : Nat} {d : Int × Int} (h : P[k]? = some d) (hk : 0 < k) : copTo P (k + 1) = copTo P k ++ ⟨#[32]⟩ ++ copS d := by
  obtain ⟨hl, _⟩ := List.getElem?_eq_some_iff.1 h
  unfold copTo
  rw [List.take_add_one, h, List.map_append]
  refine joinB_snoc _ _ ?_
  intro e
  have := congrArg List.length e
  rw [List.length_map, List.length_take, List.length_nil] at this
  omega
theorem copS_size {d : Int × Int} (h : 0 ≤ d.1 ∧ d.1 < 20 ∧ 0 ≤ d.2 ∧ d.2 < 20) : (copS d).size ≤ 43 := by
  have a := decS_size (a := d.1) (by omega) (by omega)
  have b := decS_size (a := d.2) (by omega) (by omega)
  unfold copS
  rw [ByteArray.size_append, ByteArray.size_append]
  show (decS d.1).size + 1 + (decS d.2).size ≤ 43
  omega
theorem copTo_size {P : List (Int × Int)} (hw : ∀ (k : Nat) (x : Int × Int), P[k]? = some x → 0 ≤ x.1 ∧ x.1 < 20 ∧ 0 ≤ x.2 ∧ x.2 < 20) : ∀ k, k ≤ P.length → (copTo P k).size ≤ 64 * k
  | 0, _ => Nat.le_refl _
  | k + 1, hk => by
    have ih := copTo_size hw k (by omega)
    obtain ⟨d, hd⟩ : ∃ d, P[k]? = some d := ⟨P[k]'(by omega), List.getElem?_eq_getElem _⟩
    have hz := copS_size (hw k d hd)
    by_cases h0 : k = 0
    · subst h0
      rw [copTo_one hd]
      omega
    · rw [copTo_succ hd (by omega), ByteArray.size_append, ByteArray.size_append]
      show (copTo P k).size + 1 + (copS d).size ≤ _
      omega

set_option maxHeartbeats 2000000 in
theorem l10Text_any (A : Option Addr) (c : Nat) (P : List (Int × Int)) (B : Nat) (w : World) (h : Copies w B A P) (hB : B ≤ w.heap.size) (hn : P.length ≤ 20) (hv : validTo 20 20 P (-1) = true) :
    Calls Tryd.prog 42 #[.slice A P.length c] w fun e w' => e = .returned (.string (copTo P P.length)) ∧ Below w.heap.size w w' := by
  have hw : ∀ (k : Nat) (x : Int × Int), P[k]? = some x → 0 ≤ x.1 ∧ x.1 < 20 ∧ 0 ≤ x.2 ∧ x.2 < 20 := fun k x hx => validTo_at hv hx
  have hsz := copTo_size hw
  obtain ⟨n, hN⟩ : ∃ n, P.length = n := ⟨_, rfl⟩
  rw [hN] at hn hsz ⊢
  have H := Lib.hid h
  have HN := Lib.hid hN
  have HW := Lib.hid hw
  have HSZ := Lib.hid hsz
  clear h hN hw hsz hv
  go_enter Tryd.func42, Tryd.ntmps42
  go_wp2
  go_loopw [3, 4] (fun o v wr => ∃ k : Nat, k ≤ n ∧ v = .int .i64 k ∧ o = .string (copTo P k) ∧ Hid (Below w.heap.size w wr)) (fun _ v _ => n - (intOf v).toNat)
  case atStart => exact ⟨0, Nat.zero_le _, rfl, rfl, Below.refl _ _⟩
  case round =>
    obtain ⟨k, hk, rfl, rfl, HB⟩ := hrel
    by_cases hlt : k < n
    · obtain ⟨d, hd⟩ : ∃ d, P[k]? = some d := ⟨P[k]'(by rw [HN.out]; exact hlt), List.getElem?_eq_getElem _⟩
      obtain ⟨b, off, rfl, hb, hcell⟩ := (H.out.below (HB.out.mono hB)) (by rw [HN.out]; omega)
      obtain ⟨c0, c1⟩ := hcell k d hd
      obtain ⟨w1, w2, w3, w4⟩ := HW.out k d hd
      have hT : copTo P (k + 1) = if k = 0 then copS d else copTo P k ++ ⟨#[32]⟩ ++ copS d := by
        by_cases h0 : k = 0
        · subst h0
          rw [if_pos rfl]
          exact copTo_one hd
        · rw [if_neg h0]
          exact copTo_succ hd (by omega)
      have hz := HSZ.out k (by omega)
      have hO0 : k = 0 → copTo P k = ⟨#[]⟩ := fun e => by rw [e]; rfl
      obtain ⟨a, m⟩ := d
      simp only at c0 c1 w1 w2 w3 w4
      have hDa := decS_size (a := a) (by omega) (by omega)
      have hDb := decS_size (a := m) (by omega) (by omega)
      have hda := fun W => l01Dec_any a (by omega) (by omega) W
      have hdb := fun W => l01Dec_any m (by omega) (by omega) W
      have hps : copS (a, m) = decS a ++ ⟨#[62]⟩ ++ decS m := rfl
      obtain ⟨Da, hA⟩ : ∃ D, decS a = D := ⟨_, rfl⟩
      obtain ⟨Db, hM⟩ : ∃ D, decS m = D := ⟨_, rfl⟩
      have hA' : (⟨(Lib.itoa a).toArray⟩ : ByteArray) = Da := hA
      have hM' : (⟨(Lib.itoa m).toArray⟩ : ByteArray) = Db := hM
      simp only [hA'] at hda
      simp only [hM'] at hdb
      rw [hA] at hDa hps
      rw [hM] at hDb hps
      rw [hps] at hT
      obtain ⟨O, hO⟩ : ∃ O, copTo P k = O := ⟨_, rfl⟩
      rw [hO] at hT hz hO0 ⊢
      have HDA := Lib.hid hda
      have HDB := Lib.hid hdb
      have HT := Lib.hid hT
      have HO0 := Lib.hid hO0
      have k0 : (0 : Int) ≤ (k : Int) := Int.natCast_nonneg _
      have k1 : (k : Int) < (n : Int) := by omega
      have s1 : ¬ 9223372036854775807 < O.size + 1 := by omega
      have s2 : ¬ 9223372036854775807 < Da.size + 1 := by omega
      have s3 : ¬ 9223372036854775807 < Da.size + 1 + Db.size := by omega
      have s4 : ¬ 9223372036854775807 < O.size + (Da.size + 1 + Db.size) := by omega
      have s5 : ¬ 9223372036854775807 < O.size + 1 + (Da.size + 1 + Db.size) := by omega
      clear hcell hd hda hdb hps hA hA' hM hM' hT hO hO0 hb w1 w2 w3 w4 hz hDa hDb
      have HS : Hid (Below wr.drew.heap.size wr.drew wr.drew) := Below.refl _ _
      have HC : Hid (Below w.heap.size w wr.drew) := HB.out.drew
      by_cases h0 : k = 0
      · have HTT := HT.out
        rw [if_pos h0] at HTT
        have HO : Hid (O = ⟨#[]⟩) := HO0.out h0
        have HTL := Lib.hid HTT
        have e0 : ¬ (k : Int) > 0 := by omega
        clear HTT h0
        go_wp2
        go_region_held3 (fun W => W.cell? ⟨b, off + k * 2, none⟩ = some (.int .i64 a) ∧ W.cell? ⟨b, off + k * 2 + 1, none⟩ = some (.int .i64 m))
          (first | exact ⟨cell_kept (w := wr.drew) c0 HS.out, cell_kept (w := wr.drew) c1 HS.out⟩ | go_keep)
          (first
            | (go_at_call 67
               with_reducible refine (HDA.out _).mono ?_
               rintro e wz ⟨rfl, hb⟩
               have HC := Lib.hid (below_step HC.out hb)
               have HS := Lib.hid (below_step HS.out hb)
               clear hb)
            | (go_at_call 67
               with_reducible refine (HDB.out _).mono ?_
               rintro e wz ⟨rfl, hb⟩
               have HC := Lib.hid (below_step HC.out hb)
               have HS := Lib.hid (below_step HS.out hb)
               clear hb))
        all_goals
          go_wp2
          go_roundw
          case rel => exact ⟨k + 1, by omega, by go_num, by rw [HTL.out, HO.out]; try simp only [nil_appB, ByteArray.append_assoc], HC⟩
          case measure => simp [intOf]; omega
      · have HTT := HT.out
        rw [if_neg h0] at HTT
        have e0 : (k : Int) > 0 := by omega
        have HTL := Lib.hid HTT
        clear HTT h0
        go_wp2
        go_region_held3 (fun W => W.cell? ⟨b, off + k * 2, none⟩ = some (.int .i64 a) ∧ W.cell? ⟨b, off + k * 2 + 1, none⟩ = some (.int .i64 m))
          (first | exact ⟨cell_kept (w := wr.drew) c0 HS.out, cell_kept (w := wr.drew) c1 HS.out⟩ | go_keep)
          (first
            | (go_at_call 67
               with_reducible refine (HDA.out _).mono ?_
               rintro e wz ⟨rfl, hb⟩
               have HC := Lib.hid (below_step HC.out hb)
               have HS := Lib.hid (below_step HS.out hb)
               clear hb)
            | (go_at_call 67
               with_reducible refine (HDB.out _).mono ?_
               rintro e wz ⟨rfl, hb⟩
               have HC := Lib.hid (below_step HC.out hb)
               have HS := Lib.hid (below_step HS.out hb)
               clear hb))
        all_goals
          go_wp2
          go_roundw
          case rel => exact ⟨k + 1, by omega, by go_num, by rw [HTL.out]; try simp only [ByteArray.append_assoc], HC⟩
          case measure => simp [intOf]; omega
    · have hkn : k = n := by omega
      have k1 : ¬ (k : Int) < (n : Int) := by omega
      have HF : Hid (copTo P k = copTo P n) := by show _ = _; rw [hkn]
      clear hkn
      go_wp2
      go_ret
      exact ⟨congrArg (fun z => Ending.returned (.string z)) HF.out, HB.out⟩

theorem specCopiesText_any (A : Option Addr) (c : Nat) (P : List (Int × Int)) (B : Nat) (w : World) (h : Copies w B A P) (hB : B ≤ w.heap.size) (hn : P.length ≤ 1048576) :
    Calls Tryd.prog 15 #[.slice A P.length c] w fun e w' => e = .returned (.string (copT P)) ∧ Below w.heap.size w w' := by
  have hp := l10Plain_any A c P B w h hB hn
  by_cases hv : validTo 20 20 P (-1) = true
  · have ht := fun W (hW : Below w.heap.size w W) => l10Text_any A c P B W (h.below (hW.mono hB)) (Nat.le_trans hB hW.size) (by have := validTo_len (by omega) (by omega) hv; omega) hv
    rw [copT, if_pos hv]
    rw [hv] at hp
    obtain ⟨n, hN⟩ : ∃ n, P.length = n := ⟨_, rfl⟩
    simp only [hN] at hp ht ⊢
    obtain ⟨T, hT⟩ : ∃ T, copTo P n = T := ⟨_, rfl⟩
    simp only [hT] at ht ⊢
    have HP := Lib.hid hp
    have HT := Lib.hid ht
    clear h hN hn hT ht hp hv
    go_enter Tryd.func15, Tryd.ntmps15
    go_wp2_with fail
    refine HP.out.mono ?_
    rintro e w1 ⟨rfl, hb⟩
    have B1 := Lib.hid hb
    clear hb
    go_wp2_with fail
    refine (HT.out _ B1.out).mono ?_
    rintro e w2 ⟨rfl, hb⟩
    have B2 := Lib.hid (below_step B1.out hb)
    clear hb
    go_wp2
    go_ret
    exact ⟨rfl, B2.out⟩
  · rw [copT, if_neg hv]
    rw [Bool.eq_false_iff.2 hv] at hp
    obtain ⟨n, hN⟩ : ∃ n, P.length = n := ⟨_, rfl⟩
    rw [hN] at hp ⊢
    have HP := Lib.hid hp
    clear h hN hn hp hv
    go_enter Tryd.func15, Tryd.ntmps15
    go_wp2_with fail
    refine HP.out.mono ?_
    rintro e w1 ⟨rfl, hb⟩
    have B1 := Lib.hid hb
    clear hb
    go_wp2
    go_ret
    exact ⟨rfl, B1.out⟩

set_option maxHeartbeats 2000000 in
theorem implText_any (a m : Int) (ha : 0 ≤ a ∧ a < 20 ∧ 0 ≤ m ∧ m < 20) (w : World) (hP : Pow10 w) :
    Calls Tryd.prog 45 #[.agg #[.int .i64 a, .int .i64 m]] w fun e w' => e = .returned (.string (copS (a, m))) ∧ Below w.heap.size w w' := by
  have hDa := decS_size (a := a) (by omega) (by omega)
  have hDb := decS_size (a := m) (by omega) (by omega)
  have hda := fun W hW => implDecimal_any a (by omega) (by omega) W hW
  have hdb := fun W hW => implDecimal_any m (by omega) (by omega) W hW
  have hps : copS (a, m) = decS a ++ ⟨#[62]⟩ ++ decS m := rfl
  obtain ⟨Da, hA⟩ : ∃ D, decS a = D := ⟨_, rfl⟩
  obtain ⟨Db, hM⟩ : ∃ D, decS m = D := ⟨_, rfl⟩
  have hA' : (⟨(Lib.itoa a).toArray⟩ : ByteArray) = Da := hA
  have hM' : (⟨(Lib.itoa m).toArray⟩ : ByteArray) = Db := hM
  simp only [hA'] at hda
  simp only [hM'] at hdb
  rw [hA] at hDa hps
  rw [hM] at hDb hps
  rw [hps]
  have HDA := Lib.hid hda
  have HDB := Lib.hid hdb
  have s2 : ¬ 9223372036854775807 < Da.size + 1 := by omega
  have s3 : ¬ 9223372036854775807 < Da.size + 1 + Db.size := by omega
  obtain ⟨W1, hW1⟩ : ∃ W1, w.alloc (.cells #[.int .i64 a, .int .i64 m] 70) = W1 := ⟨_, rfl⟩
  have bx : Below w.heap.size w W1 := by rw [← hW1]; exact below_box w _
  have c0 : W1.cell? ⟨w.heap.size, 0, none⟩ = some (.int .i64 a) := by rw [← hW1]; simp
  have c1 : W1.cell? ⟨w.heap.size, 1, none⟩ = some (.int .i64 m) := by rw [← hW1]; simp
  have HPW : Hid (Pow10 W1.drew) := hP.below bx.drew
  have HS : Hid (Below W1.drew.heap.size W1.drew W1.drew) := Below.refl _ _
  have HC : Hid (Below w.heap.size w W1.drew) := bx.drew
  clear hda hdb hps hA hA' hM hM' hDa hDb bx hP
  go_enter Tryd.func45, Tryd.ntmps45
  go_wp2
  go_region_held3 (fun W => W.cell? ⟨w.heap.size, 0, none⟩ = some (.int .i64 a) ∧ W.cell? ⟨w.heap.size, 1, none⟩ = some (.int .i64 m))
    (first | exact ⟨cell_kept (w := W1.drew) c0 HS.out, cell_kept (w := W1.drew) c1 HS.out⟩ | go_keep)
    (first
      | (go_at_call 69
         with_reducible refine (HDA.out _ (HPW.out.below HS.out)).mono ?_
         rintro e wz ⟨rfl, hb⟩
         have HC := Lib.hid (below_step HC.out hb)
         have HS := Lib.hid (below_step HS.out hb)
         clear hb)
      | (go_at_call 69
         with_reducible refine (HDB.out _ (HPW.out.below HS.out)).mono ?_
         rintro e wz ⟨rfl, hb⟩
         have HC := Lib.hid (below_step HC.out hb)
         have HS := Lib.hid (below_step HS.out hb)
         clear hb))
  all_goals
    go_wp2
    go_ret
    exact ⟨rfl, HC.out⟩

set_option maxRecDepth 100000 in
set_option maxHeartbeats 4000000 in
theorem implCopiesText_any (A : Option Addr) (c : Nat) (P : List (Int × Int)) (B : Nat) (w : World) (h : Copies w B A P) (hB : B ≤ w.heap.size) (hn : P.length ≤ 1048576) (hP : Pow10 w) :
    Calls Tryd.prog 17 #[.slice A P.length c] w fun e w' => e = .returned (.string (copT P)) ∧ Below w.heap.size w w' := by
  have hp := isPlain_any A c P B w h hB hn
  by_cases hv : validTo 20 20 P (-1) = true
  · rw [copT, if_pos hv]
    rw [hv] at hp
    have hw : ∀ (k : Nat) (x : Int × Int), P[k]? = some x → 0 ≤ x.1 ∧ x.1 < 20 ∧ 0 ≤ x.2 ∧ x.2 < 20 := fun k x hx => validTo_at hv hx
    have hsz := copTo_size hw P.length (Nat.le_refl _)
    have hn2 : P.length ≤ 20 := by have := validTo_len (by omega) (by omega) hv; omega
    obtain ⟨n, hN⟩ : ∃ n, P.length = n := ⟨_, rfl⟩
    rw [hN] at hn2 hsz hp ⊢
    have hmk : ∀ W : World, (Instr.makeSlice 73 (.int .i64 n) (.int .i64 n)).run Tryd.prog W = .ok (.slice (some ⟨W.heap.size, 0, none⟩) n n) (W.alloc (.cells (strCells [] n).toArray 9)) := fun W => by
      obtain ⟨i0, hi0, hz0, hz1, hz2⟩ := info_parts info_strs
      have hr := run_make (P := Tryd.prog) W 73 9 i0 _ Tryd.underlying73 hi0 hz0 .i64 .i64 n n (by omega) (Int.le_refl _) (by rw [hz2]; omega) (by omega)
      have e : madeCells (Value.string ⟨#[]⟩).cells ((n : Int).toNat * i0.size) = (strCells [] n).toArray := by
        rw [hz1, Int.toNat_natCast, Nat.mul_one]
        apply Array.ext
        · simp [size_madeCells, strCells, Value.cells]
        · intro i h1 h2
          simp [madeCells, strCells, Value.cells, Nat.mod_one]
      rw [e, Int.toNat_natCast] at hr
      exact hr
    have H := Lib.hid h
    have HN := Lib.hid hN
    have HW := Lib.hid hw
    have HPW := Lib.hid hP
    have HSZ := Lib.hid hsz
    have HP := Lib.hid hp
    have HTX := Lib.hid implText_any
    clear h hN hw hP hsz hp hv hn
    go_enter Tryd.func17, Tryd.ntmps17
    go_wp2_with fail
    refine HP.out.mono ?_
    rintro e w0 ⟨rfl, hb0⟩
    have B0 := Lib.hid hb0
    have hsz0 := hb0.size
    clear hb0
    go_wp2
    clear hmk
    go_loopw [14] (fun i wr => ∃ k : Nat, k ≤ n ∧ i = .int .i64 k ∧ Hid (SRow wr w0.heap.size ((P.take k).map copS) n) ∧ Hid (Below w.heap.size w wr)) (fun i _ => n - (intOf i).toNat)
    case atStart => exact ⟨0, Nat.zero_le _, rfl, heap_alloc_new w0 _, below_step B0.out (below_box w0 _)⟩
    case round =>
      obtain ⟨k, hk, rfl, HS, HB⟩ := hrel
      by_cases hlt : k < n
      · obtain ⟨d, hd⟩ : ∃ d, P[k]? = some d := ⟨P[k]'(by rw [HN.out]; exact hlt), List.getElem?_eq_getElem _⟩
        obtain ⟨b, off, rfl, hb, hcell⟩ := (H.out.below (HB.out.mono hB)) (by rw [HN.out]; omega)
        obtain ⟨c0, c1⟩ := hcell k d hd
        have hwd := HW.out k d hd
        have hwl : ((P.take k).map copS).length = k := by rw [List.length_map, List.length_take, HN.out]; omega
        have hws : (P.take (k + 1)).map copS = (P.take k).map copS ++ [copS d] := by rw [List.take_add_one, hd, List.map_append]; rfl
        obtain ⟨a, m⟩ := d
        simp only at c0 c1
        have htx := fun W hW => HTX.out a m hwd W hW
        obtain ⟨D, hD⟩ : ∃ D, copS (a, m) = D := ⟨_, rfl⟩
        simp only [hD] at htx
        rw [hD] at hws
        obtain ⟨ws, hwe⟩ : ∃ ws, (P.take k).map copS = ws := ⟨_, rfl⟩
        rw [hwe] at hwl hws HS
        have HTC := Lib.hid htx
        have HWS := Lib.hid hws
        have HWL := Lib.hid hwl
        have k0 : (0 : Int) ≤ (k : Int) := Int.natCast_nonneg _
        have k1 : (k : Int) < (n : Int) := by omega
        have hSn : (strCells ws n)[k]? = some (.string ⟨#[]⟩) := by have := strCells_next ws n (by rw [hwl]; exact hlt); rwa [hwl] at this
        have bx := below_box wr (.cells #[.int .i64 a, .int .i64 m] 70)
        have p0 : (wr.alloc (.cells #[.int .i64 a, .int .i64 m] 70)).cell? ⟨wr.heap.size, 0, none⟩ = some (.int .i64 a) := by simp
        have p1 : (wr.alloc (.cells #[.int .i64 a, .int .i64 m] 70)).cell? ⟨wr.heap.size, 1, none⟩ = some (.int .i64 m) := by simp
        have HBX := Lib.hid (below_step HB.out bx)
        have HSX := Lib.hid (HS.out.later bx)
        have HPX := Lib.hid (HPW.out.below HBX.out)
        have hSN := Lib.hid hSn
        clear hcell hd htx hD hws hwe hwl hb hwd bx hSn
        obtain ⟨W1, hW1⟩ : ∃ W1, wr.alloc (.cells #[.int .i64 a, .int .i64 m] 70) = W1 := ⟨_, rfl⟩
        rw [hW1] at p0 p1 HBX HSX HPX
        go_wp2_with fail
        refine (HTC.out _ HPX.out).mono ?_
        rintro e w5 ⟨rfl, hb5⟩
        have HB5 := Lib.hid (below_step HBX.out hb5)
        have HS5 := Lib.hid (HSX.out.later hb5)
        have y5 := HS5.out.cell hSN.out
        have f5 := HS5.out.frozen k
        clear hb5
        go_wp2
        go_roundw
        case rel =>
          refine ⟨k + 1, by omega, by go_num, ?_, HB5.out.setCell hsz0 _⟩
          rw [HWS.out]
          have hl := HWL.out
          have hput := fun x => HS5.out.put x (by rw [hl]; exact hlt)
          simp only [hl] at hput
          exact hput _
        case measure => simp [intOf]; omega
      · have hkn : k = n := by omega
        have k1 : ¬ (k : Int) < (n : Int) := by omega
        have hjo : Calls Tryd.prog 46 #[.slice (some ⟨w0.heap.size, 0, none⟩) n n, .string ⟨#[32]⟩] wr fun e w' => e = .returned (.string (copTo P n)) ∧ Below wr.heap.size wr w' := by
          obtain ⟨ws, hwe⟩ : ∃ ws, (P.take n).map copS = ws := ⟨_, rfl⟩
          have hwl : ws.length = n := by rw [← hwe, List.length_map, List.length_take, HN.out]; omega
          have hs := HS.out
          rw [hkn, hwe] at hs
          have hlt2 := hs.lt
          have := Tryd.strings_Join w0.heap.size 0 n ws ⟨#[32]⟩ wr (fun j x hx => by
            have := hs.cell (strCells_get ws n j x hx)
            rw [Nat.zero_add]
            exact this) hlt2 (by omega) (by omega) (by
            have e : (joinB ws).size = (Lib.join (ws.map (·.data.toList)) (ByteArray.mk #[32]).data.toList).length := by
              show (Lib.join (ws.map (·.data.toList)) (ByteArray.mk #[32]).data.toList).toArray.size = _
              rw [List.size_toArray]
            rw [← e, ← hwe]
            have := HSZ.out
            unfold copTo at this
            omega)
          rw [hwl] at this
          unfold copTo
          rw [hwe]
          exact this
        have HJ := Lib.hid hjo
        clear hkn hjo HS
        go_wp2_with fail
        refine HJ.out.mono ?_
        rintro e w2 ⟨rfl, hb⟩
        have B2 := Lib.hid (below_step HB.out hb)
        clear hb
        go_wp2
        go_ret
        exact ⟨rfl, B2.out⟩
  · rw [copT, if_neg hv]
    rw [Bool.eq_false_iff.2 hv] at hp
    obtain ⟨n, hN⟩ : ∃ n, P.length = n := ⟨_, rfl⟩
    rw [hN] at hp ⊢
    have HP := Lib.hid hp
    clear h hN hn hp hv hP
    go_enter Tryd.func17, Tryd.ntmps17
    go_wp2_with fail
    refine HP.out.mono ?_
    rintro e w1 ⟨rfl, hb⟩
    have B1 := Lib.hid hb
    clear hb
    go_wp2
    go_ret
    exact ⟨rfl, B1.out⟩
end Go.Proofs.YtamookdlbmbncaaDoor
