/- impl.runScanner's scan sets the next run of a text, and spec.ProgramRuns joins the words of all runs: contracts, for texts of at most 1048576 bytes (scan: of letters of program cards). -/
import Derived.Test.YtjlgfgekiekenaaDoorRuns
import Derived.Test.YtjlgfgekiekenaaDoorDec
import Derived.Lib.ItoaLen
namespace Go.Proofs.YtjlgfgekiekenaaDoor
open Go.ChangeShapes Go.WideShapes Go.ChangeAt Go.RowKit

theorem kr_nonempty {s : ByteArray} (h0 : 0 < s.size) : s.toList.isEmpty = false := by
  rw [ByteArray.toList_eq]
  cases hl : s.data.toList with
  | nil =>
    have : s.data.toList.length = s.size := by simp
    rw [hl] at this
    simp at this
    omega
  | cons _ _ => rfl

set_option maxHeartbeats 1000000 in
theorem scan_more (s : ByteArray) (i b : Nat) (R : ByteArray) (w : World) (hi : i < s.size) (hs : s.size ≤ 1048576) (hl : lettersTo s s.size = true) (h0 : w.cell? ⟨b, 0, none⟩ = some (.string R)) (h1 : w.cell? ⟨b, 1, none⟩ = some (.string (sufB s i))) (f0 : w.frozen? ⟨b, 0, none⟩ = false) (f1 : w.frozen? ⟨b, 1, none⟩ = false) :
    Calls Tryd.prog 62 #[.pointer (some ⟨b, 0, none⟩)] w fun e w' => e = .returned (.bool true) ∧ ∃ q, ((w.drewN q).setCell ⟨b, 0, none⟩ (.string (s.extract i (i + runLen s i)))).setCell ⟨b, 1, none⟩ (.string (sufB s (i + runLen s i))) = w' := by
  have hc : (s.get! i).toNat < 128 := by
    have := letter_at s i hl hi
    by_cases hh : 128 ≤ (s.get! i).toNat
    · rw [letterB_high _ hh] at this; cases this
    · omega
  have hT := fun W => Tryd.strings_TrimLeft_one (sufB s i) (s.get! i) hc W
  rw [trim_run s i hi, ← sufB_first s i hi] at hT
  have hS := fun W => Tryd.strings_TrimSuffix (sufB s i) (sufB s (i + runLen s i)) W (by rw [sufB_size]; omega)
  rw [cut_run s i (runLen s i) (runLen_le s i hi)] at hS
  have hsz := sufB_size s i
  have hne := kr_nonempty (s := sufB s i) (by omega)
  have hsz1 : 1 ≤ (sufB s i).size := by omega
  have hsz2 : (sufB s i).size ≤ 1048576 := by omega
  obtain ⟨L, hL⟩ : ∃ L, sufB s i = L := ⟨_, rfl⟩
  obtain ⟨X, hX⟩ : ∃ X, s.extract i (i + runLen s i) = X := ⟨_, rfl⟩
  obtain ⟨Y, hY⟩ : ∃ Y, sufB s (i + runLen s i) = Y := ⟨_, rfl⟩
  rw [hL] at hT hS hne hsz1 hsz2 h1
  rw [hX] at hS ⊢
  rw [hY] at hT hS ⊢
  have HT := Lib.hid hT
  have HS := Lib.hid (fun W => (hS W).mono fun _ _ h => And.intro h.1 h.2.symm)
  clear hT hS hsz hL hX hY hc hl hi hs
  go_enter Tryd.func62, Tryd.ntmps62
  go_wp2
  go_quiet ((go_at_call 83; exact Calls.quiet_of_same (HT.out _)))
  go_wp2_with (go_at_call 84; refine (HS.out _).mono ?_; rintro e w' ⟨rfl, rfl⟩)
  go_ret
  exact ⟨rfl, nq, rfl⟩

theorem scan_none (b : Nat) (w : World) (h1 : w.cell? ⟨b, 1, none⟩ = some (.string ⟨#[]⟩)) :
    Calls Tryd.prog 62 #[.pointer (some ⟨b, 0, none⟩)] w fun e w' => e = .returned (.bool false) ∧ w = w' := by
  go_enter Tryd.func62, Tryd.ntmps62
  go_wp2
  go_ret
  exact ⟨rfl, rfl⟩

theorem nil_app (X : ByteArray) : (⟨#[]⟩ : ByteArray) ++ X = X := by
  apply ByteArray.ext
  apply Array.toList_inj.1
  simp
theorem joinB_pos (ws : List ByteArray) (h : ws ≠ []) (hp : ∀ x ∈ ws, 0 < x.size) : 0 < (joinB ws).size := by
  obtain ⟨a, l, rfl⟩ : ∃ a l, ws = a :: l := by
    cases ws with
    | nil => exact absurd rfl h
    | cons a l => exact ⟨a, l, rfl⟩
  have ha := hp a (List.mem_cons_self ..)
  show 0 < (Lib.join ((a :: l).map (·.data.toList)) (ByteArray.mk #[32]).data.toList).toArray.size
  rw [List.size_toArray, List.map_cons, Lib.join_cons, List.length_append]
  have : a.data.toList.length = a.size := by simp
  omega
theorem wordR_pos (s : ByteArray) (i n : Nat) (h : i < s.size) : 0 < (wordR s i n).size := by
  unfold wordR
  rw [ByteArray.size_append]
  have : (s.extract i (i + 1)).size = 1 := by simp; omega
  omega
theorem runLen_is (s : ByteArray) (i n : Nat) (hi : i < s.size) (h2 : i + n ≤ s.size) (h : ∀ j, j < n → s.get! (i + j) = s.get! i) (h3 : i + n = s.size ∨ s.get! (i + n) ≠ s.get! i) : runLen s i = n :=
  runTo_is s (s.get! i) (s.size - i) i n (by omega) h (by rcases h3 with h3 | h3; exact Or.inl (by omega); exact Or.inr h3)

set_option maxHeartbeats 4000000 in
set_option maxRecDepth 100000 in
theorem l05Runs_any (s : ByteArray) (hs : s.size ≤ 1048576) (w : World) :
    Calls Tryd.prog 61 #[.string s] w fun e w' => e = .returned (.string (joinB (chops s 0))) ∧ Below w.heap.size w w' := by
  have HD := Lib.hid (fun (n : Nat) (hn : n ≤ 1048576) W => l01Dec_any (n : Int) (by omega) (by omega) W)
  go_enter Tryd.func61, Tryd.ntmps61
  go_wp2
  go_loopw [3, 4] (fun o v wr => ∃ i : Nat, ∃ ws : List ByteArray, i ≤ s.size ∧ v = .int .i64 i ∧ o = .string (joinB ws) ∧ Hid (ws ++ chops s i = chops s 0) ∧ Hid (∀ x ∈ ws, 0 < x.size) ∧ Hid ((joinB ws).size ≤ 64 * i) ∧ Hid (Below w.heap.size w wr)) (fun _ v _ => s.size - (intOf v).toNat)
  case atStart => exact ⟨0, [], Nat.zero_le _, rfl, rfl, rfl, (fun _ h => absurd h (by simp) : ∀ x ∈ ([] : List ByteArray), 0 < x.size), (Nat.le_refl _ : (joinB []).size ≤ 64 * 0), Below.refl _ _⟩
  case round =>
    obtain ⟨i, ws, hi, rfl, rfl, HC, HP, HZ, HB⟩ := hrel
    by_cases hlt : i < s.size
    · have hlt' : (i : Int) < (s.size : Int) := by omega
      have hi0 : (0 : Int) ≤ (i : Int) := Int.natCast_nonneg _
      have HOc : Hid ((ws = [] ∧ joinB ws = ⟨#[]⟩) ∨ (ws ≠ [] ∧ (joinB ws).toList.isEmpty = false)) := by
        by_cases hw : ws = []
        · exact Or.inl ⟨hw, by rw [hw]; rfl⟩
        · exact Or.inr ⟨hw, kr_nonempty (joinB_pos ws hw HP.out)⟩
      obtain ⟨O, hO⟩ : ∃ O, joinB ws = O := ⟨_, rfl⟩
      rw [hO] at HOc HZ ⊢
      have HO := Lib.hid hO
      clear hO
      go_wp2
      go_loopw [5] (fun v wx => ∃ n q : Nat, 1 ≤ n ∧ i + n ≤ s.size ∧ v = .int .i64 n ∧ wx = wr.drewN q ∧ Hid (∀ j, j < n → s.get! (i + j) = s.get! i)) (fun v _ => s.size - (intOf v).toNat)
      case atStart => exact ⟨1, 0, Nat.le_refl _, hlt, rfl, rfl, fun j hj => by
        obtain rfl : j = 0 := by omega
        rfl⟩
      case round =>
        obtain ⟨n, q, hn1, hn2, rfl, rfl, HA⟩ := hrel
        have hgi := byte_of s i hlt
        by_cases hin : i + n < s.size
        · have hin' : (i : Int) + (n : Int) < (s.size : Int) := by omega
          have hin0 : (0 : Int) ≤ (i : Int) + (n : Int) := by omega
          have hgn := byte_of s (i + n) hin
          obtain ⟨x, hx⟩ : ∃ x, (s[i]'hlt).toNat = x := ⟨_, rfl⟩
          obtain ⟨y, hy⟩ : ∃ y, (s[i + n]'hin).toNat = y := ⟨_, rfl⟩
          have hnat : ((i : Int) + (n : Int)).toNat = i + n := by omega
          by_cases hxy : y = x
          · have q1 : ((y : Int) == (x : Int)) = true := by rw [beq_iff_eq]; omega
            go_wp2
            go_quiet (fail)
            go_wp2
            refine ⟨⟨n + 1, q + nq, by omega, by omega, by go_num, rfl, fun j hj => ?_⟩, ?_⟩
            · by_cases e : j = n
              · subst e
                rw [hgn, hgi]
                exact UInt8.toNat_inj.1 (by omega)
              · exact HA.out j (by omega)
            · simp [intOf]; omega
          · have q1 : ((y : Int) == (x : Int)) = false := by rw [beq_eq_false_iff_ne]; omega
            go_wp2
            go_quiet (fail)
            have hrl : runLen s i = n := runLen_is s i n hlt hn2 HA.out (Or.inr (by rw [hgn, hgi]; intro e; exact hxy (by rw [← hx, ← hy, e])))
            have HC1 : Hid ((ws ++ [wordR s i n]) ++ chops s (i + n) = chops s 0) := by
              show _ = _
              rw [← HC.out, chops_step s i hlt, hrl, List.append_assoc]
              rfl
            have HP1 : Hid (∀ x ∈ ws ++ [wordR s i n], 0 < x.size) := fun x hx => by
              rcases List.mem_append.1 hx with hx | hx
              · exact HP.out x hx
              · rw [List.mem_singleton.1 hx]
                exact wordR_pos s i n hlt
            have HDn := Lib.hid (HD.out n (by omega))
            have HW : Hid (wordR s i n = s.extract i (i + 1) ++ ⟨(Lib.itoa (n : Int)).toArray⟩) := rfl
            have hz1 : i + 1 ≤ s.size := hlt
            have hi1 : ((i : Int) + 1).toNat = i + 1 := by omega
            have hwi : IntKind.i64.wrap ((i : Int) + 1) = (i : Int) + 1 := IntWalk.i64_in _ (by omega)
            have hi2 : (0 : Int) ≤ (i : Int) + 1 := by omega
            have hi3 : (i : Int) + 1 ≤ (s.size : Int) := by omega
            have hi4 : (i : Int) ≤ (i : Int) + 1 := by omega
            obtain ⟨D, hDD⟩ : ∃ D : ByteArray, (⟨(Lib.itoa (n : Int)).toArray⟩ : ByteArray) = D := ⟨_, rfl⟩
            have hDz : D.size ≤ 21 := by rw [← hDD]; show (Lib.itoa (n : Int)).toArray.size ≤ 21; rw [List.size_toArray]; exact Lib.itoa_length_le (n : Int) (by omega) (by omega)
            have hDn : ¬ 9223372036854775807 < 1 + D.size := by omega
            rw [hDD] at HDn HW
            have HJ1 : Hid ((joinB (ws ++ [wordR s i n])).size ≤ 64 * (i + n)) := by
              show _ ≤ _
              have he : (s.extract i (i + 1)).size = 1 := by simp; omega
              have hwz : (wordR s i n).size = 1 + D.size := by rw [HW.out, ByteArray.size_append, he]
              have hOz := HZ.out
              by_cases hw : ws = []
              · rw [hw, List.nil_append, joinB_one, hwz]
                omega
              · rw [joinB_snoc _ _ hw, ByteArray.size_append, ByteArray.size_append, hwz, HO.out]
                show O.size + 1 + (1 + D.size) ≤ _
                omega
            clear hDD hrl
            rcases HOc.out with ⟨hw, hO0⟩ | ⟨hw, hne⟩
            · subst hO0
              have HWW := Lib.hid hw
              clear hw
              have HBq : Hid (Below w.heap.size w (wr.drewN (q + nq + 1))) := below_drewN HB.out _
              go_wp2
              go_region_law ((go_simp; go_at_call 82; refine (HDn.out _).mono ?_; rintro e w9 ⟨rfl, hb9⟩; have HB9 := Lib.hid (below_step HBq.out hb9); clear hb9))
              all_goals
                go_wp2
                refine ⟨⟨i + n, ws ++ [wordR s i n], by omega, by go_num, ?_, HC1, HP1, HJ1, HB9.out⟩, ?_⟩
                · rw [HWW.out, List.nil_append, joinB_one, HW.out, nil_app]
                · simp [intOf]; omega
            · have HNe := Lib.hid hw
              have hOz := HZ.out
              have hq1 : ¬ 9223372036854775807 < O.size + 1 := by omega
              have hq2 : ¬ 9223372036854775807 < O.size + 1 + (1 + D.size) := by omega
              have HBq : Hid (Below w.heap.size w (wr.drewN (q + nq + 1))) := below_drewN HB.out _
              clear hw
              go_wp2
              go_region_law ((go_simp; go_at_call 82; refine (HDn.out _).mono ?_; rintro e w9 ⟨rfl, hb9⟩; have HB9 := Lib.hid (below_step HBq.out hb9); clear hb9))
              all_goals
                go_wp2
                refine ⟨⟨i + n, ws ++ [wordR s i n], by omega, by go_num, ?_, HC1, HP1, HJ1, HB9.out⟩, ?_⟩
                · rw [joinB_snoc _ _ HNe.out, HO.out, HW.out]
                · simp [intOf]; omega
        · have hin' : ¬ (i : Int) + (n : Int) < (s.size : Int) := by omega
          have hin2 : decide ((i : Int) + (n : Int) < (s.size : Int)) = false := decide_eq_false hin'
          go_wp2
          go_quiet (fail)
          have hrl : runLen s i = n := runLen_is s i n hlt hn2 HA.out (Or.inl (by omega))
          have HC1 : Hid ((ws ++ [wordR s i n]) ++ chops s (i + n) = chops s 0) := by
            show _ = _
            rw [← HC.out, chops_step s i hlt, hrl, List.append_assoc]
            rfl
          have HP1 : Hid (∀ x ∈ ws ++ [wordR s i n], 0 < x.size) := fun x hx => by
            rcases List.mem_append.1 hx with hx | hx
            · exact HP.out x hx
            · rw [List.mem_singleton.1 hx]
              exact wordR_pos s i n hlt
          have HDn := Lib.hid (HD.out n (by omega))
          have HW : Hid (wordR s i n = s.extract i (i + 1) ++ ⟨(Lib.itoa (n : Int)).toArray⟩) := rfl
          have hz1 : i + 1 ≤ s.size := hlt
          have hi1 : ((i : Int) + 1).toNat = i + 1 := by omega
          have hwi : IntKind.i64.wrap ((i : Int) + 1) = (i : Int) + 1 := IntWalk.i64_in _ (by omega)
          have hi2 : (0 : Int) ≤ (i : Int) + 1 := by omega
          have hi3 : (i : Int) + 1 ≤ (s.size : Int) := by omega
          have hi4 : (i : Int) ≤ (i : Int) + 1 := by omega
          obtain ⟨D, hDD⟩ : ∃ D : ByteArray, (⟨(Lib.itoa (n : Int)).toArray⟩ : ByteArray) = D := ⟨_, rfl⟩
          have hDz : D.size ≤ 21 := by rw [← hDD]; show (Lib.itoa (n : Int)).toArray.size ≤ 21; rw [List.size_toArray]; exact Lib.itoa_length_le (n : Int) (by omega) (by omega)
          have hDn : ¬ 9223372036854775807 < 1 + D.size := by omega
          rw [hDD] at HDn HW
          have HJ1 : Hid ((joinB (ws ++ [wordR s i n])).size ≤ 64 * (i + n)) := by
            show _ ≤ _
            have he : (s.extract i (i + 1)).size = 1 := by simp; omega
            have hwz : (wordR s i n).size = 1 + D.size := by rw [HW.out, ByteArray.size_append, he]
            have hOz := HZ.out
            by_cases hw : ws = []
            · rw [hw, List.nil_append, joinB_one, hwz]
              omega
            · rw [joinB_snoc _ _ hw, ByteArray.size_append, ByteArray.size_append, hwz, HO.out]
              show O.size + 1 + (1 + D.size) ≤ _
              omega
          clear hDD hrl
          rcases HOc.out with ⟨hw, hO0⟩ | ⟨hw, hne⟩
          · subst hO0
            have HWW := Lib.hid hw
            clear hw
            have HBq : Hid (Below w.heap.size w (wr.drewN (q + nq + 1))) := below_drewN HB.out _
            go_wp2
            go_region_law ((go_simp; go_at_call 82; refine (HDn.out _).mono ?_; rintro e w9 ⟨rfl, hb9⟩; have HB9 := Lib.hid (below_step HBq.out hb9); clear hb9))
            all_goals
              go_wp2
              refine ⟨⟨i + n, ws ++ [wordR s i n], by omega, by go_num, ?_, HC1, HP1, HJ1, HB9.out⟩, ?_⟩
              · rw [HWW.out, List.nil_append, joinB_one, HW.out, nil_app]
              · simp [intOf]; omega
          · have HNe := Lib.hid hw
            have hOz := HZ.out
            have hq1 : ¬ 9223372036854775807 < O.size + 1 := by omega
            have hq2 : ¬ 9223372036854775807 < O.size + 1 + (1 + D.size) := by omega
            have HBq : Hid (Below w.heap.size w (wr.drewN (q + nq + 1))) := below_drewN HB.out _
            clear hw
            go_wp2
            go_region_law ((go_simp; go_at_call 82; refine (HDn.out _).mono ?_; rintro e w9 ⟨rfl, hb9⟩; have HB9 := Lib.hid (below_step HBq.out hb9); clear hb9))
            all_goals
              go_wp2
              refine ⟨⟨i + n, ws ++ [wordR s i n], by omega, by go_num, ?_, HC1, HP1, HJ1, HB9.out⟩, ?_⟩
              · rw [joinB_snoc _ _ HNe.out, HO.out, HW.out]
              · simp [intOf]; omega
    · obtain rfl : i = s.size := by omega
      have hk1 : ¬ (s.size : Int) < (s.size : Int) := by omega
      have hws : ws = chops s 0 := by
        have := HC.out
        rwa [chops_end, List.append_nil] at this
      have HF := Lib.hid hws
      clear HC hws
      go_wp2
      go_ret
      exact ⟨congrArg (fun z => Ending.returned (.string (joinB z))) HF.out, HB.out⟩
end Go.Proofs.YtjlgfgekiekenaaDoor
