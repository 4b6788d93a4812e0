/- What spec.l03DrawText and spec.A2Text give: a text of legal characters; nothing but the source's block turns. Condition: at most 3000 bytes. -/
import Derived.Test.YtdakbbgbglgioaaDoorDraw
import Derived.Test.YtdakbbgbglgioaaDoorOrder
import Derived.Laws.BytesString
import Derived.Laws.IdiomStrings
namespace Go.Proofs.YtdakbbgbglgioaaDoor
open Go.ChangeShapes Go.WideShapes Go.ChangeAt Go.RowKit

theorem one_any (w : World) (B g k : Nat) (n : Int) (h : Src w B g k) (hk : k ≤ 1048000) (h1 : 1 ≤ n) (h2 : n ≤ 4096) :
    Calls Tryd.prog 65 #[.pointer (some ⟨g, 0, none⟩), .int .i64 n] w fun e w' => ∃ b : Bool, e = .returned (.bool b) ∧ w.grownBy w' (some g) ∧ Src w' B g (k + 2) := by
  have HP := Lib.hid (pick_any w B g k n h hk h1 h2)
  clear h
  go_enter Tryd.func65, Tryd.ntmps65
  go_wp2_with fail
  refine HP.out.mono ?_
  rintro e w1 ⟨r, rfl, hr0, hr1, hg, hs⟩
  have HG := Lib.hid hg
  have HS := Lib.hid hs
  clear hg hs HP
  go_wp2
  go_ret
  exact ⟨_, rfl, HG.out, HS.out⟩

theorem info_byteT : (Tryd.prog.info? 5).map (fun i => (i.zero, i.size, i.bytes)) = some (some (.int .u8 0), 1, 1) := by kernel_rfl

/-- bytes that are characters -/
def legalL (l : List Nat) : Prop := ∀ x ∈ l, ∃ k, k < 40 ∧ x = (orderL[k]?.getD 0).toNat
def byteVs (l : List Nat) : List Value := l.map fun (x : Nat) => Value.int .u8 ((x : Nat) : Int)
theorem legalL.add {l : List Nat} (h : legalL l) {m : Nat} (hm : ∃ k, k < 40 ∧ m = (orderL[k]?.getD 0).toNat) : legalL (l ++ [m]) := by
  intro x hx
  rcases List.mem_append.1 hx with h' | h'
  · exact h x h'
  · rw [List.mem_singleton.1 h']
    exact hm
def smallS : ByteArray := ⟨#[65, 66, 48, 49, 32, 74, 90]⟩
theorem small_all : ∀ i : Fin 7, ∃ k, k < 40 ∧ (smallS[i.val]'i.isLt).toNat = (orderL[k]?.getD 0).toNat := by
  intro i
  match i with
  | ⟨0, _⟩ => exact ⟨2, by decide, rfl⟩
  | ⟨1, _⟩ => exact ⟨3, by decide, rfl⟩
  | ⟨2, _⟩ => exact ⟨30, by decide, rfl⟩
  | ⟨3, _⟩ => exact ⟨31, by decide, rfl⟩
  | ⟨4, _⟩ => exact ⟨0, by decide, rfl⟩
  | ⟨5, _⟩ => exact ⟨12, by decide, rfl⟩
  | ⟨6, _⟩ => exact ⟨29, by decide, rfl⟩

theorem conv_text {w : World} {base : Nat} {v : Value} {l : List Nat} (h : w.ownsRow base 5 1 v l.length (byteVs l)) (hl : legalL l) :
    (convert 22 9 v).run Tryd.prog w = .ok (.string ⟨(l.map UInt8.ofNat).toArray⟩) w := by
  rcases h.2 with ⟨rfl, h0⟩ | ⟨g, cap, cur, rfl, hb, hh, _⟩
  · obtain rfl : l = [] := List.eq_nil_of_length_eq_zero h0
    rw [run_convert_bytes_string w _ _ _ none 0 0 Tryd.underlying22 Tryd.underlying5 Tryd.underlying9]
    rfl
  · have hlen : (l.map UInt8.ofNat).length = l.length := by simp
    have hb := run_convert_bytes_back (P := Tryd.prog) w 22 9 5 ⟨g, 0, none⟩ cap (l.map UInt8.ofNat) Tryd.underlying22 Tryd.underlying5 Tryd.underlying9 (fun j hj => by
      rw [hlen] at hj
      have hx : l[j]? = some (l[j]'hj) := List.getElem?_eq_getElem hj
      obtain ⟨k, hk, e⟩ := hl (l[j]'hj) (List.getElem_mem hj)
      have hc := h.cells (g := g) rfl j (.int .u8 ((l[j]'hj : Nat) : Int)) (by simp [byteVs, hx])
      rw [hc]
      have hlt : l[j]'hj < 256 := by rw [e]; exact (orderL[k]?.getD 0).toNat_lt
      simp only [List.getElem_map, UInt8.toNat_ofNat']
      congr 2
      omega)
    rw [hlen] at hb
    exact hb

/-- What a drawn text leaves. -/
def DrawsText (n B g K : Nat) (w : World) (e : Ending) (w' : World) : Prop :=
  ∃ l : List Nat, e = .returned (.string ⟨(l.map UInt8.ofNat).toArray⟩) ∧ l.length = n ∧ legalL l ∧ w.grownBy w' (some g) ∧ Src w' B g K

set_option maxRecDepth 100000 in
set_option maxHeartbeats 4000000 in
theorem l03DrawText_any (n B g k0 : Nat) (w : World) (h : Src w B g k0) (hn : n ≤ 64) (hk : k0 ≤ 100000) :
    Calls Tryd.prog 67 #[.pointer (some ⟨g, 0, none⟩), .int .i64 n] w (DrawsText n B g (k0 + 8 * n) w) := by
  obtain ⟨i0, hi0, hz0, hz1, hz2⟩ := info_parts info_byteT
  have hglt := h.lt
  have H := Lib.hid h
  clear h
  go_enter Tryd.func67, Tryd.ntmps67
  go_wp2_with fail
  refine (l03Order_any _).mono ?_
  rintro e w' ⟨rfl, rfl⟩
  obtain ⟨os, eos⟩ : ∃ os, orderS = os := ⟨_, rfl⟩
  rw [eos]
  go_wp2
  go_loopw [6, 7] (fun o i wr => ∃ j : Nat, ∃ l : List Nat, ∃ v : Value, j ≤ n ∧ Hid (l.length = j) ∧ i = .int .i64 j ∧ v = o ∧ Hid (legalL l) ∧ Hid (w.grownBy wr (some g)) ∧ Hid (Src wr B g (k0 + 8 * j)) ∧ Hid (wr.ownsRow w.heap.size 5 1 v l.length (byteVs l))) (fun _ i _ => n - (intOf i).toNat)
  case atStart =>
    refine ⟨0, [], _, Nat.zero_le _, rfl, rfl, rfl, (fun x hx => by cases hx), only_box w _ g, H.out.boxed _, ?_⟩
    exact ⟨rfl, Or.inr ⟨w.heap.size, 0, #[], rfl, Nat.le_refl _, heap_alloc_new w _, Nat.le_refl _, Nat.zero_le _, rfl, rfl⟩⟩
  case round =>
    obtain ⟨j, l, v, hj, HL, rfl, rfl, HM, HG, HS, HO⟩ := hrel
    by_cases hlt : j < n
    · have hk1 : (j : Int) < (n : Int) := by omega
      have HP := Lib.hid (one_any wr B g (k0 + 8 * j) 3 HS.out (by omega) (by omega) (by omega))
      go_wp2_with fail
      refine HP.out.mono ?_
      rintro e w1 ⟨b, rfl, hg, hs⟩
      have HG1 := Lib.hid (only_step HG.out hg)
      have HO1 := Lib.hid (own_only HO.out hg (by omega))
      have HS1 := Lib.hid hs
      clear hg hs HP HG HO HS
      have hw0 : w.heap.size ≤ w1.heap.size := HG1.out.size
      cases b
      · have HP := Lib.hid (pick_any w1 B g (k0 + 8 * j + 2) 7 HS1.out (by omega) (by omega) (by omega))
        go_wp2_with fail
        refine HP.out.mono ?_
        rintro e w2 ⟨r, rfl, hr0, hr1, hg, hs⟩
        have HG2 := Lib.hid (only_step HG1.out hg)
        have HO2 := Lib.hid (own_only HO1.out hg (by omega))
        have HS2 := Lib.hid hs
        have hw2 : w.heap.size ≤ w2.heap.size := HG2.out.size
        clear hg hs HP HG1 HO1 HS1
        have hr : r = 0 ∨ r = 1 ∨ r = 2 ∨ r = 3 ∨ r = 4 ∨ r = 5 ∨ r = 6 := by omega
        rcases hr with rfl | rfl | rfl | rfl | rfl | rfl | rfl
        · go_wp2_with (at_builtin; refine wpList_append_own _ rfl _ _ 22 rfl w.heap.size 5 i0 (.int .u8 0) 1 1 Tryd.underlying22 hi0 hz0 hz1 hz2 rfl (by decide) _ _ _ rfl (HO2.out.alloc _) ⟨w2.heap.size, 0, none⟩ 1 1 [.int .u8 (65)] rfl rfl ?c1 ?c2 ?c3 ?c4 ?c5 ?_; rotate_left 5; intro v' w9 hown hgrow _; have HG9 := Lib.hid (only_append HG2.out hgrow HO2.out (Nat.le_refl _)); have HS9 := Lib.hid (HS2.out.keep (fun i hi => append_block hgrow HO2.out (by omega) (by omega))); have HO9 := Lib.hid hown; clear hown hgrow)
          case c1 =>
            intro j u hj
            match j, hj with
            | 0, hj => simp at hj; subst hj; simp [Addr.add] <;> rfl
          case c2 => intro u hu; simp at hu; subst hu; rfl
          case c3 => have := HL.out; unfold maxLen; omega
          case c4 => have := HL.out; omega
          case c5 => first | omega | (simp; omega)
          go_roundw
          case rel =>
            refine ⟨j + 1, l ++ [65], v', by omega, by have := HL.out; show _ = _; simp; omega, by go_num, rfl, HM.out.add ⟨2, by decide, rfl⟩, HG9.out, HS9.out.more (by omega), ?_⟩
            have := HO9.out
            simpa [Hid, byteVs] using this
          case measure => simp [intOf]; omega
        · go_wp2_with (at_builtin; refine wpList_append_own _ rfl _ _ 22 rfl w.heap.size 5 i0 (.int .u8 0) 1 1 Tryd.underlying22 hi0 hz0 hz1 hz2 rfl (by decide) _ _ _ rfl (HO2.out.alloc _) ⟨w2.heap.size, 0, none⟩ 1 1 [.int .u8 (66)] rfl rfl ?c1 ?c2 ?c3 ?c4 ?c5 ?_; rotate_left 5; intro v' w9 hown hgrow _; have HG9 := Lib.hid (only_append HG2.out hgrow HO2.out (Nat.le_refl _)); have HS9 := Lib.hid (HS2.out.keep (fun i hi => append_block hgrow HO2.out (by omega) (by omega))); have HO9 := Lib.hid hown; clear hown hgrow)
          case c1 =>
            intro j u hj
            match j, hj with
            | 0, hj => simp at hj; subst hj; simp [Addr.add] <;> rfl
          case c2 => intro u hu; simp at hu; subst hu; rfl
          case c3 => have := HL.out; unfold maxLen; omega
          case c4 => have := HL.out; omega
          case c5 => first | omega | (simp; omega)
          go_roundw
          case rel =>
            refine ⟨j + 1, l ++ [66], v', by omega, by have := HL.out; show _ = _; simp; omega, by go_num, rfl, HM.out.add ⟨3, by decide, rfl⟩, HG9.out, HS9.out.more (by omega), ?_⟩
            have := HO9.out
            simpa [Hid, byteVs] using this
          case measure => simp [intOf]; omega
        · go_wp2_with (at_builtin; refine wpList_append_own _ rfl _ _ 22 rfl w.heap.size 5 i0 (.int .u8 0) 1 1 Tryd.underlying22 hi0 hz0 hz1 hz2 rfl (by decide) _ _ _ rfl (HO2.out.alloc _) ⟨w2.heap.size, 0, none⟩ 1 1 [.int .u8 (48)] rfl rfl ?c1 ?c2 ?c3 ?c4 ?c5 ?_; rotate_left 5; intro v' w9 hown hgrow _; have HG9 := Lib.hid (only_append HG2.out hgrow HO2.out (Nat.le_refl _)); have HS9 := Lib.hid (HS2.out.keep (fun i hi => append_block hgrow HO2.out (by omega) (by omega))); have HO9 := Lib.hid hown; clear hown hgrow)
          case c1 =>
            intro j u hj
            match j, hj with
            | 0, hj => simp at hj; subst hj; simp [Addr.add] <;> rfl
          case c2 => intro u hu; simp at hu; subst hu; rfl
          case c3 => have := HL.out; unfold maxLen; omega
          case c4 => have := HL.out; omega
          case c5 => first | omega | (simp; omega)
          go_roundw
          case rel =>
            refine ⟨j + 1, l ++ [48], v', by omega, by have := HL.out; show _ = _; simp; omega, by go_num, rfl, HM.out.add ⟨30, by decide, rfl⟩, HG9.out, HS9.out.more (by omega), ?_⟩
            have := HO9.out
            simpa [Hid, byteVs] using this
          case measure => simp [intOf]; omega
        · go_wp2_with (at_builtin; refine wpList_append_own _ rfl _ _ 22 rfl w.heap.size 5 i0 (.int .u8 0) 1 1 Tryd.underlying22 hi0 hz0 hz1 hz2 rfl (by decide) _ _ _ rfl (HO2.out.alloc _) ⟨w2.heap.size, 0, none⟩ 1 1 [.int .u8 (49)] rfl rfl ?c1 ?c2 ?c3 ?c4 ?c5 ?_; rotate_left 5; intro v' w9 hown hgrow _; have HG9 := Lib.hid (only_append HG2.out hgrow HO2.out (Nat.le_refl _)); have HS9 := Lib.hid (HS2.out.keep (fun i hi => append_block hgrow HO2.out (by omega) (by omega))); have HO9 := Lib.hid hown; clear hown hgrow)
          case c1 =>
            intro j u hj
            match j, hj with
            | 0, hj => simp at hj; subst hj; simp [Addr.add] <;> rfl
          case c2 => intro u hu; simp at hu; subst hu; rfl
          case c3 => have := HL.out; unfold maxLen; omega
          case c4 => have := HL.out; omega
          case c5 => first | omega | (simp; omega)
          go_roundw
          case rel =>
            refine ⟨j + 1, l ++ [49], v', by omega, by have := HL.out; show _ = _; simp; omega, by go_num, rfl, HM.out.add ⟨31, by decide, rfl⟩, HG9.out, HS9.out.more (by omega), ?_⟩
            have := HO9.out
            simpa [Hid, byteVs] using this
          case measure => simp [intOf]; omega
        · go_wp2_with (at_builtin; refine wpList_append_own _ rfl _ _ 22 rfl w.heap.size 5 i0 (.int .u8 0) 1 1 Tryd.underlying22 hi0 hz0 hz1 hz2 rfl (by decide) _ _ _ rfl (HO2.out.alloc _) ⟨w2.heap.size, 0, none⟩ 1 1 [.int .u8 (32)] rfl rfl ?c1 ?c2 ?c3 ?c4 ?c5 ?_; rotate_left 5; intro v' w9 hown hgrow _; have HG9 := Lib.hid (only_append HG2.out hgrow HO2.out (Nat.le_refl _)); have HS9 := Lib.hid (HS2.out.keep (fun i hi => append_block hgrow HO2.out (by omega) (by omega))); have HO9 := Lib.hid hown; clear hown hgrow)
          case c1 =>
            intro j u hj
            match j, hj with
            | 0, hj => simp at hj; subst hj; simp [Addr.add] <;> rfl
          case c2 => intro u hu; simp at hu; subst hu; rfl
          case c3 => have := HL.out; unfold maxLen; omega
          case c4 => have := HL.out; omega
          case c5 => first | omega | (simp; omega)
          go_roundw
          case rel =>
            refine ⟨j + 1, l ++ [32], v', by omega, by have := HL.out; show _ = _; simp; omega, by go_num, rfl, HM.out.add ⟨0, by decide, rfl⟩, HG9.out, HS9.out.more (by omega), ?_⟩
            have := HO9.out
            simpa [Hid, byteVs] using this
          case measure => simp [intOf]; omega
        · go_wp2_with (at_builtin; refine wpList_append_own _ rfl _ _ 22 rfl w.heap.size 5 i0 (.int .u8 0) 1 1 Tryd.underlying22 hi0 hz0 hz1 hz2 rfl (by decide) _ _ _ rfl (HO2.out.alloc _) ⟨w2.heap.size, 0, none⟩ 1 1 [.int .u8 (74)] rfl rfl ?c1 ?c2 ?c3 ?c4 ?c5 ?_; rotate_left 5; intro v' w9 hown hgrow _; have HG9 := Lib.hid (only_append HG2.out hgrow HO2.out (Nat.le_refl _)); have HS9 := Lib.hid (HS2.out.keep (fun i hi => append_block hgrow HO2.out (by omega) (by omega))); have HO9 := Lib.hid hown; clear hown hgrow)
          case c1 =>
            intro j u hj
            match j, hj with
            | 0, hj => simp at hj; subst hj; simp [Addr.add] <;> rfl
          case c2 => intro u hu; simp at hu; subst hu; rfl
          case c3 => have := HL.out; unfold maxLen; omega
          case c4 => have := HL.out; omega
          case c5 => first | omega | (simp; omega)
          go_roundw
          case rel =>
            refine ⟨j + 1, l ++ [74], v', by omega, by have := HL.out; show _ = _; simp; omega, by go_num, rfl, HM.out.add ⟨12, by decide, rfl⟩, HG9.out, HS9.out.more (by omega), ?_⟩
            have := HO9.out
            simpa [Hid, byteVs] using this
          case measure => simp [intOf]; omega
        · go_wp2_with (at_builtin; refine wpList_append_own _ rfl _ _ 22 rfl w.heap.size 5 i0 (.int .u8 0) 1 1 Tryd.underlying22 hi0 hz0 hz1 hz2 rfl (by decide) _ _ _ rfl (HO2.out.alloc _) ⟨w2.heap.size, 0, none⟩ 1 1 [.int .u8 (90)] rfl rfl ?c1 ?c2 ?c3 ?c4 ?c5 ?_; rotate_left 5; intro v' w9 hown hgrow _; have HG9 := Lib.hid (only_append HG2.out hgrow HO2.out (Nat.le_refl _)); have HS9 := Lib.hid (HS2.out.keep (fun i hi => append_block hgrow HO2.out (by omega) (by omega))); have HO9 := Lib.hid hown; clear hown hgrow)
          case c1 =>
            intro j u hj
            match j, hj with
            | 0, hj => simp at hj; subst hj; simp [Addr.add] <;> rfl
          case c2 => intro u hu; simp at hu; subst hu; rfl
          case c3 => have := HL.out; unfold maxLen; omega
          case c4 => have := HL.out; omega
          case c5 => first | omega | (simp; omega)
          go_roundw
          case rel =>
            refine ⟨j + 1, l ++ [90], v', by omega, by have := HL.out; show _ = _; simp; omega, by go_num, rfl, HM.out.add ⟨29, by decide, rfl⟩, HG9.out, HS9.out.more (by omega), ?_⟩
            have := HO9.out
            simpa [Hid, byteVs] using this
          case measure => simp [intOf]; omega
      · have HP := Lib.hid (pick_any w1 B g (k0 + 8 * j + 2) 40 HS1.out (by omega) (by omega) (by omega))
        have hsz : os.size = 40 := by rw [← eos]; rfl
        have hsz' : (os.size : Int) = 40 := by omega
        have HQ : Hid (∀ (q : Nat) (h : q < os.size), ∃ k, k < 40 ∧ (os[q]'h).toNat = (orderL[k]?.getD 0).toNat) := by
          intro q h
          refine ⟨q, by omega, ?_⟩
          subst eos
          have h' : q < orderL.length := h
          rw [List.getElem?_eq_getElem h']
          rfl
        clear eos
        go_wp2_with fail
        refine HP.out.mono ?_
        rintro e w2 ⟨r, rfl, hr0, hr1, hg, hs⟩
        have HG2 := Lib.hid (only_step HG1.out hg)
        have HO2 := Lib.hid (own_only HO1.out hg (by omega))
        have HS2 := Lib.hid hs
        have hw2 : w.heap.size ≤ w2.heap.size := HG2.out.size
        clear hg hs HP HG1 HO1 HS1
        obtain ⟨q, rfl⟩ : ∃ q : Nat, r = q := ⟨r.toNat, by omega⟩
        have hq : q < os.size := by omega
        have hqi : (q : Int) < (os.size : Int) := by omega
        obtain ⟨kk, hk40, hkk⟩ := HQ.out q hq
        obtain ⟨m, hm⟩ : ∃ m : Nat, (os[q]'hq).toNat = m := ⟨_, rfl⟩
        have hmi : ((os[q]'hq).toNat : Int) = m := by rw [hm]
        have HK : Hid (m = (orderL[kk]?.getD 0).toNat) := hm.symm.trans hkk
        clear hkk hm HQ
        go_wp2_with (at_builtin; refine wpList_append_own _ rfl _ _ 22 rfl w.heap.size 5 i0 (.int .u8 0) 1 1 Tryd.underlying22 hi0 hz0 hz1 hz2 rfl (by decide) _ _ _ rfl (HO2.out.alloc _) ⟨w2.heap.size, 0, none⟩ 1 1 [.int .u8 (m)] rfl rfl ?c1 ?c2 ?c3 ?c4 ?c5 ?_; rotate_left 5; intro v' w9 hown hgrow _; have HG9 := Lib.hid (only_append HG2.out hgrow HO2.out (Nat.le_refl _)); have HS9 := Lib.hid (HS2.out.keep (fun i hi => append_block hgrow HO2.out (by omega) (by omega))); have HO9 := Lib.hid hown; clear hown hgrow)
        case c1 =>
          intro j u hj
          match j, hj with
          | 0, hj => simp at hj; subst hj; simp [Addr.add]
        case c2 => intro u hu; simp at hu; subst hu; rfl
        case c3 => have := HL.out; unfold maxLen; omega
        case c4 => have := HL.out; omega
        case c5 => first | omega | (simp; omega)
        go_roundw
        case rel =>
          refine ⟨j + 1, l ++ [m], v', by omega, by have := HL.out; show _ = _; simp; omega, by go_num, rfl, HM.out.add ⟨kk, hk40, HK.out⟩, HG9.out, HS9.out.more (by omega), ?_⟩
          have := HO9.out
          simpa [Hid, byteVs] using this
        case measure => simp [intOf]; omega
    · have hjn : j = n := by omega
      have hk1 : ¬ (j : Int) < (n : Int) := by omega
      have hcv := conv_text HO.out HM.out
      have HD : Hid (DrawsText n B g (k0 + 8 * n) w (.returned (.string ⟨(l.map UInt8.ofNat).toArray⟩)) wr) := ⟨l, rfl, HL.out.trans hjn, HM.out, HG.out, HS.out.more (by omega)⟩
      clear hjn
      go_wp2
      go_ret
      exact HD.out

end Go.Proofs.YtdakbbgbglgioaaDoor