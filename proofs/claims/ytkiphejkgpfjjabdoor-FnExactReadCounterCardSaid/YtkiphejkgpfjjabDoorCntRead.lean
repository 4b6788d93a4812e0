/- spec.ReadCounter and impl.ReadCounter give the counter with a text, for every text of at most 1048576 bytes: contracts. Condition: the two errors lie in their variables. -/
import Derived.Test.YtkiphejkgpfjjabDoorCntDial
import Derived.Test.YtkiphejkgpfjjabDoorCntCompl
namespace Go.Proofs.YtkiphejkgpfjjabDoor
open Go.ChangeShapes Go.WideShapes Go.ChangeAt Go.RowKit

/-- whether a text is that of a counter -/
def readB (s : ByteArray) : Bool := digsTo s s.size && inB s.size 1 12
def readA (s : ByteArray) : List Int := if readB s = true then textD s else []
theorem readA_length (s : ByteArray) (h : s.size ≤ 1048576) : (readA s).length ≤ 1048576 := by
  unfold readA
  split
  · rw [textD_length]; exact h
  · simp
theorem textD_bad {s : ByteArray} (h : digsTo s s.size = false) : wheelsB (textD s) = false := by
  rw [digsTo, List.all_eq_false] at h
  obtain ⟨k, hk, hc⟩ := h
  have hk' : k < s.size := by simpa using hk
  refine wheelsB_bad (textD s) (s.size - 1 - k) (by rw [textD_length]; omega) ?_
  rw [textD_at s _ (by omega), Option.getD_some, show s.size - 1 - (s.size - 1 - k) = k by omega]
  simp only [digC, Bool.and_eq_true, decide_eq_true_eq, not_and] at hc
  simp only [digB, inB, Bool.and_eq_false_iff, decide_eq_false_iff_not]
  omega
theorem textD_ok (s : ByteArray) : okK (textD s) = readB s := by
  unfold okK readB
  rw [textD_length]
  cases h : digsTo s s.size
  · rw [textD_bad h]
  · rw [textD_wheels h]
theorem textD_take {s : ByteArray} {t : Nat} (h : t < s.size) : (textD s).take (t + 1) = (textD s).take t ++ [((s.get! (s.size - 1 - t)).toNat : Int) - 48] := by
  have ht : t < (textD s).length := by rw [textD_length]; exact h
  rw [List.take_succ_eq_append_getElem ht]
  have := textD_at s t h
  rw [List.getElem?_eq_getElem ht] at this
  rw [Option.some.inj this]

/-- a counter of one's own and a truth -/
def GivesKO (L : List Int) (u : Bool) (w : World) (e : Ending) (w' : World) : Prop :=
  ∃ A cap, e = .returned (.tuple #[.agg #[.slice A L.length cap], .bool u]) ∧ Below w.heap.size w w' ∧ IAt w' w.heap.size w'.heap.size A L

set_option maxRecDepth 100000 in
set_option maxHeartbeats 2000000 in
theorem specRead_any (s : ByteArray) (hs : s.size ≤ 1048576) (w : World) :
    Calls Tryd.prog 5 #[.string s] w (GivesKO (readA s) (readB s) w) := by
  obtain ⟨i0, hi0, hz0, hz1, hz2⟩ := info_parts info_int
  have e2 := below_boxed (below_box w (.cells #[.slice none 0 0] 24)) (.cells #[.slice none 0 0] 24)
  have r0 : ((w.alloc (.cells #[.slice none 0 0] 24)).alloc (.cells #[.slice none 0 0] 24)).cell? ⟨w.heap.size, 0, none⟩ = some (.slice none 0 0) := by simp [go_sem]
  have g0 : ((w.alloc (.cells #[.slice none 0 0] 24)).alloc (.cells #[.slice none 0 0] 24)).frozen? ⟨w.heap.size, 0, none⟩ = false := by simp [go_sem]
  have o0 : Out ((w.alloc (.cells #[.slice none 0 0] 24)).alloc (.cells #[.slice none 0 0] 24)) ((w.alloc (.cells #[.slice none 0 0] 24)).alloc (.cells #[.slice none 0 0] 24)) (w.heap.size + 1) [] (.slice none 0 0) := Out.start (by simp [go_sem]) (by simp [go_sem])
  have hsz : ((w.alloc (.cells #[.slice none 0 0] 24)).alloc (.cells #[.slice none 0 0] 24)).heap.size = w.heap.size + 2 := by simp
  have hok := fun (A : Option Addr) (c B : Nat) (W : World) (hp : W.cell? ⟨w.heap.size + 1, 0, none⟩ = some (.slice A (textD s).length c)) (h : Ints W B A (textD s)) => l11Ok_any A c (textD s) B (w.heap.size + 1) 0 W hp h (by rw [textD_length]; exact hs)
  rw [textD_ok, textD_length] at hok
  have E2 := Lib.hid e2
  have R0 := Lib.hid r0
  have G0 := Lib.hid g0
  have O0 := Lib.hid o0
  have HSZ := Lib.hid hsz
  have HOK := Lib.hid hok
  have w0 : IntKind.i64.wrap ((s.size : Int) - 1) = (s.size : Int) - 1 := IntWalk.i64_in _ (by omega)
  have HTL := Lib.hid (textD_length s)
  clear e2 r0 g0 o0 hsz hok
  go_enter Tryd.func5, Tryd.ntmps5
  go_wp2
  clear w0
  generalize ((w.alloc (.cells #[.slice none 0 0] 24)).alloc (.cells #[.slice none 0 0] 24)) = w3 at *
  go_loopw [5] (fun i wr => ∃ (t : Nat) (v : Value), t ≤ s.size ∧ i = .int .i64 ((s.size : Int) - 1 - t) ∧ Hid (Out w3 wr (w.heap.size + 1) ((textD s).take t) v)) (fun i _ => (intOf i + 1).toNat)
  case atStart => exact ⟨0, _, Nat.zero_le _, by simp, O0.out⟩
  case round =>
    obtain ⟨t, v, ht, rfl, HO⟩ := hrel
    have hlen : ((textD s).take t).length = t := by rw [List.length_take, HTL.out]; omega
    by_cases hlt : t < s.size
    · obtain ⟨k, hk⟩ : ∃ k : Nat, s.size - 1 - t = k := ⟨_, rfl⟩
      have hks : k < s.size := by omega
      have hki : (s.size : Int) - 1 - (t : Int) = (k : Int) := by omega
      have hst := textD_take hlt
      have hge := byte_get s k hks
      rw [hk, hge] at hst
      obtain ⟨c, hc⟩ : ∃ c : Nat, (s[k]'hks).toNat = c := ⟨_, rfl⟩
      have hc255 : c ≤ 255 := by have := (s[k]'hks).toNat_lt; omega
      have hci : ((s[k]'hks).toNat : Int) = c := by rw [hc]
      rw [hc] at hst
      obtain ⟨y, hy⟩ : ∃ y, (c : Int) - 48 = y := ⟨_, rfl⟩
      rw [hy] at hst
      have w1 : IntKind.i64.wrap (c : Int) = (c : Int) := IntWalk.i64_in _ (by omega)
      have w2 : IntKind.i64.wrap ((c : Int) - 48) = y := by rw [hy]; exact IntWalk.i64_in _ (by omega)
      have w5 : IntKind.i64.wrap ((k : Int) - 1) = (k : Int) - 1 := IntWalk.i64_in _ (by omega)
      have HST := Lib.hid hst
      have b0 := HO.out.box
      have f0 := HO.out.fz
      have HOD := Lib.hid HO.out.drew
      have HOW := HO.out.own
      rw [hlen] at HOW
      have HOWN := Lib.hid HOW
      have HLEN := Lib.hid hlen
      have hl3 : Hid (w3.heap.size ≤ (wr.alloc (.cells #[.int .i64 y] 2)).heap.size) := by show _ ≤ _; have := HO.out.size; simp; omega
      have h63 : t + 1 ≤ maxLen := by unfold maxLen; omega
      have h8 : (t + 1) * 8 ≤ 140737488355328 := by omega
      have ba := cell_kept b0 (below_box wr (.cells #[.int .i64 y] 2))
      have j0 : (0 : Int) ≤ (k : Int) := Int.natCast_nonneg _
      have j1 : (k : Int) < (s.size : Int) := by omega
      have HKT : Hid ((k : Int) - 1 = (s.size : Int) - 1 - ((t + 1 : Nat) : Int)) := by show _ = _; omega
      rw [hki]
      clear hst hlen HOW hk hc hge hy hki hc255
      go_wp2
      go_region_law (first
        | (refine step_append_own _ rfl _ _ 22 rfl w3.heap.size 2 i0 (.int .i64 0) 1 8 Tryd.underlying22 hi0 hz0 hz1 hz2 rfl (by decide) _ _ _ rfl (own_drew (HOWN.out.alloc _)) ⟨wr.heap.size, 0, none⟩ 1 1 [.int .i64 y] rfl rfl (one_news _ y) (one_cell y) h63 h8 hl3.out ?_; intro v' w9 hown hgrow' _; obtain ⟨gq, cq, rfl⟩ := int_shape hown (Nat.succ_pos _); have hgrow : (wr.drew.alloc (.cells #[.int .i64 y] 2)).grownBy w9 v.ownBlock := hgrow'; obtain ⟨hm, b9, f9⟩ := HOD.out.more (x := y) (by rw [HLEN.out]; exact hown) hgrow; have HM := Lib.hid hm; clear hown hgrow hgrow' hm))
      all_goals
        go_wp2
        go_roundw
        case rel => exact ⟨t + 1, _, by omega, by rw [HKT.out], by show Out _ _ _ _ _; rw [HST.out]; exact HM.out⟩
        case measure => first | (simp [intOf]; done) | (simp [intOf]; omega)
    · obtain rfl : t = s.size := by omega
      have hl0 : (textD s).take s.size = textD s := List.take_of_length_le (by rw [HTL.out]; exact Nat.le_refl _)
      have hki : (s.size : Int) - 1 - (s.size : Int) = -1 := by omega
      have ho := HO.out
      rw [hl0] at ho
      have r1 := HO.out.cell R0.out (by show w.heap.size ≠ w.heap.size + 1; omega)
      have f1 := HO.out.frozen R0.out G0.out (by show w.heap.size ≠ w.heap.size + 1; omega)
      have BB := Lib.hid (HO.out.below E2.out (by omega))
      have b0 := HO.out.box
      rw [hki]
      rcases Nat.eq_zero_or_pos s.size with hz | hpos
      · -- no text
        have hrb : readB s = false := by simp [readB, inB, hz]
        have hra : readA s = [] := by simp [readA, hrb]
        have hv0 : v = .slice none 0 0 ∨ ∃ A c, v = .slice A 0 c := by
          rcases ho.own.2 with ⟨h1, _⟩ | ⟨g, cap, cur, h1, _⟩
          · exact Or.inl h1
          · rw [HTL.out, hz] at h1
            exact Or.inr ⟨_, _, h1⟩
        obtain ⟨A, c, rfl⟩ : ∃ A c, v = .slice A 0 c := by
          rcases hv0 with h | h
          · exact ⟨none, 0, h⟩
          · exact h
        have hnil : Ints wr wr.heap.size A (textD s) := fun h => by rw [HTL.out, hz] at h; cases h
        have hok1 := HOK.out A c wr.heap.size wr (by rw [hz]; exact b0) hnil
        rw [hrb] at hok1
        have HO1 := Lib.hid hok1
        have HRA := Lib.hid hra
        have HRB := Lib.hid hrb
        clear ho hl0 hlen hok1 hnil hv0 hra hrb hki
        go_wp2_with (go_at_call 21; refine HO1.out.mono ?_; rintro e w9 ⟨rfl, rfl⟩)
        refine bodyPost_ret (v := .tuple #[.agg #[.slice none 0 0], .bool false]) (by simp [results, Tryd.results5, go_sem, r1]) rfl ⟨none, 0, by rw [HRA.out, HRB.out]; rfl, BB.out.setCell (by show w.heap.size ≤ w.heap.size; omega) _, ?_⟩
        rw [HRA.out]
        exact IAt.nil (Nat.le_refl _)
      · obtain ⟨g, cap, ex, hv, hg, hr⟩ := ho.row (by rw [HTL.out]; exact hpos)
        rw [HTL.out] at hv
        subst hv
        have hok1 := HOK.out (some ⟨g, 0, none⟩) cap (g + 1) wr b0 hr.ints
        have HR := Lib.hid hr
        have hg3 : w.heap.size + 2 ≤ g := by have := HSZ.out; omega
        cases hrb : readB s
        · have hra : readA s = [] := by simp [readA, hrb]
          rw [hrb] at hok1
          have HO1 := Lib.hid hok1
          have HRA := Lib.hid hra
          have HRB := Lib.hid hrb
          clear ho hl0 hlen hok1 hra hrb hki hr hg
          go_wp2_with (go_at_call 21; refine HO1.out.mono ?_; rintro e w9 ⟨rfl, rfl⟩)
          refine bodyPost_ret (v := .tuple #[.agg #[.slice none 0 0], .bool false]) (by simp [results, Tryd.results5, go_sem, r1]) rfl ⟨none, 0, by rw [HRA.out, HRB.out]; rfl, BB.out.setCell (by show w.heap.size ≤ w.heap.size; omega) _, ?_⟩
          rw [HRA.out]
          exact IAt.nil (Nat.le_refl _)
        · have hra : readA s = textD s := by simp [readA, hrb]
          rw [hrb] at hok1
          have HO1 := Lib.hid hok1
          have HRA := Lib.hid hra
          have HRB := Lib.hid hrb
          clear ho hl0 hlen hok1 hra hrb hki hr hg
          go_wp2_with (go_at_call 21; refine HO1.out.mono ?_; rintro e w9 ⟨rfl, rfl⟩)
          refine bodyPost_ret (v := .tuple #[.agg #[.slice (some ⟨g, 0, none⟩) s.size cap], .bool true]) (by simp [results, Tryd.results5, go_sem, r1]) rfl ⟨some ⟨g, 0, none⟩, cap, by rw [HRA.out, HTL.out, HRB.out], BB.out.setCell (by show w.heap.size ≤ w.heap.size; omega) _, ?_⟩
          rw [HRA.out]
          exact GivesK1.kc (cap := cap) (by omega) (HR.out.far (by simp; omega) _)

set_option maxRecDepth 100000 in
set_option maxHeartbeats 2000000 in
theorem implRead_any (s : ByteArray) (hs : s.size ≤ 1048576) (aW aS : Addr) (w : World) (hD : DialErrs w aW aS) :
    Calls Tryd.prog 6 #[.string s] w (GivesKO (readA s) (readB s) w) := by
  have e1 := below_box w (.cells #[.slice none 0 0] 24)
  have r0 : (w.alloc (.cells #[.slice none 0 0] 24)).cell? ⟨w.heap.size, 0, none⟩ = some (.slice none 0 0) := by simp [go_sem]
  have g0 : (w.alloc (.cells #[.slice none 0 0] 24)).frozen? ⟨w.heap.size, 0, none⟩ = false := by simp [go_sem]
  have hd := dial_any s.size s hs aW aS _ (hD.below e1)
  have hz : (regV (reg12 []) 0) = #[Value.int .i8 0, Value.int .i8 0, Value.int .i8 0, Value.int .i8 0, Value.int .i8 0, Value.int .i8 0, Value.int .i8 0, Value.int .i8 0, Value.int .i8 0, Value.int .i8 0, Value.int .i8 0, Value.int .i8 0, Value.int .i64 0] := regV_zero 0
  have E1 := Lib.hid e1
  have R0 := Lib.hid r0
  have G0 := Lib.hid g0
  have HDL := Lib.hid hd
  cases hrb : readB s
  · have hra : readA s = [] := by simp [readA, hrb]
    have hk : dialK s.size s = 1 := by
      unfold readB at hrb
      unfold dialK
      cases h1 : inB (s.size : Int) 1 12
      · simp
      · cases h2 : digsTo s s.size
        · simp
        · rw [h1, h2] at hrb; cases hrb
    have HK := Lib.hid hk
    have HZ := Lib.hid hz
    rw [hra]
    clear hra hrb hk hd e1 r0 g0 hz
    go_enter Tryd.func6, Tryd.ntmps6
    go_wp2_with fail
    refine HDL.out.mono ?_
    rintro e w1 ⟨hb, h⟩
    obtain ⟨a, rfl⟩ : ∃ a, e = .returned (.tuple #[.agg (regV (reg12 []) 0), .iface 119 (.pointer (some a))]) := by
      rcases h with ⟨h, _⟩ | ⟨_, h⟩ | ⟨h, _⟩
      · rw [HK.out] at h; cases h
      · exact h
      · rw [HK.out] at h; cases h
    have B1 := Lib.hid (below_step E1.out hb)
    have r1 := Lib.hid (cell_kept R0.out hb)
    have f1 := Lib.hid (frozen_kept R0.out G0.out hb)
    have bx := below_box w1 (.cells #[Value.int .i8 0, Value.int .i8 0, Value.int .i8 0, Value.int .i8 0, Value.int .i8 0, Value.int .i8 0, Value.int .i8 0, Value.int .i8 0, Value.int .i8 0, Value.int .i8 0, Value.int .i8 0, Value.int .i8 0, Value.int .i64 0] 48)
    have r2 := cell_kept r1.out bx
    have f2 := frozen_kept r1.out f1.out bx
    have B2 := Lib.hid (below_step B1.out bx)
    have hn : ∀ (w : World), (binOp .neq 50 (.iface 119 (.pointer (some a))) .nilIface).run Tryd.prog w = .ok (.bool true) w := fun w => run_neq_iface_nil w 50 (by kernel_rfl) _ _
    rw [HZ.out]
    clear h hb bx
    go_wp2
    refine bodyPost_ret (v := .tuple #[.agg #[.slice none 0 0], .bool false]) (by simp [results, Tryd.results6, go_sem, r2]) rfl ⟨none, 0, rfl, B2.out.setCell (Nat.le_refl _) _, IAt.nil (Nat.le_refl _)⟩
  · have hra : readA s = textD s := by simp [readA, hrb]
    unfold readB at hrb
    rw [Bool.and_eq_true] at hrb
    have h12 : 1 ≤ s.size ∧ s.size ≤ 12 := by have := hrb.2; simp [inB] at this; omega
    have hk : dialK s.size s = 0 := by
      unfold dialK
      rw [hrb.1, hrb.2]
      simp
    have hdl : dialL s s.size = textD s := by simp [dialL]
    have hct := fun W => regCounter_any (textD s) W (textD_wheels hrb.1) (by rw [textD_length]; exact h12.2)
    unfold GivesK1 at hct
    rw [textD_length] at hct
    have hl1 := reg12_length (xs := textD s) (by rw [textD_length]; exact h12.2)
    have hi : (Tryd.prog.info? 48).map (·.size) = some (regV (reg12 (textD s)) s.size).size := by rw [regV_size hl1]; exact info_reg
    have hold : (#[Value.int .i8 0, Value.int .i8 0, Value.int .i8 0, Value.int .i8 0, Value.int .i8 0, Value.int .i8 0, Value.int .i8 0, Value.int .i8 0, Value.int .i8 0, Value.int .i8 0, Value.int .i8 0, Value.int .i8 0, Value.int .i64 0] : Array Value).size = (regV (reg12 (textD s)) s.size).size := by rw [regV_size hl1]; rfl
    obtain ⟨cs, hcs⟩ : ∃ cs, regV (reg12 (textD s)) s.size = cs := ⟨_, rfl⟩
    have hone : cs.all (·.oneCell') = true := by rw [← hcs]; exact reg_one
    have hsv : dialK s.size s = 0 → regV (reg12 (dialL s (Int.toNat s.size))) (Int.toNat s.size) = cs := fun _ => by rw [Int.toNat_natCast, hdl, hcs]
    rw [hcs] at hct hi hold
    have HK := Lib.hid hk
    have HSV := Lib.hid hsv
    have HCT := Lib.hid hct
    have HI := Lib.hid hi
    have HO := Lib.hid hold
    have HON := Lib.hid hone
    have HTL := Lib.hid (textD_length s)
    rw [hra]
    clear hra hrb hk hd e1 r0 g0 hz hdl hct hl1 hi hold hone hcs hsv h12
    go_enter Tryd.func6, Tryd.ntmps6
    go_wp2_with fail
    refine HDL.out.mono ?_
    rintro e w1 ⟨hb, h⟩
    obtain rfl : e = .returned (.tuple #[.agg cs, .nilIface]) := by
      rcases h with ⟨_, h⟩ | ⟨h, _⟩ | ⟨h, _⟩
      · rw [h, HSV.out HK.out]
      · rw [HK.out] at h; cases h
      · rw [HK.out] at h; cases h
    have B1 := Lib.hid (below_step E1.out hb)
    have r1 := Lib.hid (cell_kept R0.out hb)
    have f1 := Lib.hid (frozen_kept R0.out G0.out hb)
    have bx := below_box w1 (.cells #[Value.int .i8 0, Value.int .i8 0, Value.int .i8 0, Value.int .i8 0, Value.int .i8 0, Value.int .i8 0, Value.int .i8 0, Value.int .i8 0, Value.int .i8 0, Value.int .i8 0, Value.int .i8 0, Value.int .i8 0, Value.int .i64 0] 48)
    have HLT : Hid (w.heap.size < w1.heap.size) := World.block_lt_of_cell? _ _ r1.out
    have r2 := Lib.hid (setRow_cell cs (cell_kept r1.out bx) (Nat.ne_of_lt HLT.out))
    have f2 := Lib.hid (setRow_frozen (p := ⟨w.heap.size, 0, none⟩) (g := w1.heap.size) cs (frozen_kept r1.out f1.out bx) (Nat.ne_of_lt HLT.out))
    have B2 := Lib.hid (setRow_below (below_step B1.out bx) (g := w1.heap.size) (Nat.le_of_lt HLT.out) cs)
    have H2 := Lib.hid (setRow_same (w := w1.alloc (.cells #[Value.int .i8 0, Value.int .i8 0, Value.int .i8 0, Value.int .i8 0, Value.int .i8 0, Value.int .i8 0, Value.int .i8 0, Value.int .i8 0, Value.int .i8 0, Value.int .i8 0, Value.int .i8 0, Value.int .i8 0, Value.int .i64 0] 48)) cs (heap_alloc_new w1 _))
    clear h hb bx
    go_wp2_with (first
      | (refine wpList_store_row rfl 48 (.tmp 4) (.tmp 11) rfl w1.heap.size cs rfl rfl _ _ (heap_alloc_new w1 _) HI.out HO.out HON.out ?_)
      | (refine wpList_load_row rfl 48 (.tmp 4) rfl w1.heap.size rfl _ _ _ _ H2.out Tryd.underlying48 rfl HI.out ?_)
      | fail)
    refine (HCT.out _).mono ?_
    rintro e w4 ⟨g, cap, ex, rfl, hg, hb, hr⟩
    have r4 := cell_kept r2.out hb
    have f4 := frozen_kept r2.out f2.out hb
    have B4 := Lib.hid (below_step B2.out hb)
    have HR := Lib.hid hr
    have hg' : w.heap.size < g := by
      have t2 := HLT.out
      simp only [size_setRow, World.size_alloc] at hg
      omega
    clear hb hr hg
    go_wp2
    refine bodyPost_ret (v := .tuple #[.agg #[.slice (some ⟨g, 0, none⟩) s.size cap], .bool true]) (by simp [results, Tryd.results6, go_sem, r4]) rfl ⟨some ⟨g, 0, none⟩, cap, by rw [HTL.out], B4.out.setCell (Nat.le_refl _) _, ?_⟩
    exact GivesK1.kc (cap := cap) (by omega) (HR.out.far (by simp; omega) _)

end Go.Proofs.YtkiphejkgpfjjabDoor
