/- For every two lists of bytes, the law FnParts returns true: the part of a drawn card is its columns, and it is blank just if it has no hole. Conditions: none. -/
import Derived.Test.YtfjokjdfekkbiabA2
import Derived.Test.YtfjokjdfekkbiabBlankF
import Derived.Test.YtfjokjdfekkbiabCount
import Derived.Test.YtfjokjdfekkbiabBytes
import Derived.Deep.QuietTactic
import Derived.BigQuiet
namespace Go.Proofs.Ytfjokjdfekkbiab.fnParts
open Go.ChangeShapes Go.WideShapes Go.ChangeAt Go.RowKit

theorem okB_of {l : List Int} (h : maskOk l) (h1 : 1 ≤ l.length) (h2 : l.length ≤ 6) : okB l = true := by
  simp only [okB, legalB, inB, maskB, Bool.and_eq_true, decide_eq_true_eq, List.all_eq_true]
  exact ⟨fun x hx => h x hx, by omega, by omega⟩
theorem maskOk_part {l : List Int} (h : maskOk l) (i j : Nat) : maskOk (partOf l i j) := fun x hx => h x (List.mem_of_mem_drop (List.mem_of_mem_take hx))
theorem popc_pos_all : ∀ a b : Fin 64, popc 12 (64 * a.val + b.val) = 0 → 64 * a.val + b.val = 0 := by decide +kernel
theorem popc_pos (m : Nat) (hm : m < 4096) (h : popc 12 m = 0) : m = 0 := by
  have e : 64 * (m / 64) + m % 64 = m := by omega
  have := popc_pos_all ⟨m / 64, by omega⟩ ⟨m % 64, by omega⟩
  simp only [e] at this
  exact this h
theorem blank_count : ∀ (l : List Int), maskOk l → blankB l = decide (countN l = 0)
  | [], _ => by simp [blankB, countN]
  | x :: xs, h => by
    have ih := blank_count xs (fun y hy => h y (List.mem_cons_of_mem _ hy))
    have hx := h x (List.mem_cons_self ..)
    simp only [blankB, List.all_cons, countN, List.map_cons, List.sum_cons] at ih ⊢
    rw [ih]
    by_cases h0 : x = 0
    · subst h0
      simp only [popc_zero, Int.toNat_zero, Nat.zero_add]
      rfl
    · have : popc 12 x.toNat ≠ 0 := fun e => h0 (by have := popc_pos x.toNat (by omega) e; omega)
      simp [h0, this]
theorem part_get (l : List Int) (i j k : Nat) (hk : k < j - i) : (partOf l i j)[k]?.getD 0 = l[i + k]?.getD 0 := by
  rw [partOf, List.getElem?_take_of_lt hk, List.getElem?_drop]

theorem walk_long (A A' : Option Addr) (n n' c c' : Nat) (w : World) (hn : n ≤ 9223372036854775807) (hn' : n' ≤ 9223372036854775807) (h : 3000 < n ∨ 3000 < n') :
    Calls Try.prog 7 #[.slice A n c, .slice A' n' c'] w fun e w' => e = .returned (.bool true) ∧ Below w.heap.size w w' := by
  have hL := a2Long_any A A' n n' c c' w hn hn'
  have e : (decide (3000 < n) || decide (3000 < n')) = true := by simpa using h
  rw [e] at hL
  have HL := Lib.hid hL
  clear hL e h
  go_enter Try.func7, Try.ntmps7
  go_wp2_with fail
  refine HL.out.mono ?_
  rintro e w1 ⟨rfl, rfl⟩
  go_wp2
  go_ret
  exact ⟨rfl, Below.refl _ _⟩

set_option maxHeartbeats 2000000 in
theorem walk_short (A A' : Option Addr) (n n' c c' : Nat) (w : World) (h0 : BytesAt w w.heap.size A n) (h1 : BytesAt w w.heap.size A' n') (hn : n ≤ 3000) (hn' : n' ≤ 3000) :
    Calls Try.prog 7 #[.slice A n c, .slice A' n' c'] w fun e w' => e = .returned (.bool true) ∧ Below w.heap.size w w' := by
  have hL := a2Long_any A A' n n' c c' w (by omega) (by omega)
  have e : (decide (3000 < n) || decide (3000 < n')) = false := by simp; omega
  rw [e] at hL
  have HL := Lib.hid hL
  have HC := Lib.hid (A2Card_any A n c w.heap.size w h0 (Nat.le_refl _) hn)
  have H1 := Lib.hid h1
  clear hL e h0 h1
  go_enter Try.func7, Try.ntmps7
  go_wp2_with fail
  refine HL.out.mono ?_
  rintro e w1 ⟨rfl, rfl⟩
  go_wp2_with fail
  refine HC.out.mono ?_
  rintro e w1 ⟨gr, cap, l, ex, rfl, hl1, hl6, hlc, hcm, hok, hgr, hb, hrow⟩
  have B1 := Lib.hid hb
  have R1 := Lib.hid hrow
  have OK := Lib.hid hok
  have hs1 := hb.size
  unfold maxLen at hcm
  obtain ⟨m, hm⟩ : ∃ m, l.length = m := ⟨_, rfl⟩
  have HM := Lib.hid hm
  rw [hm] at hl1 hl6 hlc
  rw [hm]
  clear hb hrow hok HL HC hm
  have es : ((w1.alloc (.cells #[.slice (some ⟨gr, 0, none⟩) m cap] 34)).alloc (.cells #[.slice (some ⟨gr, 0, none⟩) m cap] 34)).heap.size = w1.heap.size + 2 := by simp
  have B2 : Hid (Below w.heap.size w ((w1.alloc (.cells #[.slice (some ⟨gr, 0, none⟩) m cap] 34)).alloc (.cells #[.slice (some ⟨gr, 0, none⟩) m cap] 34))) := (B1.out.alloc hs1 _).alloc (by simp; omega) _
  have R2 := Lib.hid ((R1.out.alloc (.cells #[.slice (some ⟨gr, 0, none⟩) m cap] 34)).alloc (.cells #[.slice (some ⟨gr, 0, none⟩) m cap] 34))
  have p2 : ((w1.alloc (.cells #[.slice (some ⟨gr, 0, none⟩) m cap] 34)).alloc (.cells #[.slice (some ⟨gr, 0, none⟩) m cap] 34)).cell? ⟨w1.heap.size, 0, none⟩ = some (.slice (some ⟨gr, 0, none⟩) m cap) := by simp [go_sem]
  have q2 : ((w1.alloc (.cells #[.slice (some ⟨gr, 0, none⟩) m cap] 34)).alloc (.cells #[.slice (some ⟨gr, 0, none⟩) m cap] 34)).cell? ⟨w1.heap.size + 1, 0, none⟩ = some (.slice (some ⟨gr, 0, none⟩) m cap) := by simp [go_sem]
  have HF := Lib.hid (a2Field_one (w1.heap.size + 1) (some ⟨gr, 0, none⟩) A' m cap n' c' w.heap.size _ q2 hl1 (by omega) (H1.out.below B2.out) (by rw [es]; omega) hn')
  clear q2
  go_wp2_with fail
  refine HF.out.mono ?_
  rintro e w2 ⟨i, j, rfl, hij, hjm, hb⟩
  have hs2 := hb.size
  rw [es] at hs2
  have B3 := Lib.hid (B2.out.trans (hb.mono (by rw [es]; omega)))
  have R3 := Lib.hid (R2.out.later hb)
  have p3 := cell_kept p2 hb
  clear hb B2 R2 p2 HF es
  have B4 : Hid (Below w.heap.size w (w2.alloc (.cells #[.int .i64 i, .int .i64 j] 45))) := B3.out.alloc (by omega) _
  have R4 := Lib.hid (R3.out.alloc (.cells #[.int .i64 i, .int .i64 j] 45))
  have p4 := cell_kept p3 (below_box w2 (.cells #[.int .i64 i, .int .i64 j] 45))
  have a4 : (w2.alloc (.cells #[.int .i64 i, .int .i64 j] 45)).cell? ⟨w2.heap.size, 0, none⟩ = some (.int .i64 i) := by simp [go_sem]
  have b4 : (w2.alloc (.cells #[.int .i64 i, .int .i64 j] 45)).cell? ⟨w2.heap.size, 1, none⟩ = some (.int .i64 j) := by simp [go_sem]
  obtain ⟨W, eW⟩ : ∃ W, w2.alloc (.cells #[.int .i64 i, .int .i64 j] 45) = W := ⟨_, rfl⟩
  have hsW : w1.heap.size + 2 ≤ w2.heap.size ∧ W.heap.size = w2.heap.size + 1 := ⟨hs2, by rw [← eW]; simp⟩
  obtain ⟨hs2', hsW⟩ := hsW
  rw [eW] at B4 R4 p4 a4 b4
  have okl := okB_of OK.out (by rw [HM.out]; exact hl1) (by rw [HM.out]; exact hl6)
  have hcode : partCode l i j = 0 := by
    simp only [partCode, okl, fieldB, HM.out]
    simp
    omega
  have HP := Lib.hid (implPart_good (some ⟨gr, 0, none⟩) cap l (gr + 1) i j W R4.out.ints R4.out.lt (by rw [HM.out]; exact hlc) (by rw [HM.out]; omega) hij (by rw [HM.out]; exact hjm) hcode)
  rw [HM.out] at HP
  obtain ⟨ys, hys⟩ : ∃ ys, partOf l i j = ys := ⟨_, rfl⟩
  have hyl : ys.length = j - i := by rw [← hys]; exact partOf_length l i j (by rw [HM.out]; exact hjm)
  rw [hys] at HP
  have HY := Lib.hid hys
  have HYL := Lib.hid hyl
  have OKL := Lib.hid okl
  have HCODE := Lib.hid hcode
  clear hys hyl okl hcode B3 R3 p3 hs2
  go_wp2_with fail
  clear eW
  refine HP.out.mono ?_
  rintro e w3 ⟨gp, cp, ep, rfl, hgp, hb, hrow⟩
  obtain ⟨d, hd⟩ : ∃ d, j - i = d := ⟨_, rfl⟩
  have hYL := HYL.out
  rw [hd] at hYL
  have HYD := Lib.hid hYL
  rw [hYL]
  have hdj : (j : Int) - (i : Int) = (d : Int) := by omega
  have hd1 : 1 ≤ d := by omega
  have hd6 : d ≤ 6 := by omega
  have hij6 : i + d = j := by omega
  have hs3 := hb.size
  have B5 : Hid (Below w.heap.size w (w3.alloc (.cells #[.slice (some ⟨gp, 0, none⟩) d cp] 34))) := (B4.out.trans (hb.mono (by omega))).alloc (by omega) _
  have bx := below_box w3 (.cells #[.slice (some ⟨gp, 0, none⟩) d cp] 34)
  have R5 := Lib.hid ((R4.out.later hb).alloc (.cells #[.slice (some ⟨gp, 0, none⟩) d cp] 34))
  have P5 := Lib.hid (hrow.alloc (.cells #[.slice (some ⟨gp, 0, none⟩) d cp] 34))
  have p5 := cell_kept (cell_kept p4 hb) bx
  have a5 := cell_kept (cell_kept a4 hb) bx
  have b5 := cell_kept (cell_kept b4 hb) bx
  have g5 : (w3.alloc (.cells #[.slice (some ⟨gp, 0, none⟩) d cp] 34)).cell? ⟨w3.heap.size, 0, none⟩ = some (.slice (some ⟨gp, 0, none⟩) d cp) := by simp [go_sem]
  obtain ⟨V, eV⟩ : ∃ V, w3.alloc (.cells #[.slice (some ⟨gp, 0, none⟩) d cp] 34) = V := ⟨_, rfl⟩
  have hsV : V.heap.size = w3.heap.size + 1 := by rw [← eV]; simp
  rw [eV] at B5 R5 P5 p5 a5 b5 g5
  clear bx hb hrow hYL hd HP B4 R4 p4 a4 b4 HYL
  have HB := Lib.hid (fun q : Nat => implBlankF_good gr 0 cap l (gr + 1) i j (V.drewN q) (R5.out.drewN q).ints (R5.out.drewN q).lt (by rw [HM.out]; exact hlc) (by rw [HM.out]; omega) hij (by rw [HM.out]; exact hjm) HCODE.out)
  rw [HM.out, HY.out] at HB
  have okl : okB ys = true := okB_of (by rw [← HY.out]; exact maskOk_part OK.out i j) (by rw [HYD.out]; exact hd1) (by rw [HYD.out]; exact hd6)
  have hbc : blankB ys = decide (countN ys = 0) := blank_count ys (by rw [← HY.out]; exact maskOk_part OK.out i j)
  have HS := Lib.hid (fun (U : World) (h : Row U gp ys ep) => specCount_any (some ⟨gp, 0, none⟩) cp ys (gp + 1) U h.ints h.lt (by rw [HYD.out]; omega))
  rw [HYD.out, if_pos okl, if_pos okl] at HS
  obtain ⟨N, hN⟩ : ∃ N, countN ys = N := ⟨_, rfl⟩
  have hNb : N ≤ 12 * d := by rw [← hN, ← HYD.out]; exact countN_le ys
  rw [hN] at HS hbc
  rw [hbc] at HB
  have HE : Hid (∀ t, t < d → ∃ x, V.cell? ⟨gp, t, none⟩ = some (.int .i64 x) ∧ V.cell? ⟨gr, i + t, none⟩ = some (.int .i64 x)) := fun t ht => by
    have e1 := P5.out.cell (i := t) (by rw [HYD.out]; exact ht)
    have e2 := R5.out.cell (i := i + t) (by rw [HM.out]; omega)
    rw [← HY.out, part_get l i j t (by omega)] at e1
    exact ⟨_, e1, e2⟩
  clear okl hbc hN
  go_wp2
  clear eV
  go_loopw [9] (fun k wr => ∃ t q : Nat, t ≤ d ∧ k = .int .i64 t ∧ wr = V.drewN q) (fun k _ => d - (intOf k).toNat)
  case atStart => exact ⟨0, 0, Nat.zero_le _, rfl, rfl⟩
  case round =>
    obtain ⟨t, q, ht, rfl, rfl⟩ := hrel
    by_cases hlt : t < d
    · have hk1 : (t : Int) < (d : Int) := by omega
      have hk0 : (0 : Int) ≤ (t : Int) := Int.natCast_nonneg _
      have hk2 : (i : Int) + (t : Int) < (m : Int) := by omega
      have hk3 : (0 : Int) ≤ (i : Int) + (t : Int) := by omega
      obtain ⟨x, cx, cy⟩ := HE.out t hlt
      go_wp2
      go_quiet (fail)
      go_wp2
      go_roundw
      case rel => exact ⟨t + 1, _, by omega, by go_num, rfl⟩
      case measure => simp [intOf]; omega
    · have hk1 : ¬ (t : Int) < (d : Int) := by omega
      go_wp2_with fail
      refine (HB.out _).mono ?_
      rintro e w4 ⟨rfl, hb⟩
      have B6 := Lib.hid ((below_drewN B5.out q).trans (hb.mono (by show _ ≤ V.heap.size; omega)))
      have P6 := Lib.hid ((P5.out.drewN q).later hb)
      have g6 := cell_kept (w := V.drewN q) g5 hb
      have hs4 : V.heap.size ≤ w4.heap.size := hb.size
      clear hb
      go_wp2_with fail
      refine (HS.out w4 P6.out).mono ?_
      rintro e w5 ⟨rfl, hb⟩
      have B7 := Lib.hid (B6.out.trans (hb.mono (by omega)))
      clear hb
      by_cases hN0 : N = 0
      · subst hN0
        go_wp2
        go_ret
        exact ⟨rfl, B7.out⟩
      · have hN1 : (N : Int) ≠ 0 := by omega
        have hN2 : decide (N = 0) = false := decide_eq_false hN0
        have hN3 : ((N : Int) == 0) = false := by simp [hN0]
        go_wp2
        go_ret
        exact ⟨by simp, B7.out⟩

theorem walk_bytes (w : World) (A : Option Addr) (n c : Nat) (b0 : BytesAt w w.heap.size A n) (l0 : n ≤ 9223372036854775807) (A' : Option Addr) (n' c' : Nat) (b1 : BytesAt w w.heap.size A' n') (l1 : n' ≤ 9223372036854775807) :
    Calls Try.prog 7 #[.slice A n c, .slice A' n' c'] w fun e w' => e = .returned (.bool true) ∧ Below w.heap.size w w' := by
  by_cases h : 3000 < n ∨ 3000 < n'
  · exact walk_long A A' n n' c c' w l0 l1 h
  · exact walk_short A A' n n' c c' w b0 b1 (by omega) (by omega)

set_option maxRecDepth 100000 in
theorem lifted (os : Os) (started : os.Started) (H : Type) (enc : TypeId × Value → H) :
    ReturnsInHanded {} Try.checked os 7 .any (Rows.fnPartsSpec.pre6 enc Try.prog Try.f7 Rows.fnPartsRow.domain false) (Rows.fnPartsSpec.post enc Try.prog Try.f7 false true false false) := by
  refine returnsInHanded_of_change (C := Try.checked) own started (by kernel_rfl) Try.func7
    (ChangeSpec.witness6 (enc := enc) (C := Try.checked) false ⟨#[], #[.slice none 0 0, .slice none 0 0], []⟩ 8 (by kernel_rfl) (by kernel_rfl) (by kernel_rfl) (by kernel_rfl)) ?_
  intro W base args ds gs before hval0 hW _ _
  have hval : ∀ (j : Nat) t v, Try.f7.params[j]? = some t → args[j]? = some v → Value.okWide Try.prog W .any base t v := hval0
  have hW' := hW
  obtain ⟨p, q, hA0, hV, rfl, _, _⟩ := hW
  have hA : DataW.TrodAll enc Try.prog W 0 (fun _ => true) true Try.f7.params.toList args.toList ds p := hA0
  rw [Try.params7] at hA hval
  obtain ⟨v0, vs0, d0, ds0, p0, q0, hargs, rfl, rfl, h0, r0⟩ := trodAll_cons hA
  obtain ⟨v1, vs1, d1, ds1, p1, q1, rfl, rfl, rfl, h1, r1⟩ := trodAll_cons r0
  obtain ⟨rfl, rfl, rfl⟩ := trodAll_nil r1
  obtain rfl : args = #[v0, v1] := by cases args; simp_all
  obtain ⟨rfl, rfl⟩ := trodVars_none hV
  obtain ⟨A0, n0, c0, rfl, b0, l0⟩ := open_bytes (hval 0 48 v0 rfl rfl) h0
  obtain ⟨A1, n1, c1, rfl, b1, l1⟩ := open_bytes (hval 1 48 v1 rfl rfl) h1
  refine (walk_bytes W A0 n0 c0 b0 l0 A1 n1 c1 b1 l1).mono fun e W' ⟨he, hb⟩ => ?_
  subst he
  refine ⟨_, rfl, law_post hW' rfl rfl ?_ rfl rfl rfl hb⟩
  intro t ht
  rw [Try.params7] at ht
  obtain rfl : t = 48 := by simpa using ht
  exact ⟨by kernel_rfl, of_decide_eq_true (by kernel_rfl)⟩

theorem over : Rows.fnPartsRow.holds Try.pinned (OpenSpec.ofChange Rows.fnPartsSpec) :=
  OpenClaim.holds_of_wide 7 Try.f7 rfl rfl rfl rfl rfl rfl rfl ⟨rfl, rfl, rfl, rfl, rfl⟩ rfl rfl rfl rfl rfl (by kernel_rfl) Try.func7 (by kernel_rfl)
    (of_decide_eq_true (by kernel_rfl)) (by unfold Func.isWrapper; first | (rw [if_pos (by decide +kernel)]; kernel_rfl) | (rw [if_neg (by decide +kernel)]; exact ⟨rfl, rfl⟩))
    (fun os started H enc _ => lifted os started H enc)

theorem proved : Rows.FnPartsSaid :=
  over
end Go.Proofs.Ytfjokjdfekkbiab.fnParts
