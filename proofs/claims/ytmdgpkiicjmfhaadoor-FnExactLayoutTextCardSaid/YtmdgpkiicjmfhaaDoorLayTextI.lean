/- impl.LayoutText gives the text of a layout: contract. -/
import Derived.Test.YtmdgpkiicjmfhaaDoorLayText
import Derived.Test.YtmdgpkiicjmfhaaDoorLineOf
import Derived.Test.YtmdgpkiicjmfhaaDoorDecimal
import Derived.Lib.OthersKept
namespace Go.Proofs.YtmdgpkiicjmfhaaDoor
open Go.ChangeShapes Go.WideShapes Go.ChangeAt Go.RowKit

/-- the words of the kinds lie in their table -/
def KindWords (w : World) : Prop := w.cell? ⟨0, 1, none⟩ = some (.string ⟨#[116, 101, 120, 116]⟩) ∧ w.cell? ⟨0, 2, none⟩ = some (.string ⟨#[110, 117, 109, 98, 101, 114]⟩)
theorem KindWords.below {w w' : World} (h : KindWords w) (hb : Below w.heap.size w w') : KindWords w' := ⟨cell_kept h.1 hb, cell_kept h.2 hb⟩
theorem line_shape (nm kw D0 D1 : ByteArray) : nm ++ ⟨#[32]⟩ ++ kw ++ ⟨#[32]⟩ ++ (D0 ++ ⟨#[45]⟩ ++ D1) ++ ⟨#[10]⟩ = nm ++ ⟨#[32]⟩ ++ kw ++ ⟨#[32]⟩ ++ D0 ++ ⟨#[45]⟩ ++ D1 ++ ⟨#[10]⟩ := by simp only [ByteArray.append_assoc]
theorem head_shape (D : ByteArray) : (⟨#[119, 105, 100, 116, 104]⟩ : ByteArray) ++ ⟨#[32]⟩ ++ D ++ ⟨#[10]⟩ = ⟨#[119, 105, 100, 116, 104, 32]⟩ ++ D ++ ⟨#[10]⟩ := rfl

set_option maxRecDepth 100000 in
set_option maxHeartbeats 4000000 in
theorem implLayText_any (u : Int) (A : Option Addr) (c : Nat) (ds : List It) (B : Nat) (w : World) (h : Items w B A ds) (hB : B ≤ w.heap.size) (hn : ds.length ≤ 1048576) (hc : ds.length ≤ c) (hs : ∀ d ∈ ds, d.name.size ≤ 1048576) (hL : KindWords w) (hP : Pow10 w) :
    Calls Tryd.prog 14 #[.agg #[.int .i64 u, .slice A ds.length c]] w fun e w' => e = .returned (.string (layTx u ds)) ∧ Below w.heap.size w w' := by
  have b0 := below_box w (.cells #[.int .i64 u, .slice A ds.length c] 32)
  have p0 : (w.alloc (.cells #[.int .i64 u, .slice A ds.length c] 32)).cell? ⟨w.heap.size, 0, none⟩ = some (.int .i64 u) := by simp
  have p1 : (w.alloc (.cells #[.int .i64 u, .slice A ds.length c] 32)).cell? ⟨w.heap.size, 1, none⟩ = some (.slice A ds.length c) := by simp
  have ho := implValidL_any u A c ds B _ (h.below (b0.mono hB)) (Nat.le_trans hB b0.size) hn hc hs
  have HO := Lib.hid ho
  have B0 := Lib.hid b0
  cases hv : layoutB u ds
  · rw [hv] at HO
    rw [layTx, hv, if_neg (by simp)]
    obtain ⟨n, hN⟩ : ∃ n, ds.length = n := ⟨_, rfl⟩
    rw [hN] at HO B0 p0 p1 ⊢
    clear ho b0 h hv hN hs hn hc hL hP
    go_enter Tryd.func14, Tryd.ntmps14
    go_wp2_with fail
    refine HO.out.mono ?_
    rintro e w1 ⟨rfl, hb⟩
    have B1 := Lib.hid (below_step B0.out hb)
    clear hb
    go_wp2
    go_ret
    exact ⟨rfl, B1.out⟩
  · rw [hv] at HO
    have hsz := layout_size hv
    have hu : -9223372036854775808 ≤ u ∧ u ≤ 9223372036854775807 := by omega
    have hd : ∀ d ∈ ds, d.name.size ≤ 1048576 ∧ (-9223372036854775808 ≤ d.f0 ∧ d.f0 ≤ 9223372036854775807) ∧ (-9223372036854775808 ≤ d.f1 ∧ d.f1 ≤ 9223372036854775807) := fun d hm => by
      obtain ⟨k, hk⟩ := List.getElem?_of_mem hm
      exact ⟨hs d hm, itemB_nums (layout_item hv hk) (by omega)⟩
    have hkd : ∀ (k : Nat) (d : It), ds[k]? = some d → d.kind = 1 ∨ d.kind = 2 := fun k d hk => by
      have := (itemB_field (layout_item hv hk)).2
      omega
    have hTZ := layTo_size hu hd
    have hdz := decT_size hu.1 hu.2
    have HDA : Hid (∀ (a : Int) (W : World), -9223372036854775808 ≤ a → a ≤ 9223372036854775807 → Pow10 W → Calls Tryd.prog 31 #[.int .i64 a] W fun e w' => e = .returned (.string (decT a)) ∧ Below W.heap.size W w') := fun a W g0 g1 hp => implDecimal_any a g0 g1 W hp
    have hlt : layTx u ds = layTo u ds ds.length := by rw [layTx, hv, if_pos rfl]
    rw [hlt]
    obtain ⟨n, hN⟩ : ∃ n, ds.length = n := ⟨_, rfl⟩
    have HN := Lib.hid hN
    have H := Lib.hid h
    have HHD := Lib.hid hd
    have HKD := Lib.hid hkd
    have HTZ := Lib.hid hTZ
    have HLT := Lib.hid hL
    have HPW := Lib.hid hP
    have HU := Lib.hid hu
    have h0T : layTo u ds 0 = ⟨#[119, 105, 100, 116, 104]⟩ ++ ⟨#[32]⟩ ++ decT u ++ ⟨#[10]⟩ := by rw [layTo, headT, head_shape]
    have H0T := Lib.hid h0T
    have hn12 := hsz.1
    rw [hN] at HO B0 p0 p1 hn12 ⊢
    clear ho b0 h hd hkd hTZ hL hP hlt hN hs hn hc hv hu hsz h0T
    go_enter Tryd.func14, Tryd.ntmps14
    go_wp2_with fail
    refine HO.out.mono ?_
    rintro e w1 ⟨rfl, hb⟩
    have B1 := Lib.hid (below_step B0.out hb)
    have q0 := cell_kept p0 hb
    have q1 := cell_kept p1 hb
    have G1 := Lib.hid (World.block_lt_of_cell? _ _ q1)
    clear hb p0 p1 HO B0
    have I0 := Lib.hid (Lib.IsBuilderF.of (Lib.fresh_isBuilder 70 5 w1))
    have bb := below_box w1 (.cells #[.pointer none, .slice none 0 0] 70)
    have B2 := Lib.hid (below_step B1.out bb)
    have r0 := cell_kept q0 bb
    have r1 := cell_kept q1 bb
    have P2 := Lib.hid (HPW.out.below B2.out)
    clear bb
    go_wp2_with fail
    refine (HDA.out _ _ HU.out.1 HU.out.2 P2.out).mono ?_
    rintro e w3 ⟨rfl, hb⟩
    have B3 := Lib.hid (below_step B2.out hb)
    have s1 := cell_kept r1 hb
    have I3 := Lib.hid (builder_later I0.out hb)
    have L3 := Lib.hid hb.size
    clear hb r0 r1 q0 q1 I0 P2 B2
    go_wp2_with fail
    refine (line2_any w3.heap.size ⟨#[119, 105, 100, 116, 104]⟩ (decT u) _ (by simp) (by simp) (by decide) (by omega)).mono ?_
    rintro e w4 ⟨rfl, hb⟩
    have hb' : Below w3.heap.size w3 w4 := (below_box w3 _).trans (hb.mono (by simp))
    have B4 := Lib.hid (below_step B3.out hb')
    have t1 := cell_kept s1 hb'
    have I4 := Lib.hid (builder_later I3.out hb')
    have L4 := Lib.hid (Nat.le_trans L3.out hb'.size)
    clear hb hb' s1 I3 B3 L3
    have HWS := Lib.hid (Tryd.Builder_WriteString_k w1.heap.size w1.heap.size _ (⟨#[119, 105, 100, 116, 104]⟩ ++ ⟨#[32]⟩ ++ decT u ++ ⟨#[10]⟩) w4 I4.out (by have := HTZ.out 0; rw [H0T.out] at this; simp only [List.length_nil]; omega) (Nat.le_trans (below_box w1 _).size L4.out))
    go_wp2_with fail
    refine HWS.out.mono ?_
    rintro e w5 ⟨rfl, hI, hb, _⟩
    have B5 := Lib.hid (B4.out.trans (hb.mono B1.out.size))
    have t5 := (hb.cell (p := ⟨w.heap.size, 1, none⟩) G1.out).trans t1
    have I5 : Hid (Lib.IsBuilderF 70 5 w1.heap.size w1.heap.size (Lib.byteCells (layTo u ds 0).data.toList) w5) := by
      rw [H0T.out]
      exact Or.inr hI
    have L5 := Lib.hid (Nat.le_trans L4.out hb.size)
    clear hI hb t1 I4 L4 B4 HWS
    go_wp2
    go_loopw [18] (fun i wr => ∃ k : Nat, k ≤ n ∧ i = .int .i64 k ∧ Hid (Lib.IsBuilderF 70 5 w1.heap.size w1.heap.size (Lib.byteCells (layTo u ds k).data.toList) wr) ∧ Hid (Below w1.heap.size w5 wr)) (fun i _ => n - (intOf i).toNat)
    case atStart => exact ⟨0, Nat.zero_le _, rfl, I5, Below.refl _ _⟩
    case round =>
      obtain ⟨k, hk, rfl, HI, HB⟩ := hrel
      have HBR := Lib.hid (B5.out.trans (HB.out.mono B1.out.size))
      have HLE := Lib.hid (Nat.le_trans (Nat.le_trans (below_box w1 (.cells #[.pointer none, .slice none 0 0] 70)).size L5.out) HB.out.size)
      have HLB := Lib.hid (show w1.heap.size < wr.heap.size by
        have a1 := L5.out
        have a2 := HB.out.size
        have a3 : (w1.alloc (.cells #[.pointer none, .slice none 0 0] 70)).heap.size = w1.heap.size + 1 := by simp
        omega)
      have HPR := Lib.hid (HPW.out.below HBR.out)
      have HLW := Lib.hid (HLT.out.below HBR.out)
      have HGK : Hid (0 < w1.heap.size) := Nat.lt_of_lt_of_le (World.block_lt_of_cell? _ _ HLT.out.1) B1.out.size
      by_cases hlt : k < n
      · obtain ⟨d, hd⟩ : ∃ d, ds[k]? = some d := ⟨ds[k]'(by rw [HN.out]; exact hlt), List.getElem?_eq_getElem _⟩
        obtain ⟨bi, oi, rfl, _, hcell⟩ := (H.out.below (HBR.out.mono hB)) (by rw [HN.out]; omega)
        obtain ⟨c0, c1, c2, c3⟩ := hcell k d hd
        obtain ⟨h1, ⟨h2, h3⟩, h4, h5⟩ := HHD.out d (List.mem_of_getElem? hd)
        have hkk := HKD.out k d hd
        have hsucc := layTo_succ (u := u) hd
        have htz := HTZ.out k
        obtain ⟨nm, kd, f0, f1⟩ := d
        simp only at c0 c1 c2 c3 h1 h2 h3 h4 h5 hkk
        have z0 := decT_size h2 h3
        have z1 := decT_size h4 h5
        have hl : lineT ⟨nm, kd, f0, f1⟩ = nm ++ ⟨#[32]⟩ ++ kindT kd ++ ⟨#[32]⟩ ++ decT f0 ++ ⟨#[45]⟩ ++ decT f1 ++ ⟨#[10]⟩ := rfl
        rw [hl] at hsucc
        obtain ⟨L, hL⟩ : ∃ L, layTo u ds k = L := ⟨_, rfl⟩
        rw [hL] at HI hsucc htz
        have k0 : (0 : Int) ≤ (k : Int) := Int.natCast_nonneg _
        have k1 : (k : Int) < (n : Int) := by omega
        have HR0 := Lib.hid (And.intro h2 h3)
        have HR1 := Lib.hid (And.intro h4 h5)
        have e1 : ¬ 9223372036854775807 < (decT f0).size + 1 := by omega
        have e2 : ¬ 9223372036854775807 < (decT f0).size + 1 + (decT f1).size := by omega
        clear hcell hd hl hL h2 h3 h4 h5
        have t1 := t5
        rcases hkk with rfl | rfl
        · have hK : kindT 1 = ⟨#[116, 101, 120, 116]⟩ := rfl
          rw [hK] at hsucc
          have HSU := Lib.hid hsucc
          have HLZ : Hid ((Lib.byteCells L.data.toList).length + (nm ++ ⟨#[32]⟩ ++ ⟨#[116, 101, 120, 116]⟩ ++ ⟨#[32]⟩ ++ (decT f0 ++ ⟨#[45]⟩ ++ decT f1) ++ ⟨#[10]⟩ : ByteArray).size ≤ 140737488355328) := by
            show _ ≤ _
            have e8 : (Lib.byteCells L.data.toList).length = L.size := by simp [Lib.byteCells]
            have t1 : (⟨#[32]⟩ : ByteArray).size = 1 := rfl
            have t2 : (⟨#[10]⟩ : ByteArray).size = 1 := rfl
            have t3 : (⟨#[45]⟩ : ByteArray).size = 1 := rfl
            have t4 : (⟨#[116, 101, 120, 116]⟩ : ByteArray).size = 4 := rfl
            simp only [ByteArray.size_append]
            omega
          have HCZ : Hid ((decT f0 ++ ⟨#[45]⟩ ++ decT f1 : ByteArray).size ≤ 2097152 ∧ nm.size ≤ 2097152) := by
            have t3 : (⟨#[45]⟩ : ByteArray).size = 1 := rfl
            refine ⟨?_, by omega⟩
            simp only [ByteArray.size_append]
            omega
          have xh := heap_alloc_new wr (.cells #[.string nm, .int .i64 1, .int .i64 f0, .int .i64 f1] 51)
          have bx := below_box wr (.cells #[.string nm, .int .i64 1, .int .i64 f0, .int .i64 f1] 51)
          have x0 : (wr.alloc (.cells #[.string nm, .int .i64 1, .int .i64 f0, .int .i64 f1] 51)).cell? ⟨wr.heap.size, 0, none⟩ = some (.string nm) := by simp
          have x1 : (wr.alloc (.cells #[.string nm, .int .i64 1, .int .i64 f0, .int .i64 f1] 51)).cell? ⟨wr.heap.size, 1, none⟩ = some (.int .i64 1) := by simp
          have x2 : (wr.alloc (.cells #[.string nm, .int .i64 1, .int .i64 f0, .int .i64 f1] 51)).cell? ⟨wr.heap.size, 2, none⟩ = some (.int .i64 f0) := by simp
          have x3 : (wr.alloc (.cells #[.string nm, .int .i64 1, .int .i64 f0, .int .i64 f1] 51)).cell? ⟨wr.heap.size, 3, none⟩ = some (.int .i64 f1) := by simp
          have xk : (wr.alloc (.cells #[.string nm, .int .i64 1, .int .i64 f0, .int .i64 f1] 51)).cell? ⟨0, 1, none⟩ = some (.string ⟨#[116, 101, 120, 116]⟩) := cell_kept HLW.out.1 bx
          have hlx : wr.heap.size < (wr.alloc (.cells #[.string nm, .int .i64 1, .int .i64 f0, .int .i64 f1] 51)).heap.size := by simp
          obtain ⟨wx, hwx⟩ : ∃ wx, wr.alloc (.cells #[.string nm, .int .i64 1, .int .i64 f0, .int .i64 f1] 51) = wx := ⟨_, rfl⟩
          have HIX := Lib.hid (builder_later HI.out bx)
          have HPX := Lib.hid (HPR.out.below bx)
          have HLX := Lib.hid (Nat.le_trans HLE.out bx.size)
          have HBX := Lib.hid (HB.out.trans (bx.mono HLE.out))
          rw [hwx] at xh x0 x1 x2 x3 xk hlx HIX HPX HLX HBX
          have HXH := Lib.hid xh
          have HXL := Lib.hid hlx
          have HX := Lib.hid (And.intro x0 (And.intro x1 (And.intro x2 (And.intro x3 xk))))
          have HS : Hid (Below wx.heap.size wx wx.drew) := (Below.refl wx.heap.size wx).drew
          clear hsucc hK htz z0 z1 h1 bx xh hlx t1 hk x0 x1 x2 x3 xk
          go_upto_region 8 with fail
          go_region_held3 (fun W => W.cell? ⟨wr.heap.size, 0, none⟩ = some (.string nm) ∧ W.cell? ⟨wr.heap.size, 1, none⟩ = some (.int .i64 1) ∧ W.cell? ⟨wr.heap.size, 2, none⟩ = some (.int .i64 f0) ∧ W.cell? ⟨wr.heap.size, 3, none⟩ = some (.int .i64 f1) ∧ W.cell? ⟨0, 1, none⟩ = some (.string ⟨#[116, 101, 120, 116]⟩))
            (first | exact ⟨y0, y1, y2, y3, yk⟩ | exact ⟨cell_kept HX.out.1 HS.out, cell_kept HX.out.2.1 HS.out, cell_kept HX.out.2.2.1 HS.out, cell_kept HX.out.2.2.2.1 HS.out, cell_kept HX.out.2.2.2.2 HS.out⟩ | exact ⟨cell_kept (cell_kept HX.out.1 HS.out) (below_box _ _), cell_kept (cell_kept HX.out.2.1 HS.out) (below_box _ _), cell_kept (cell_kept HX.out.2.2.1 HS.out) (below_box _ _), cell_kept (cell_kept HX.out.2.2.2.1 HS.out) (below_box _ _), cell_kept (cell_kept HX.out.2.2.2.2 HS.out) (below_box _ _)⟩)
            (first
              | (go_at_call 31
                 refine (HDA.out _ _ (by first | exact HR0.out.1 | exact HR1.out.1) (by first | exact HR0.out.2 | exact HR1.out.2) (HPX.out.below HS.out)).mono ?_
                 rintro e w6 ⟨rfl, hb⟩
                 have HS := Lib.hid (below_step HS.out hb)
                 clear hb)
              | (go_at_call 30
                 refine (line3_any _ nm ⟨#[116, 101, 120, 116]⟩ (decT f0 ++ ⟨#[45]⟩ ++ decT f1) _ (by simp) (by simp) (by simp) HCZ.out.2 (by decide) HCZ.out.1).mono ?_
                 rintro e w7 ⟨rfl, hb⟩
                 have HS := Lib.hid (below_step (below_step HS.out (below_box _ _)) hb)
                 clear hb)
              | (go_at_call 29
                 refine (Tryd.Builder_WriteString_k w1.heap.size w1.heap.size _ _ _ (builder_later HIX.out HS.out) HLZ.out (Nat.le_trans HLX.out HS.out.size)).mono ?_
                 rintro e w8 ⟨rfl, hI, hb, hO⟩
                 have yh := hO wr.heap.size _ ((HS.out.block _ HXL.out).trans HXH.out) (by intro e; injection e with e; have := HLB.out; omega) (by intro c fz e; injection e with _ e2 _; exact absurd e2 (by decide))
                 have y0 : w8.cell? ⟨wr.heap.size, 0, none⟩ = some (.string nm) := by simp [World.cell?, yh]
                 have y1 : w8.cell? ⟨wr.heap.size, 1, none⟩ = some (.int .i64 1) := by simp [World.cell?, yh]
                 have y2 : w8.cell? ⟨wr.heap.size, 2, none⟩ = some (.int .i64 f0) := by simp [World.cell?, yh]
                 have y3 : w8.cell? ⟨wr.heap.size, 3, none⟩ = some (.int .i64 f1) := by simp [World.cell?, yh]
                 have yk := (hb.cell (p := ⟨0, 1, none⟩) HGK.out).trans (cell_kept HX.out.2.2.2.2 HS.out)
                 have HI9 := Lib.hid hI
                 have HS9 := Lib.hid ((HBX.out.trans (HS.out.mono HLX.out)).trans hb)
                 clear hI hb hO))
          all_goals
            go_wp2
            go_roundw
            case rel =>
              refine ⟨k + 1, by omega, by go_num, ?_, HS9⟩
              rw [HSU.out, ← line_shape, list_append, Lib.byteCells_append]
              exact Or.inr HI9.out
            case measure => simp [intOf]; omega
        · have hK : kindT 2 = ⟨#[110, 117, 109, 98, 101, 114]⟩ := rfl
          rw [hK] at hsucc
          have HSU := Lib.hid hsucc
          have HLZ : Hid ((Lib.byteCells L.data.toList).length + (nm ++ ⟨#[32]⟩ ++ ⟨#[110, 117, 109, 98, 101, 114]⟩ ++ ⟨#[32]⟩ ++ (decT f0 ++ ⟨#[45]⟩ ++ decT f1) ++ ⟨#[10]⟩ : ByteArray).size ≤ 140737488355328) := by
            show _ ≤ _
            have e8 : (Lib.byteCells L.data.toList).length = L.size := by simp [Lib.byteCells]
            have t1 : (⟨#[32]⟩ : ByteArray).size = 1 := rfl
            have t2 : (⟨#[10]⟩ : ByteArray).size = 1 := rfl
            have t3 : (⟨#[45]⟩ : ByteArray).size = 1 := rfl
            have t4 : (⟨#[110, 117, 109, 98, 101, 114]⟩ : ByteArray).size = 6 := rfl
            simp only [ByteArray.size_append]
            omega
          have HCZ : Hid ((decT f0 ++ ⟨#[45]⟩ ++ decT f1 : ByteArray).size ≤ 2097152 ∧ nm.size ≤ 2097152) := by
            have t3 : (⟨#[45]⟩ : ByteArray).size = 1 := rfl
            refine ⟨?_, by omega⟩
            simp only [ByteArray.size_append]
            omega
          have xh := heap_alloc_new wr (.cells #[.string nm, .int .i64 2, .int .i64 f0, .int .i64 f1] 51)
          have bx := below_box wr (.cells #[.string nm, .int .i64 2, .int .i64 f0, .int .i64 f1] 51)
          have x0 : (wr.alloc (.cells #[.string nm, .int .i64 2, .int .i64 f0, .int .i64 f1] 51)).cell? ⟨wr.heap.size, 0, none⟩ = some (.string nm) := by simp
          have x1 : (wr.alloc (.cells #[.string nm, .int .i64 2, .int .i64 f0, .int .i64 f1] 51)).cell? ⟨wr.heap.size, 1, none⟩ = some (.int .i64 2) := by simp
          have x2 : (wr.alloc (.cells #[.string nm, .int .i64 2, .int .i64 f0, .int .i64 f1] 51)).cell? ⟨wr.heap.size, 2, none⟩ = some (.int .i64 f0) := by simp
          have x3 : (wr.alloc (.cells #[.string nm, .int .i64 2, .int .i64 f0, .int .i64 f1] 51)).cell? ⟨wr.heap.size, 3, none⟩ = some (.int .i64 f1) := by simp
          have xk : (wr.alloc (.cells #[.string nm, .int .i64 2, .int .i64 f0, .int .i64 f1] 51)).cell? ⟨0, 2, none⟩ = some (.string ⟨#[110, 117, 109, 98, 101, 114]⟩) := cell_kept HLW.out.2 bx
          have hlx : wr.heap.size < (wr.alloc (.cells #[.string nm, .int .i64 2, .int .i64 f0, .int .i64 f1] 51)).heap.size := by simp
          obtain ⟨wx, hwx⟩ : ∃ wx, wr.alloc (.cells #[.string nm, .int .i64 2, .int .i64 f0, .int .i64 f1] 51) = wx := ⟨_, rfl⟩
          have HIX := Lib.hid (builder_later HI.out bx)
          have HPX := Lib.hid (HPR.out.below bx)
          have HLX := Lib.hid (Nat.le_trans HLE.out bx.size)
          have HBX := Lib.hid (HB.out.trans (bx.mono HLE.out))
          rw [hwx] at xh x0 x1 x2 x3 xk hlx HIX HPX HLX HBX
          have HXH := Lib.hid xh
          have HXL := Lib.hid hlx
          have HX := Lib.hid (And.intro x0 (And.intro x1 (And.intro x2 (And.intro x3 xk))))
          have HS : Hid (Below wx.heap.size wx wx.drew) := (Below.refl wx.heap.size wx).drew
          clear hsucc hK htz z0 z1 h1 bx xh hlx t1 hk x0 x1 x2 x3 xk
          go_upto_region 8 with fail
          go_region_held3 (fun W => W.cell? ⟨wr.heap.size, 0, none⟩ = some (.string nm) ∧ W.cell? ⟨wr.heap.size, 1, none⟩ = some (.int .i64 2) ∧ W.cell? ⟨wr.heap.size, 2, none⟩ = some (.int .i64 f0) ∧ W.cell? ⟨wr.heap.size, 3, none⟩ = some (.int .i64 f1) ∧ W.cell? ⟨0, 2, none⟩ = some (.string ⟨#[110, 117, 109, 98, 101, 114]⟩))
            (first | exact ⟨y0, y1, y2, y3, yk⟩ | exact ⟨cell_kept HX.out.1 HS.out, cell_kept HX.out.2.1 HS.out, cell_kept HX.out.2.2.1 HS.out, cell_kept HX.out.2.2.2.1 HS.out, cell_kept HX.out.2.2.2.2 HS.out⟩ | exact ⟨cell_kept (cell_kept HX.out.1 HS.out) (below_box _ _), cell_kept (cell_kept HX.out.2.1 HS.out) (below_box _ _), cell_kept (cell_kept HX.out.2.2.1 HS.out) (below_box _ _), cell_kept (cell_kept HX.out.2.2.2.1 HS.out) (below_box _ _), cell_kept (cell_kept HX.out.2.2.2.2 HS.out) (below_box _ _)⟩)
            (first
              | (go_at_call 31
                 refine (HDA.out _ _ (by first | exact HR0.out.1 | exact HR1.out.1) (by first | exact HR0.out.2 | exact HR1.out.2) (HPX.out.below HS.out)).mono ?_
                 rintro e w6 ⟨rfl, hb⟩
                 have HS := Lib.hid (below_step HS.out hb)
                 clear hb)
              | (go_at_call 30
                 refine (line3_any _ nm ⟨#[110, 117, 109, 98, 101, 114]⟩ (decT f0 ++ ⟨#[45]⟩ ++ decT f1) _ (by simp) (by simp) (by simp) HCZ.out.2 (by decide) HCZ.out.1).mono ?_
                 rintro e w7 ⟨rfl, hb⟩
                 have HS := Lib.hid (below_step (below_step HS.out (below_box _ _)) hb)
                 clear hb)
              | (go_at_call 29
                 refine (Tryd.Builder_WriteString_k w1.heap.size w1.heap.size _ _ _ (builder_later HIX.out HS.out) HLZ.out (Nat.le_trans HLX.out HS.out.size)).mono ?_
                 rintro e w8 ⟨rfl, hI, hb, hO⟩
                 have yh := hO wr.heap.size _ ((HS.out.block _ HXL.out).trans HXH.out) (by intro e; injection e with e; have := HLB.out; omega) (by intro c fz e; injection e with _ e2 _; exact absurd e2 (by decide))
                 have y0 : w8.cell? ⟨wr.heap.size, 0, none⟩ = some (.string nm) := by simp [World.cell?, yh]
                 have y1 : w8.cell? ⟨wr.heap.size, 1, none⟩ = some (.int .i64 2) := by simp [World.cell?, yh]
                 have y2 : w8.cell? ⟨wr.heap.size, 2, none⟩ = some (.int .i64 f0) := by simp [World.cell?, yh]
                 have y3 : w8.cell? ⟨wr.heap.size, 3, none⟩ = some (.int .i64 f1) := by simp [World.cell?, yh]
                 have yk := (hb.cell (p := ⟨0, 2, none⟩) HGK.out).trans (cell_kept HX.out.2.2.2.2 HS.out)
                 have HI9 := Lib.hid hI
                 have HS9 := Lib.hid ((HBX.out.trans (HS.out.mono HLX.out)).trans hb)
                 clear hI hb hO))
          all_goals
            go_wp2
            go_roundw
            case rel =>
              refine ⟨k + 1, by omega, by go_num, ?_, HS9⟩
              rw [HSU.out, ← line_shape, list_append, Lib.byteCells_append]
              exact Or.inr HI9.out
            case measure => simp [intOf]; omega
      · have hkn : k = n := by omega
        have k1 : ¬ (k : Int) < (n : Int) := by omega
        have HST := Lib.hid (Tryd.Builder_String_any_k w1.heap.size w1.heap.size (layTo u ds k).data.toList wr HI.out HLE.out)
        have HF : Hid ((⟨(layTo u ds k).data.toList.toArray⟩ : ByteArray) = layTo u ds n) := by show _ = _; rw [hkn]
        clear hkn
        go_wp2_with fail
        refine HST.out.mono ?_
        rintro e w9 ⟨rfl, _, hb, _⟩
        have B9 := Lib.hid (HBR.out.trans (hb.mono B1.out.size))
        clear hb
        go_wp2
        go_ret
        exact ⟨congrArg (fun z => Ending.returned (.string z)) HF.out, B9.out⟩
end Go.Proofs.YtmdgpkiicjmfhaaDoor
