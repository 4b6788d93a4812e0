/- spec.l07Keys gives the texts of a field of all cards of a deck, or the code; spec.l07Step finds the first text that is less than the one before it: contracts. -/
import Derived.Test.YtamookdlbmbncabDoorSortMath
import Derived.Test.YtamookdlbmbncabDoorOwnMem
import Derived.Maps.AppendAt
import Derived.Deep.AppendLies
import Derived.OwnWalk
namespace Go.Proofs.YtamookdlbmbncabDoor
open Go.ChangeShapes Go.WideShapes Go.ChangeAt Go.RowKit

theorem info_key : (Tryd.prog.info? 9).map (fun i => (i.zero, i.size, i.bytes)) = some (some (.string ⟨#[]⟩), 1, 16) := by kernel_rfl

/-- the text of a card's field -/
def keyS (i j : Nat) (d : CardV) : ByteArray := textS (partOf d.xs i j)
def keyL (D : List CardV) (i j k : Nat) : List ByteArray := (D.take k).map (keyS i j)
theorem keyL_succ {D : List CardV} {i j k : Nat} {d : CardV} (h : D[k]? = some d) : keyL D i j (k + 1) = keyL D i j k ++ [keyS i j d] := by
  unfold keyL
  rw [List.take_add_one, h, List.map_append]
  rfl
theorem keyL_length {D : List CardV} {i j k : Nat} (h : k ≤ D.length) : (keyL D i j k).length = k := by simp [keyL]; omega
/-- the texts lie in block g -/
def KeyRow (w : World) (g : Nat) (D : List CardV) (i j : Nat) : Prop := ∀ k d, D[k]? = some d → w.cell? ⟨g, k, none⟩ = some (.string (keyS i j d))
/-- a slice of the texts -/
def GivesKeys (D : List CardV) (i j : Nat) (w : World) (e : Ending) (w' : World) : Prop :=
  ∃ A cap, e = .returned (.tuple #[.slice A D.length cap, .int .i64 0]) ∧ Below w.heap.size w w' ∧ (0 < D.length → ∃ g, A = some ⟨g, 0, none⟩ ∧ g < w'.heap.size ∧ KeyRow w' g D i j)
def GivesNoKeys (a : Int) (w : World) (e : Ending) (w' : World) : Prop :=
  e = .returned (.tuple #[.slice none 0 0, .int .i64 a]) ∧ Below w.heap.size w w'

/-- a deck whose cards' capacities are right -/
def CapsOk (D : List CardV) : Prop := ∀ d ∈ D, d.xs.length ≤ d.cap ∧ d.cap ≤ 9223372036854775807

theorem own_key {w w' : World} {base : Nat} {v v' : Value} {ws : List ByteArray} {x : ByteArray} {W : World} {B : Nat}
    (hown : w'.ownsRow base 9 1 v' (ws.length + 1) (ws.map Value.string ++ [.string x])) (hgrow : (w.alloc (.cells #[.string x] 9)).grownBy w' v.ownBlock)
    (hold : w.ownsRow base 9 1 v ws.length (ws.map Value.string)) (hb : Below B W w) (hB : B ≤ base) (hs : B ≤ w.heap.size) :
    w'.ownsRow base 9 1 v' (ws ++ [x]).length ((ws ++ [x]).map Value.string) ∧ Below B W w' := by
  refine ⟨by simpa using hown, ?_⟩
  exact (hb.alloc hs _).grown hgrow (by simp; omega) (fun k hk => Nat.le_trans hB (hold.lt k hk).1)

section
variable (A : Option Addr) (c : Nat) (D : List CardV) (B : Nat) (a b : Int) (w : World) (h : Deck w B A D) (hB : B ≤ w.heap.size) (hn : D.length ≤ 1048576) (hl : ∀ d ∈ D, d.xs.length ≤ 1048576)
include h hB hn hl
set_option maxRecDepth 100000 in
set_option maxHeartbeats 4000000 in
theorem l07Keys_any (hcap : CapsOk D) :
    Calls Tryd.prog 28 #[.slice A D.length c, .agg #[.int .i64 a, .int .i64 b]] w fun e w' => (keysC (holes D) a b ≠ 0 ∧ GivesNoKeys (keysC (holes D) a b) w e w') ∨ (keysC (holes D) a b = 0 ∧ GivesKeys D a.toNat b.toNat w e w') := by
  have b0 := below_box w (.cells #[.int .i64 a, .int .i64 b] 36)
  have p0 : (w.alloc (.cells #[.int .i64 a, .int .i64 b] 36)).cell? ⟨w.heap.size, 0, none⟩ = some (.int .i64 a) := by simp
  have p1 : (w.alloc (.cells #[.int .i64 a, .int .i64 b] 36)).cell? ⟨w.heap.size, 1, none⟩ = some (.int .i64 b) := by simp
  have hd := fun W (hW : Below B w W) => l02Deck_any A c D B W (h.below hW) (Nat.le_trans hB hW.size) hn hl
  have hw := fun W (hW : Below B w W) => l07Width_any A c D B W (h.below hW) hn hl
  have hf := fun W => l02Field_any a b (widthH (holes D)) W
  have HH := Lib.hid h
  have HL := Lib.hid hl
  have HCP := Lib.hid hcap
  have HD := Lib.hid hd
  have HW := Lib.hid hw
  have HF := Lib.hid hf
  have B0 := Lib.hid (b0.mono hB)
  have BW := Lib.hid b0
  obtain ⟨n, hN⟩ : ∃ n, D.length = n := ⟨_, rfl⟩
  obtain ⟨z, hz⟩ : ∃ z, widthH (holes D) = z := ⟨_, rfl⟩
  have HN := Lib.hid hN
  have HZ := Lib.hid hz
  simp only [hN, hz] at HD HW HF hn ⊢
  clear h hl hcap hd hw hf b0 hN hz
  rcases keysC_cases (holes D) a b with ⟨e, hv⟩ | ⟨e, hv, hf⟩ | ⟨i, j, rfl, rfl, hij, hj, hv, hf, e⟩
  · rw [e]
    simp only [hv] at HD
    clear e hv HW HF HH HCP HL HZ p0 p1
    go_enter Tryd.func28, Tryd.ntmps28
    go_wp2_with fail
    refine (HD.out _ B0.out).mono ?_
    rintro e w1 ⟨rfl, hb⟩
    have B1 := Lib.hid (below_step BW.out hb)
    clear hb
    go_wp2
    go_ret2
    exact Or.inl ⟨by decide, rfl, B1.out⟩
  · rw [e]
    simp only [hv] at HD
    rw [HZ.out] at hf
    simp only [hf] at HF
    clear e hv hf HH HCP HL HZ
    go_enter Tryd.func28, Tryd.ntmps28
    go_wp2_with fail
    refine (HD.out _ B0.out).mono ?_
    rintro e w1 ⟨rfl, hb⟩
    have B1 := Lib.hid (below_step BW.out hb)
    have B2 := Lib.hid (B0.out.trans (hb.mono (Nat.le_trans hB (by simp))))
    have q0 := cell_kept p0 hb
    have q1 := cell_kept p1 hb
    clear hb
    go_wp2_with fail
    go_region_held3 (fun W => W.cell? ⟨w.heap.size, 0, none⟩ = some (.int .i64 a) ∧ W.cell? ⟨w.heap.size, 1, none⟩ = some (.int .i64 b))
      (first | exact ⟨q0, q1⟩ | exact ⟨cell_kept (w := w1.drew) q0 K1.out, cell_kept (w := w1.drew) q1 K1.out⟩ | exact ⟨cell_kept (cell_kept (w := w1.drew) q0 K1.out) K3.out, cell_kept (cell_kept (w := w1.drew) q1 K1.out) K3.out⟩)
      (first
        | (go_at_call 27
           refine (HW.out _ B2.out.drew).mono ?_
           rintro e w2 ⟨rfl, hb⟩
           have K1 : Hid (Below w1.drew.heap.size w1.drew w2) := hb
           clear hb)
        | (go_at_call 26
           refine (HF.out _).mono ?_
           rintro e w3 ⟨rfl, hb⟩
           have K2 := Lib.hid (below_step (below_step B1.out.drew K1.out) hb)
           have K3 := Lib.hid hb
           clear hb))
    all_goals
      go_wp2
      go_ret2
      exact Or.inl ⟨by decide, rfl, K2.out⟩
  · simp only [hv] at HD
    have HV := Lib.hid hv
    have hn40 : n ≤ 40 := by
      have := deck_len hv
      rw [← HN.out]
      simpa [holes] using this
    have hf' := hf
    rw [HZ.out] at hf'
    simp only [hf'] at HF
    have HJ := Lib.hid hj
    rw [Int.toNat_natCast, Int.toNat_natCast]
    obtain ⟨r, hr⟩ : ∃ r, keysB (holes D) i j = r := ⟨_, rfl⟩
    rw [hr] at e
    rw [e]
    have HR := Lib.hid hr
    have hi0 : (0 : Int) ≤ (i : Int) := Int.natCast_nonneg _
    obtain ⟨i0, hi0', hz0, hz1, hz2⟩ := info_parts info_key
    clear hf hf' hv e hr hj
    go_enter Tryd.func28, Tryd.ntmps28
    go_wp2_with fail
    refine (HD.out _ B0.out).mono ?_
    rintro e w1 ⟨rfl, hb⟩
    have B1 := Lib.hid (below_step BW.out hb)
    have B2 := Lib.hid (B0.out.trans (hb.mono (Nat.le_trans hB (by simp))))
    have q0 := cell_kept p0 hb
    have q1 := cell_kept p1 hb
    clear hb p0 p1
    go_wp2_with fail
    go_region_held3 (fun W => W.cell? ⟨w.heap.size, 0, none⟩ = some (.int .i64 i) ∧ W.cell? ⟨w.heap.size, 1, none⟩ = some (.int .i64 j))
      (first | exact ⟨q0, q1⟩ | exact ⟨r0, r1⟩ | exact ⟨s0, s1⟩)
      (first
        | (go_at_call 27
           refine (HW.out _ B2.out.drew).mono ?_
           rintro e w2 ⟨rfl, hb⟩
           have K1 : Hid (Below w1.drew.heap.size w1.drew w2) := hb
           have r0 := cell_kept (w := w1.drew) q0 K1.out
           have r1 := cell_kept (w := w1.drew) q1 K1.out
           clear hb)
        | (go_at_call 26
           refine (HF.out _).mono ?_
           rintro e w3 ⟨rfl, hb⟩
           have K2 := Lib.hid (below_step (below_step B1.out.drew K1.out) hb)
           have K4 := Lib.hid ((B2.out.drew.trans (K1.out.mono (Nat.le_trans hB (Nat.le_of_lt (World.block_lt_of_cell? _ _ q0))))).trans (hb.mono (Nat.le_trans hB (Nat.le_of_lt (World.block_lt_of_cell? _ _ r0)))))
           have s0 := cell_kept r0 hb
           have s1 := cell_kept r1 hb
           clear hb))
    all_goals
      have z3 : w.heap.size < w3.heap.size := World.block_lt_of_cell? _ _ s0
      clear q0 q1 r0 r1 K1 B1 B2
      go_wp2_with fail
      go_loopw [6, 7] (fun v t wr => ∃ k : Nat, ∃ vv : Value, k ≤ n ∧ t = .int .i64 k ∧ vv = v ∧ Hid (keysB ((holes D).take k) i j = true) ∧ Hid (wr.ownsRow w3.heap.size 9 1 v (keyL D i j k).length ((keyL D i j k).map Value.string)) ∧ Hid (Below w3.heap.size w3 wr)) (fun _ t _ => n - (intOf t).toNat)
      case atStart =>
        refine ⟨0, _, Nat.zero_le _, rfl, rfl, by show _ = _; simp [keysB], ?_, below_box _ _⟩
        exact ⟨rfl, Or.inr ⟨w3.heap.size, 0, #[], rfl, Nat.le_refl _, heap_alloc_new _ _, Nat.le_refl _, Nat.zero_le _, rfl, rfl⟩⟩
      case round =>
        obtain ⟨k, vv, hk, rfl, rfl, HK, HO, HB⟩ := hrel
        have t0 := cell_kept s0 HB.out
        have t1 := cell_kept s1 HB.out
        have hwr : w3.heap.size ≤ wr.heap.size := HB.out.size
        by_cases hlt : k < n
        · obtain ⟨d, hd⟩ : ∃ d, D[k]? = some d := ⟨D[k]'(by rw [HN.out]; exact hlt), List.getElem?_eq_getElem _⟩
          have hdx : (holes D)[k]? = some d.xs := by simp [holes, hd]
          obtain ⟨g1, g2⟩ := deck_width HV.out hdx
          have hxl : 0 < d.xs.length := by have := HJ.out; omega
          obtain ⟨bq, oq, rfl, _, hcell⟩ := (HH.out.below (K4.out.trans (HB.out.mono (Nat.le_trans hB (by omega))))) (by rw [HN.out]; omega)
          obtain ⟨hc, hi⟩ := hcell k d hd
          have hm := List.mem_of_getElem? hd
          obtain ⟨m1, m2⟩ := HCP.out d hm
          have hx1 := HL.out d hm
          obtain ⟨ad, zd, xd⟩ := d
          simp only at hc hi m1 m2 hx1 g1 g2 hxl hdx
          unfold CardV.value at hc
          simp only at hc
          obtain ⟨b2, o2, rfl, _⟩ := hi hxl
          have hkey := fun W hc hI hs => l03Key_any b2 o2 zd xd bq (oq + k) i j B W hc hI hs m1 ⟨hx1, m2⟩ hij (by rw [g2]; exact HJ.out)
          obtain ⟨u, hu⟩ : ∃ u, textOk (partOf xd i j) = u := ⟨_, rfl⟩
          have Hu := Lib.hid hu
          have HDX := Lib.hid hdx
          have Hd := Lib.hid hd
          simp only [hu] at hkey
          have HKY := Lib.hid hkey
          have hk0 : (0 : Int) ≤ (k : Int) := Int.natCast_nonneg _
          have hk1 : (k : Int) < (n : Int) := by omega
          have HI := Lib.hid hi
          have HXL := Lib.hid hxl
          have hlen := keyL_length (D := D) (i := i) (j := j) (k := k) (by rw [HN.out]; exact hk)
          clear hcell hd hi hkey hdx hu m1 m2 hx1 g1 g2 hxl hm
          cases u
          · obtain rfl : r = false := by rw [← HR.out]; exact keysB_bad HDX.out Hu.out
            go_wp2_with fail
            go_region_held3 (fun W => W.cell? ⟨w.heap.size, 0, none⟩ = some (.int .i64 i) ∧ W.cell? ⟨w.heap.size, 1, none⟩ = some (.int .i64 j))
              (first | exact ⟨t0, t1⟩ | exact ⟨u0, u1⟩)
              (first
                | (go_at_call 38
                   refine (HKY.out _ ?_ ?_ ?_).mono ?_
                   · exact hc
                   · exact HI.out.drew
                   · exact Nat.le_trans hB (by show w.heap.size ≤ wr.heap.size; omega)
                   rintro e w5 ⟨rfl, hb⟩
                   have HB5 := Lib.hid (below_step HB.out.drew hb)
                   have u0 := cell_kept (w := wr.drew) t0 hb
                   have u1 := cell_kept (w := wr.drew) t1 hb
                   clear hb))
            all_goals
              go_wp2
              go_ret2
              exact ⟨rfl, below_step K2.out HB5.out⟩
          · have HK1 : Hid (keysB ((holes D).take (k + 1)) i j = true) := keysB_more HDX.out HK.out Hu.out
            have HKS := Lib.hid (keyL_succ (i := i) (j := j) Hd.out)
            obtain ⟨S, hS⟩ : ∃ S, keyS i j ⟨some ⟨b2, o2, none⟩, zd, xd⟩ = S := ⟨_, rfl⟩
            have hS' : textS (partOf xd i j) = S := hS
            simp only [hS'] at HKY
            rw [hS] at HKS
            obtain ⟨ws, hws⟩ : ∃ ws, keyL D i j k = ws := ⟨_, rfl⟩
            rw [hws] at HO HKS hlen
            clear hS hS' hws HDX Hu Hd
            go_wp2_with fail
            go_region_held3 (fun W => W.cell? ⟨w.heap.size, 0, none⟩ = some (.int .i64 i) ∧ W.cell? ⟨w.heap.size, 1, none⟩ = some (.int .i64 j))
              (first | exact ⟨t0, t1⟩ | exact ⟨u0, u1⟩)
              (first
                | (go_at_call 38
                   refine (HKY.out _ ?_ ?_ ?_).mono ?_
                   · exact hc
                   · exact HI.out.drew
                   · exact Nat.le_trans hB (by show w.heap.size ≤ wr.heap.size; omega)
                   rintro e w5 ⟨rfl, hb⟩
                   have HB5 := Lib.hid (below_step HB.out.drew hb)
                   have u0 := cell_kept (w := wr.drew) t0 hb
                   have u1 := cell_kept (w := wr.drew) t1 hb
                   have HO5 : Hid (w5.ownsRow w3.heap.size 9 1 vv ws.length (ws.map Value.string)) := own_moved HO.out (fun x _ hx => hb.block x hx)
                   have z5 : w3.heap.size ≤ w5.heap.size := Nat.le_trans hwr hb.size
                   clear hb))
            all_goals
              go_wp2_with (at_builtin; refine wpList_append_own _ rfl _ _ 44 rfl w3.heap.size 9 i0 (.string ⟨#[]⟩) 1 16 Tryd.underlying44 hi0' hz0 hz1 hz2 rfl (by decide) _ _ _ rfl (HO5.out.alloc _) ⟨w5.heap.size, 0, none⟩ 1 1 [.string S] rfl rfl ?c1 ?c2 ?c3 ?c4 ?c5 ?_; rotate_left 5; intro v' w9 hown hgrow _; obtain ⟨ho, hbb⟩ := own_key hown hgrow HO5.out HB5.out (Nat.le_refl _) z5; have HW1 := Lib.hid ho; have HB1 := Lib.hid hbb; clear hown hgrow ho hbb)
              case c1 =>
                intro j u hj
                match j, hj with
                | 0, hj => simp at hj; subst hj; simp [Addr.add]
              case c2 => intro u hu; simp at hu; subst hu; rfl
              case c3 => unfold maxLen; omega
              case c4 => omega
              case c5 => simp; omega
              go_roundw
              case rel => exact ⟨k + 1, _, by omega, by go_num, rfl, HK1, by rw [HKS.out]; exact HW1, HB1⟩
              case measure => simp [intOf]; omega
        · have hkn : k = n := by omega
          have hk1 : ¬ (k : Int) < (n : Int) := by omega
          obtain rfl : r = true := by
            rw [← HR.out]
            have := HK.out
            rwa [List.take_of_length_le (by simp [holes]; rw [HN.out]; omega)] at this
          have hlen := keyL_length (D := D) (i := i) (j := j) (k := n) (by rw [HN.out]; exact Nat.le_refl _)
          have HE : Hid (∃ A cap, vv = .slice A n cap ∧ (0 < n → ∃ g, A = some ⟨g, 0, none⟩ ∧ g < wr.heap.size ∧ KeyRow wr g D i j)) := by
            have how := HO.out
            rw [hkn, hlen] at how
            rcases how.2 with ⟨hv, h0⟩ | ⟨g, cap, cur, hv, hgb, hh, x1, x2, x3, x4⟩
            · exact ⟨none, 0, by rw [hv]; congr 1; omega, fun hh => absurd hh (by omega)⟩
            · refine ⟨_, cap, hv, fun _ => ⟨g, rfl, ?_, ?_⟩⟩
              · rcases Nat.lt_or_ge g wr.heap.size with h | h
                · exact h
                · rw [Array.getElem?_eq_none h] at hh
                  cases hh
              · intro q d hq
                subst hv
                have := how.cells (g := g) rfl q (.string (keyS i j d)) (by
                  rw [List.getElem?_map, keyL, List.getElem?_map, List.getElem?_take_of_lt (by
                    have := HN.out
                    rcases Nat.lt_or_ge q D.length with h | h
                    · omega
                    · rw [List.getElem?_eq_none h] at hq; cases hq), hq]
                  rfl)
                cases q with
                | zero => simpa [Addr.add] using this
                | succ q => simpa [Addr.add] using this
          clear hkn HO HK
          go_wp2
          go_ret2
          obtain ⟨A', cap, hv, hr⟩ := HE.out
          refine ⟨A', cap, ?_, below_step K2.out HB.out, ?_⟩
          · rw [HN.out, ← hv]; rfl
          · rw [HN.out]; exact hr
end
end Go.Proofs.YtamookdlbmbncabDoor
