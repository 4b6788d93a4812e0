/- impl.isMaster and feed.masters: the last master ahead of each card: contracts. -/
import Derived.Test.YtamookdlbmbncaaInterMath
import Derived.Test.YtamookdlbmbncaaFeed
namespace Go.Proofs.Ytamookdlbmbncaa
open Go.ChangeShapes Go.WideShapes Go.ChangeAt Go.RowKit

theorem isMaster_any (A : Option Addr) (c : Nat) (xs : List Int) (B k : Nat) (w : World) (h : Ints w B A xs) (hB : B ≤ w.heap.size) (hk : k < xs.length) :
    Calls Try.prog 68 #[.agg #[.slice A xs.length c], .int .i64 k] w fun e w' => e = .returned (.bool (mastB xs k)) ∧ Below w.heap.size w w' := by
  obtain ⟨b, off, rfl, hb, hcell⟩ := (h.alloc hB (.cells #[.slice A xs.length c] 33)) (by omega)
  have c1 := hcell k hk
  have q0 := new_cell w (.slice (some ⟨b, off, none⟩) xs.length c) 33
  have B0 := Lib.hid (below_box w (.cells #[.slice (some ⟨b, off, none⟩) xs.length c] 33))
  obtain ⟨x, hx⟩ : ∃ x, xs[k]?.getD 0 = x := ⟨_, rfl⟩
  obtain ⟨y, hy⟩ : ∃ y, bits .and .i64 x 2 = y := ⟨_, rfl⟩
  have hm : mastB xs k = (y != 0) := by
    unfold mastB
    rw [hx, hy]
    by_cases h0 : y = 0 <;> simp [h0]
  rw [hm]
  rw [hx] at c1
  obtain ⟨n, hN⟩ : ∃ n, xs.length = n := ⟨_, rfl⟩
  rw [hN] at q0 hk c1 B0 ⊢
  obtain ⟨W0, hW0⟩ : ∃ W0, w.alloc (.cells #[.slice (some ⟨b, off, none⟩) n c] 33) = W0 := ⟨_, rfl⟩
  rw [hW0] at q0 c1 B0
  have k0 : (0 : Int) ≤ (k : Int) := Int.natCast_nonneg _
  have k1 : (k : Int) < (n : Int) := by omega
  clear hcell hx hm hN h
  go_enter Try.func68, Try.ntmps68
  go_wp2
  go_ret
  exact ⟨by first | rfl | rw [hy], B0.out⟩

/-- a card whose numbers lie in another block than g and q -/
def Away (w : World) (g q : Nat) (r : CardV) : Prop := ∃ b off, r.at_ = some ⟨b, off, none⟩ ∧ b ≠ g ∧ b ≠ q ∧ b < w.heap.size ∧ ∀ i, i < r.xs.length → w.cell? ⟨b, off + i, none⟩ = some (.int .i64 (r.xs[i]?.getD 0))
section
variable {w w' : World} {g q : Nat} {r : CardV}
theorem Away.later (h : Away w g q r) (hb : Below w.heap.size w w') : Away w' g q r := by
  obtain ⟨b, off, h1, h2, h5, h3, h4⟩ := h
  exact ⟨b, off, h1, h2, h5, Nat.lt_of_lt_of_le h3 hb.size, fun i hi => cell_kept (h4 i hi) hb⟩
theorem Away.put (h : Away w g q r) {p : Nat} (hp : p = g ∨ p = q) (i : Nat) (v : Value) : Away (w.setCell ⟨p, i, none⟩ v) g q r := by
  obtain ⟨b, off, h1, h2, h5, h3, h4⟩ := h
  have hne : b ≠ p := by rcases hp with rfl | rfl <;> assumption
  exact ⟨b, off, h1, h2, h5, by simpa [World.setCell] using h3, fun j hj => by rw [World.cell?_setCell_other _ _ _ _ (by intro e; injection e with e; exact hne e.symm)]; exact h4 j hj⟩
theorem Away.ints (h : Away w g q r) : Ints w w.heap.size r.at_ r.xs := fun _ => by
  obtain ⟨b, off, h1, _, _, h3, h4⟩ := h
  exact ⟨b, off, h1, h3, h4⟩
theorem block_put {L : List Value} (h : w.heap[g]? = some (.cells L.toArray 33 (0, 0))) (i : Nat) (v : Value) : (w.setCell ⟨g, i, none⟩ v).heap[g]? = some (.cells (L.set i v).toArray 33 (0, 0)) := by
  simp only [World.setCell, Array.getElem?_modify, if_true, h, Option.map_some]
  congr 2
  apply Array.ext'
  simp
theorem block_cell {L : List Value} (h : w.heap[g]? = some (.cells L.toArray 33 (0, 0))) (i : Nat) : w.cell? ⟨g, i, none⟩ = L[i]? := by
  rw [cell_of_row w g i _ _ _ h]
  simp
theorem block_lt {cs : Array Value} {z : Nat × Nat} (h : w.heap[g]? = some (.cells cs 33 z)) : g < w.heap.size := by
  rcases Nat.lt_or_ge g w.heap.size with hlt | hge
  · exact hlt
  · rw [Array.getElem?_eq_none hge] at h
    cases h
end

/-- what is read for card t -/
def readM (H : List (List Int)) (k z t : Nat) : List Int := if mastB (H[t]?.getD []) k = true then List.replicate z 0 else lastM H k t
/-- what is read for each card -/
def GivesReads (D : List CardV) (k z n : Nat) (w : World) (e : Ending) (w' : World) : Prop :=
  ∃ g R, e = .returned (.slice (some ⟨g, 0, none⟩) n n) ∧ Below w.heap.size w w' ∧ R.length = n ∧ Deck w' w'.heap.size (some ⟨g, 0, none⟩) R ∧ ∀ (t : Nat) (r : CardV), R[t]? = some r → r.xs = readM (holes D) k z t

set_option maxRecDepth 100000 in
set_option maxHeartbeats 4000000 in
theorem masters_any (A : Option Addr) (c : Nat) (D : List CardV) (B k z : Nat) (w : World) (h : Deck w B A D) (hB : B ≤ w.heap.size) (hn : D.length ≤ 40) (hz : widthH (holes D) = z) (hz1 : 1 ≤ z) (hz2 : z ≤ 20) (hat : ∀ (i : Nat) (d : CardV), D[i]? = some d → d.xs.length = z) (hk : k < z) (hf : ∀ xs, (holes D)[0]? = some xs → mastB xs k = true) :
    Calls Try.prog 69 #[.slice A D.length c, .int .i64 k] w (GivesReads D k z D.length w) := by
  have hl : ∀ d ∈ D, d.xs.length ≤ 1048576 := fun d hd => by
    obtain ⟨i, hi⟩ := List.mem_iff_getElem?.1 hd
    rw [hat i d hi]; omega
  have hw := widthOf_any A c D B w h (by omega) hl
  have hbl := fun W => blank_any A c D.length z W hn hz2
  have him := fun (i : Nat) (d : CardV) (hd : D[i]? = some d) (W : World) (hW : Below w.heap.size w W) (hI : Ints W B d.at_ d.xs) => isMaster_any d.at_ d.cap d.xs B k W hI (Nat.le_trans hB hW.size) (by rw [hat i d hd]; exact hk)
  rw [hz] at hw
  obtain ⟨n, hN⟩ : ∃ n, D.length = n := ⟨_, rfl⟩
  rw [hN] at hw hn ⊢
  simp only [hN] at hbl
  have H := Lib.hid h
  have HN := Lib.hid hN
  have HW := Lib.hid hw
  have HBL := Lib.hid hbl
  have HIM := Lib.hid him
  have HAT := Lib.hid hat
  have HF := Lib.hid hf
  clear h hN hw hbl him hat hf hl hz
  go_enter Try.func69, Try.ntmps69
  go_wp2_with fail
  refine HW.out.mono ?_
  rintro e w1 ⟨rfl, hb⟩
  have B1 := Lib.hid hb
  clear hb
  go_wp2_with fail
  refine (HBL.out _).mono ?_
  rintro e w2 ⟨g, E, rfl, hEl, hEz, hb, hg1, hg2, hnr⟩
  have hbx := below_box w2 (.cells #[.slice none 0 0] 33)
  have B2 := Lib.hid (below_step B1.out hb)
  have hglt := block_lt hg2
  have HGL := Lib.hid (show w.heap.size ≤ g from Nat.le_trans B1.out.size hg1)
  have HQN := Lib.hid (heap_alloc_new w2 (.cells #[.slice none 0 0] 33))
  have HGB : Hid ((w2.alloc (.cells #[.slice none 0 0] 33)).heap[g]? = some (.cells (E.map CardV.value).toArray 33 (0, 0))) := by
    show _ = _
    rw [hbx.block g hglt, hg2]
    simp [cellsOf, hEl]
  have B3 := Lib.hid (below_step B2.out hbx)
  have HQ := Lib.hid (show w.heap.size ≤ w2.heap.size from B2.out.size)
  have HGQ : Hid (g ≠ w2.heap.size) := Nat.ne_of_lt hglt
  have HAW : Hid (∀ (i : Nat) (r : CardV), E[i]? = some r → Away (w2.alloc (.cells #[.slice none 0 0] 33)) g w2.heap.size r) := fun i r hr => by
    obtain ⟨ge, ex, h1, h2, h3⟩ := hnr.each r (List.mem_of_getElem? hr)
    have h4 := h3.lt
    refine ⟨ge, 0, h1, ?_, by omega, Nat.lt_of_lt_of_le h4 hbx.size, fun j hj => ?_⟩
    · exact row_not_cards h3 hg2
    · rw [Nat.zero_add]
      exact (h3.later hbx).cell hj
  have HZR : Hid (∀ (i : Nat) (r : CardV), 0 ≤ i → E[i]? = some r → r.xs = List.replicate z 0) := fun i r _ hr => by
    have := holesAt hr
    obtain ⟨hi, _⟩ := List.getElem?_eq_some_iff.1 hr
    rw [hEz, List.getElem?_replicate, if_pos (by omega)] at this
    exact (Option.some.inj this).symm
  have HEL := Lib.hid hEl
  obtain ⟨q, hq⟩ : ∃ q, w2.heap.size = q := ⟨_, rfl⟩
  obtain ⟨W3, hW3⟩ : ∃ W3, w2.alloc (.cells #[.slice none 0 0] 33) = W3 := ⟨_, rfl⟩
  rw [hW3] at HQN HGB B3 HAW
  rw [hq] at HQN HAW HQ HGQ
  have HQQ := Lib.hid hq
  have HW3 := Lib.hid hW3
  clear hb hg1 hg2 hnr hbx hglt hEl hEz hq hW3
  go_wp2
  rw [HQQ.out]
  go_loopw [15] (fun x wr => ∃ t : Nat, ∃ R : List CardV, ∃ mv : CardV, t ≤ n ∧ x = .int .i64 t ∧ Hid (R.length = n) ∧ Hid (Below w.heap.size w wr) ∧ Hid (wr.heap[g]? = some (.cells (R.map CardV.value).toArray 33 (0, 0))) ∧ Hid (wr.heap[q]? = some (.cells [mv.value].toArray 33 (0, 0))) ∧ Hid (∀ (i : Nat) (r : CardV), R[i]? = some r → Away wr g q r) ∧ Hid (∀ (i : Nat) (r : CardV), i < t → R[i]? = some r → r.xs = readM (holes D) k z i) ∧ Hid (∀ (i : Nat) (r : CardV), t ≤ i → R[i]? = some r → r.xs = List.replicate z 0) ∧ Hid (0 < t → mv.xs = lastM (holes D) k t ∧ Away wr g q mv)) (fun x _ => n - (intOf x).toNat)
  case atStart =>
    rw [HW3.out]
    exact ⟨0, E, ⟨none, 0, []⟩, Nat.zero_le _, rfl, HEL, B3, HGB, HQN, HAW, (fun i r hi => by omega), HZR, fun h0 => by omega⟩
  case round =>
    obtain ⟨t, R, mv, ht, rfl, HL, HB, HG, HM, HA, HR, HZ, HMV⟩ := hrel
    by_cases hlt : t < n
    · obtain ⟨d, hd⟩ : ∃ d, D[t]? = some d := ⟨D[t]'(by rw [HN.out]; exact hlt), List.getElem?_eq_getElem _⟩
      obtain ⟨r, hr⟩ : ∃ r, R[t]? = some r := ⟨R[t]'(by rw [HL.out]; exact hlt), List.getElem?_eq_getElem _⟩
      have hdl := HAT.out t d hd
      obtain ⟨b, off, rfl, hb, hcell⟩ := (H.out.below (HB.out.mono hB)) (by rw [HN.out]; omega)
      obtain ⟨c1, hi1⟩ := hcell t d hd
      have bw := below_box wr (.cells #[d.value] 33)
      have him := HIM.out t d hd _ (below_step HB.out bw) (hi1.below (bw.mono (Nat.le_trans hB HB.out.size)))
      have s0 := new_cell wr d.value 33
      have hhd := holesAt hd
      have HB1 := Lib.hid (below_step HB.out bw)
      have HG1 := Lib.hid ((bw.block g (block_lt HG.out)).trans HG.out)
      have HM1 := Lib.hid ((bw.block q (block_lt HM.out)).trans HM.out)
      have HA1 : Hid (∀ (i : Nat) (r : CardV), R[i]? = some r → Away (wr.alloc (.cells #[d.value] 33)) g q r) := fun i r hr => (HA.out i r hr).later bw
      have HMV1 : Hid (0 < t → mv.xs = lastM (holes D) k t ∧ Away (wr.alloc (.cells #[d.value] 33)) g q mv) := fun h0 => ⟨(HMV.out h0).1, (HMV.out h0).2.later bw⟩
      have HDA : Hid (Away (wr.alloc (.cells #[d.value] 33)) g q d) := by
        obtain ⟨bd, od, g1, g2, g3⟩ := (hi1.below (bw.mono (Nat.le_trans hB HB.out.size))) (by omega)
        have := HGL.out
        have := HQ.out
        have := bw.size
        have := HB.out.size
        exact ⟨bd, od, g1, by omega, by omega, by omega, g3⟩
      obtain ⟨W1, hW1⟩ : ∃ W1, wr.alloc (.cells #[d.value] 33) = W1 := ⟨_, rfl⟩
      rw [hW1] at him s0 HB1 HG1 HM1 HA1 HMV1 HDA
      unfold CardV.value at c1 s0 hW1
      have t0 : (0 : Int) ≤ (t : Int) := Int.natCast_nonneg _
      have t1 : (t : Int) < (n : Int) := by omega
      obtain ⟨ld, hld⟩ : ∃ l, d.xs.length = l := ⟨_, rfl⟩
      rw [hld] at him c1 s0 hW1
      have HLD := Lib.hid hld
      have HHD := Lib.hid hhd
      have HRR := Lib.hid hr
      cases hm : mastB d.xs k
      · rw [hm] at him
        have hpos : 0 < t := by
          rcases Nat.eq_zero_or_pos t with h0 | h0
          · subst h0
            have := HF.out d.xs hhd
            rw [hm] at this
            cases this
          · exact h0
        have HIMM := Lib.hid him
        have HMF := Lib.hid hm
        obtain ⟨mx, ma⟩ := HMV1.out hpos
        have HMX := Lib.hid mx
        have HMA := Lib.hid ma
        clear hcell hd hr hdl hi1 bw him hhd hld hm mx ma
        go_wp2_with fail
        refine HIMM.out.mono ?_
        rintro e w5 ⟨rfl, hb5⟩
        have HB5 := Lib.hid (below_step HB1.out hb5)
        have HG5 := Lib.hid ((hb5.block g (block_lt HG1.out)).trans HG1.out)
        have HM5 := Lib.hid ((hb5.block q (block_lt HM1.out)).trans HM1.out)
        have HA5 : Hid (∀ (i : Nat) (r : CardV), R[i]? = some r → Away w5 g q r) := fun i r hr => (HA1.out i r hr).later hb5
        have HMA5 := Lib.hid (HMA.out.later hb5)
        have y1 : w5.cell? ⟨q, 0, none⟩ = some mv.value := by rw [block_cell HM5.out]; rfl
        have y2 : w5.cell? ⟨g, t, none⟩ = some r.value := by rw [block_cell HG5.out, List.getElem?_map, HRR.out]; rfl
        have y3 : w5.frozen? ⟨g, t, none⟩ = false := by have := HG5.out; simp [World.frozen?, this]
        unfold CardV.value at y1 y2
        clear hb5
        go_wp2
        go_roundw
        case rel =>
          have hp := block_put HG5.out t mv.value
          rw [← List.map_set] at hp
          unfold CardV.value at hp
          refine ⟨t + 1, R.set t mv, mv, by omega, by go_num, by show _ = _; rw [List.length_set]; exact HL.out, HB5.out.setCell HGL.out _, Lib.hid hp, ?_, ?_, ?_, ?_, ?_⟩
          · exact (Below.heap_setCell w5 _ _ q (by exact fun e => HGQ.out e.symm)).trans HM5.out
          · intro i x hx
            rw [List.getElem?_set] at hx
            by_cases hti : t = i
            · rw [if_pos hti] at hx
              split at hx
              · obtain rfl := (Option.some.inj hx).symm
                exact HMA5.out.put (Or.inl rfl) _ _
              · cases hx
            · rw [if_neg hti] at hx
              exact (HA5.out i x hx).put (Or.inl rfl) _ _
          · intro i x hi hx
            rw [List.getElem?_set] at hx
            by_cases hti : t = i
            · subst hti
              rw [if_pos rfl] at hx
              split at hx
              · obtain rfl := (Option.some.inj hx).symm
                rw [HMX.out, readM, HHD.out, Option.getD_some, if_neg (by rw [HMF.out]; simp)]
              · cases hx
            · rw [if_neg hti] at hx
              exact HR.out i x (by omega) hx
          · intro i x hi hx
            rw [List.getElem?_set, if_neg (by omega)] at hx
            exact HZ.out i x (by omega) hx
          · intro _
            exact ⟨by rw [lastM_no HHD.out HMF.out]; exact HMX.out, HMA5.out.put (Or.inl rfl) _ _⟩
        case measure => simp [intOf]; omega
      · rw [hm] at him
        have HIMM := Lib.hid him
        have HMF := Lib.hid hm
        clear hcell hd hr hdl hi1 bw him hhd hm
        go_wp2_with fail
        refine HIMM.out.mono ?_
        rintro e w5 ⟨rfl, hb5⟩
        have HB5 := Lib.hid (below_step HB1.out hb5)
        have HG5 := Lib.hid ((hb5.block g (block_lt HG1.out)).trans HG1.out)
        have HM5 := Lib.hid ((hb5.block q (block_lt HM1.out)).trans HM1.out)
        have HA5 : Hid (∀ (i : Nat) (r : CardV), R[i]? = some r → Away w5 g q r) := fun i r hr => (HA1.out i r hr).later hb5
        have HDA5 := Lib.hid (HDA.out.later hb5)
        have y1 : w5.cell? ⟨q, 0, none⟩ = some mv.value := by rw [block_cell HM5.out]; rfl
        have y3 : w5.frozen? ⟨q, 0, none⟩ = false := by have := HM5.out; simp [World.frozen?, this]
        have y4 := cell_kept s0 hb5
        unfold CardV.value at y1
        clear hb5
        go_wp2
        go_roundw
        case rel =>
          have hp := block_put HM5.out 0 d.value
          unfold CardV.value at hp
          rw [HLD.out] at hp
          refine ⟨t + 1, R, d, by omega, by go_num, HL, HB5.out.setCell HQ.out _, ?_, ?_, ?_, ?_, ?_, ?_⟩
          · exact (Below.heap_setCell w5 _ _ g (by exact HGQ.out)).trans HG5.out
          · show _ = _
            unfold CardV.value
            rw [HLD.out]
            exact hp
          · exact fun i x hx => (HA5.out i x hx).put (Or.inr rfl) _ _
          · intro i x hi hx
            by_cases hti : i = t
            · subst hti
              rw [HZ.out i x (Nat.le_refl _) hx, readM, HHD.out, Option.getD_some, if_pos HMF.out]
            · exact HR.out i x (by omega) hx
          · exact fun i x hi hx => HZ.out i x (by omega) hx
          · intro _
            exact ⟨(lastM_yes HHD.out HMF.out).symm, HDA5.out.put (Or.inr rfl) _ _⟩
        case measure => simp [intOf]; omega
    · have htn : t = n := by omega
      have t1 : ¬ (t : Int) < (n : Int) := by omega
      have HDK : Hid (Deck wr wr.heap.size (some ⟨g, 0, none⟩) R) := fun _ => ⟨g, 0, rfl, block_lt HG.out, fun i r hr => by
        rw [Nat.zero_add]
        refine ⟨by rw [block_cell HG.out, List.getElem?_map, hr]; rfl, (HA.out i r hr).ints⟩⟩
      have HRR : Hid (∀ (i : Nat) (r : CardV), R[i]? = some r → r.xs = readM (holes D) k z i) := fun i r hr => HR.out i r (by
        obtain ⟨hi, _⟩ := List.getElem?_eq_some_iff.1 hr
        have := HL.out
        omega) hr
      clear htn
      go_wp2
      go_ret
      exact ⟨g, R, rfl, HB.out, HL.out, HDK.out, HRR.out⟩
end Go.Proofs.Ytamookdlbmbncaa
