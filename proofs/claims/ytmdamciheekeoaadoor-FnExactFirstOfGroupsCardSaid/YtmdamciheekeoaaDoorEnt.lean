/- The entries of a deck: its cards, copied, with the ranks of a field; impl.entriesOf makes them: a contract. -/
import Derived.Test.YtmdamciheekeoaaDoorDeckNew
import Derived.Test.YtmdamciheekeoaaDoorSortImpl
namespace Go.Proofs.YtmdamciheekeoaaDoor
open Go.ChangeShapes Go.WideShapes Go.ChangeAt Go.RowKit

theorem info_entry : (Tryd.prog.info? 74).map (fun i => (i.zero, i.size, i.bytes)) = some (some (.agg #[.slice none 0 0, .slice none 0 0]), 2, 48) := by kernel_rfl

/-- cards and keys, one behind the other -/
def mixL : List CardV → List CardV → List CardV
  | e :: E, k :: K => e :: k :: mixL E K
  | _, _ => []
theorem mixL_nil (K : List CardV) : mixL [] K = [] := by cases K <;> rfl
theorem mixL_length : ∀ (E K : List CardV), E.length ≤ K.length → (mixL E K).length = 2 * E.length
  | [], K, _ => by simp [mixL_nil]
  | e :: E, [], h => by simp at h
  | e :: E, k :: K, h => by
    have := mixL_length E K (by simpa using h)
    simp only [mixL, List.length_cons, this]
    omega
theorem mixL_more : ∀ (E K : List CardV) (e q : CardV), K[E.length]? = some q → mixL (E ++ [e]) K = mixL E K ++ [e] ++ [q]
  | [], [], e, q, h => by simp at h
  | [], k :: K, e, q, h => by
    obtain rfl : k = q := by simpa using h
    simp [mixL, mixL_nil]
  | x :: E, [], e, q, h => by simp at h
  | x :: E, k :: K, e, q, h => by
    have := mixL_more E K e q (by simpa using h)
    simp only [List.cons_append, mixL, this]
theorem mixL_card : ∀ (E K : List CardV) (k : Nat) (e : CardV), E.length ≤ K.length → E[k]? = some e → (mixL E K)[k * 2]? = some e
  | [], _, k, e, _, h => by simp at h
  | x :: E, [], k, e, hl, _ => by simp at hl
  | x :: E, y :: K, 0, e, _, h => by simpa [mixL] using h
  | x :: E, y :: K, k + 1, e, hl, h => by
    have := mixL_card E K k e (by simpa using hl) (by simpa using h)
    rw [mixL, show (k + 1) * 2 = k * 2 + 1 + 1 by omega]
    simpa using this
theorem mixL_key : ∀ (E K : List CardV) (k : Nat) (q : CardV), k < E.length → K[k]? = some q → (mixL E K)[k * 2 + 1]? = some q
  | [], _, k, q, hl, h => by simp at hl
  | x :: E, [], k, q, _, h => by simp at h
  | x :: E, y :: K, 0, q, _, h => by simpa [mixL] using h
  | x :: E, y :: K, k + 1, q, hl, h => by
    have := mixL_key E K k q (by simpa using hl) (by simpa using h)
    rw [mixL, show (k + 1) * 2 + 1 = k * 2 + 1 + 1 + 1 by omega]
    simpa using this

/-- the block g holds the entries: cards E with numbers in blocks of their own from lo on, keys K -/
structure Ents (w : World) (lo g : Nat) (E K : List CardV) (n : Nat) : Prop where
  cells : w.heap[g]? = some (.cells (cellsOf (mixL E K) (2 * n)).toArray 74 (0, 0))
  cards : NewRows w lo E
  keys : ∀ q ∈ K, ∃ gq ex, q.at_ = some ⟨gq, 0, none⟩ ∧ Row w gq q.xs ex
section
variable {w w' : World} {lo g n : Nat} {E K : List CardV}
theorem Ents.lt (h : Ents w lo g E K n) : g < w.heap.size := by
  rcases Nat.lt_or_ge g w.heap.size with hlt | hge
  · exact hlt
  · have := h.cells
    rw [Array.getElem?_eq_none hge] at this
    cases this
theorem Ents.later (h : Ents w lo g E K n) (hb : Below w.heap.size w w') : Ents w' lo g E K n :=
  ⟨(hb.block g h.lt).trans h.cells, h.cards.later hb, fun q hq => by
    obtain ⟨gq, ex, h1, h2⟩ := h.keys q hq
    exact ⟨gq, ex, h1, h2.later hb⟩⟩
theorem Ents.drew (h : Ents w lo g E K n) : Ents w.drew lo g E K n := h.later (Below.refl _ w).drew
theorem Ents.cell (h : Ents w lo g E K n) (i : Nat) : w.cell? ⟨g, i, none⟩ = (cellsOf (mixL E K) (2 * n))[i]? := by
  rw [cell_of_row w g i _ _ _ h.cells]
  simp
theorem Ents.card (h : Ents w lo g E K n) (hl : E.length ≤ K.length) {k : Nat} {e : CardV} (he : E[k]? = some e) : w.cell? ⟨g, k * 2, none⟩ = some e.value := by
  rw [h.cell, cellsOf_get _ _ _ e (mixL_card E K k e hl he)]
theorem Ents.key (h : Ents w lo g E K n) {k : Nat} {q : CardV} (hk : k < E.length) (hq : K[k]? = some q) : w.cell? ⟨g, k * 2 + 1, none⟩ = some q.value := by
  rw [h.cell, cellsOf_get _ _ _ q (mixL_key E K k q hk hq)]
end

/-- the entries of a deck -/
def GivesEnts (D : List CardV) (i j n : Nat) (w : World) (e : Ending) (w' : World) : Prop :=
  ∃ g E K, e = .returned (.tuple #[.slice (some ⟨g, 0, none⟩) n n, .int .i64 0]) ∧ Below w.heap.size w w' ∧ holes E = holes D ∧ CapsOk E ∧ holes K = rks (holes D) i j ∧ Ents w' w.heap.size g E K n

theorem row_not_ents {w : World} {g n : Nat} {xs : List Int} {ex : List Value} {cs : Array Value} {z : Nat × Nat} (h : Row w g xs ex) (hc : w.heap[n]? = some (.cells cs 74 z)) : g ≠ n := by
  rintro rfl
  unfold Row at h
  rw [h] at hc
  have := Option.some.inj hc
  injection this with _ e _
  cases e
theorem NewRows.ent_set {w : World} {lo g : Nat} {E : List CardV} {cs : Array Value} {z : Nat × Nat} (h : NewRows w lo E) (hc : w.heap[g]? = some (.cells cs 74 z)) (i j : Nat) (u v : Value) : NewRows ((w.setCell ⟨g, i, none⟩ u).setCell ⟨g, j, none⟩ v) lo E :=
  ⟨fun e he => by
    obtain ⟨ge, ex, h1, h2, h3⟩ := h.each e he
    have hne := row_not_ents h3 hc
    exact ⟨ge, ex, h1, h2, (h3.far (p := ⟨g, i, none⟩) hne u).far (p := ⟨g, j, none⟩) hne v⟩, h.apart⟩
theorem ents_put {w : World} {g n : Nat} {X : List CardV} (h : w.heap[g]? = some (.cells (cellsOf X n).toArray 74 (0, 0))) (e q : CardV) (hn : X.length + 1 < n) : ((w.setCell ⟨g, X.length, none⟩ e.value).setCell ⟨g, X.length + 1, none⟩ q.value).heap[g]? = some (.cells (cellsOf (X ++ [e] ++ [q]) n).toArray 74 (0, 0)) := by
  have h1 : (w.setCell ⟨g, X.length, none⟩ e.value).heap[g]? = some (.cells (cellsOf (X ++ [e]) n).toArray 74 (0, 0)) := by
    simp only [World.setCell, Array.getElem?_modify, if_true, h, Option.map_some]
    congr 2
    apply Array.ext'
    simp [cellsOf_set X n e (by omega)]
  have hl : X.length + 1 = (X ++ [e]).length := by simp
  rw [hl]
  simp only [World.setCell, Array.getElem?_modify, if_true] at h1 ⊢
  rw [h1]
  simp only [Option.map_some]
  congr 2
  apply Array.ext'
  have := cellsOf_set (X ++ [e]) n q (by simp; omega)
  rw [← hl] at this
  simpa using this

section
variable (A : Option Addr) (c : Nat) (D : List CardV) (B : Nat) (a b : Int) (w : World) (h : Deck w B A D) (hB : B ≤ w.heap.size) (hn : D.length ≤ 1048576) (hl : ∀ d ∈ D, d.xs.length ≤ 1048576)
include h hB hn hl

set_option maxRecDepth 100000 in
set_option maxHeartbeats 4000000 in
theorem entriesOf_any (hcap : CapsOk D) (hP : Places w) :
    Calls Tryd.prog 62 #[.slice A D.length c, .agg #[.int .i64 a, .int .i64 b]] w fun e w' => (keysC (holes D) a b ≠ 0 ∧ GivesNoKeys (keysC (holes D) a b) w e w') ∨ (keysC (holes D) a b = 0 ∧ GivesEnts D a.toNat b.toNat D.length w e w') := by
  have b0 := below_box w (.cells #[.int .i64 a, .int .i64 b] 30)
  have hk := keysOf_any A c D B a b (w.alloc (.cells #[.int .i64 a, .int .i64 b] 30)) (h.below (b0.mono hB)) (by simp; omega) hn hl hcap (hP.below b0)
  have BW := Lib.hid b0
  obtain ⟨n, hN⟩ : ∃ n, D.length = n := ⟨_, rfl⟩
  by_cases e : keysC (holes D) a b = 0
  · obtain ⟨i, j, rfl, rfl, hij, hj, hv, hkb⟩ := keysC_zero e
    have hn40 : n ≤ 40 := by
      have := deck_len hv
      simp [holes, hN] at this
      exact this
    rw [e, Int.toNat_natCast, Int.toNat_natCast, hN] at hk ⊢
    have H := Lib.hid h
    have HN := Lib.hid hN
    have HV := Lib.hid hv
    have HCP := Lib.hid hcap
    have HK := Lib.hid hk
    have hJ := Lib.hid (show 0 < widthH (holes D) by omega)
    have hmk : ∀ W : World, (Instr.makeSlice 67 (.int .i64 n) (.int .i64 n)).run Tryd.prog W = .ok (.slice (some ⟨W.heap.size, 0, none⟩) n n) (W.alloc (.cells (cellsOf [] (2 * n)).toArray 74)) := fun W => by
      obtain ⟨i0, hi0, hz0, hz1, hz2⟩ := info_parts info_entry
      have hr := run_make (P := Tryd.prog) W 67 74 i0 _ Tryd.underlying67 hi0 hz0 .i64 .i64 n n (by omega) (Int.le_refl _) (by rw [hz2]; omega) (by omega)
      have e : madeCells (Value.agg #[Value.slice none 0 0, Value.slice none 0 0]).cells ((n : Int).toNat * i0.size) = (cellsOf [] (2 * n)).toArray := by
        rw [hz1, Int.toNat_natCast]
        apply Array.ext
        · simp [size_madeCells, cellsOf]
          omega
        · intro i h1 h2
          rcases Nat.mod_two_eq_zero_or_one i with hm | hm <;> simp [madeCells, cellsOf, Value.cells, hm]
      rw [e, Int.toNat_natCast] at hr
      exact hr
    clear hk h hl hcap b0 e hv hkb hj hij hN hP
    go_enter Tryd.func62, Tryd.ntmps62
    go_wp2_with fail
    refine HK.out.mono ?_
    rintro e w1 (⟨h0, _⟩ | ⟨_, gk, K, rfl, hb, hK, hO⟩)
    · exact absurd rfl h0
    have B1 := Lib.hid (below_step BW.out hb)
    have HO := Lib.hid hO
    have hKl : K.length = n := by rw [← holes_len K, hK, rks, List.length_map, holes_len, HN.out]
    have HKL := Lib.hid hKl
    have HHK := Lib.hid hK
    clear hb hO hK hKl HK
    go_wp2
    clear hmk
    go_loopw [25] (fun x wr => ∃ t : Nat, ∃ E : List CardV, t ≤ n ∧ x = .int .i64 t ∧ Hid (E.length = t) ∧ Hid (holes E = (holes D).take t) ∧ Hid (Below w1.heap.size w1 wr) ∧ Hid (wr.heap[w1.heap.size]? = some (.cells (cellsOf (mixL E K) (2 * n)).toArray 74 (0, 0))) ∧ Hid (NewRows wr w1.heap.size E) ∧ Hid (CapsOk E)) (fun x _ => n - (intOf x).toNat)
    case atStart => exact ⟨0, [], Nat.zero_le _, rfl, rfl, by show _ = _; simp [holes], below_box w1 _, by rw [mixL_nil]; exact heap_alloc_new w1 _, NewRows.nil, (fun d hd => by cases hd)⟩
    case round =>
      obtain ⟨t, E, ht, rfl, HE, HS, HB, HC, HR, HCK⟩ := hrel
      by_cases hlt : t < n
      · obtain ⟨d, hd⟩ : ∃ d, D[t]? = some d := ⟨D[t]'(by rw [HN.out]; exact hlt), List.getElem?_eq_getElem _⟩
        obtain ⟨q, hq⟩ : ∃ q, K[t]? = some q := ⟨K[t]'(by rw [HKL.out]; exact hlt), List.getElem?_eq_getElem _⟩
        have hqc : w1.cell? ⟨gk, t, none⟩ = some q.value := by rw [HO.out.cell t, cellsOf_get K n t q hq]
        have BD := below_step B1.out HB.out
        obtain ⟨bq, oq, rfl, hbq, hcell⟩ := (H.out.below (BD.mono hB)) (by rw [HN.out]; omega)
        obtain ⟨hc, hi⟩ := hcell t d hd
        obtain ⟨y1, y2⟩ := deck_width HV.out (holes_at hd)
        have h20 := (okB_parts y1).2
        have h0 : 0 < d.xs.length := by rw [y2]; exact hJ.out
        have bx := below_box wr (.cells #[.slice d.at_ d.xs.length d.cap] 55)
        have p0 : (wr.alloc (.cells #[.slice d.at_ d.xs.length d.cap] 55)).cell? ⟨wr.heap.size, 0, none⟩ = some (.slice d.at_ d.xs.length d.cap) := by simp
        have o1 := cell_kept (cell_kept hqc HB.out) bx
        obtain ⟨m, hm⟩ : ∃ m, d.xs.length = m := ⟨_, rfl⟩
        have HM := Lib.hid hm
        have hw1 : w1.heap.size ≤ wr.heap.size := HB.out.size
        have hBw : B ≤ wr.heap.size := Nat.le_trans hB BD.size
        obtain ⟨W1, hW1⟩ : ∃ W1, wr.alloc (.cells #[.slice d.at_ d.xs.length d.cap] 55) = W1 := ⟨_, rfl⟩
        rw [hW1] at p0 o1 bx
        have hs1 : wr.heap.size ≤ W1.heap.size := bx.size
        have HT := Lib.hid (copyNew_any d.at_ d.cap d.xs B W1.drew ((hi.below (bx.mono hBw)).drew) (by show B ≤ W1.heap.size; omega) h0 (by omega))
        have HBX := Lib.hid (below_step HB.out bx).drew
        have hc0 : w1.heap.size < wr.heap.size := by
          rcases Nat.lt_or_ge w1.heap.size wr.heap.size with hlt | hge
          · exact hlt
          · have := HC.out
            rw [Array.getElem?_eq_none hge] at this
            cases this
        have HCX : Hid (W1.drew.heap[w1.heap.size]? = some (.cells (cellsOf (mixL E K) (2 * n)).toArray 74 (0, 0))) := (bx.block _ hc0).trans HC.out
        have HRX := Lib.hid ((HR.out.later bx).later (Below.refl _ W1).drew)
        have HH1 : Hid (∀ e : CardV, e.xs = d.xs → holes (E ++ [e]) = (holes D).take (t + 1)) := fun e he => by
          rw [List.take_add_one, holes_at hd, ← HS.out]
          simp [holes, he]
        have HQ := Lib.hid hq
        have hml : (mixL E K).length = 2 * t := by rw [mixL_length E K (by rw [HE.out, HKL.out]; omega), HE.out]
        have hz1 : (cellsOf (mixL E K) (2 * n))[t * 2]? = some (.slice none 0 0) := by
          rw [cellsOf, List.getElem?_append_right (by simp [hml]; omega), List.getElem?_replicate, if_pos (by simp [hml]; omega)]
        have hz2 : (cellsOf (mixL E K) (2 * n))[t * 2 + 1]? = some (.slice none 0 0) := by
          rw [cellsOf, List.getElem?_append_right (by simp [hml]; omega), List.getElem?_replicate, if_pos (by simp [hml]; omega)]
        have HZ1 := Lib.hid hz1
        have HZ2 := Lib.hid hz2
        have HML := Lib.hid hml
        unfold CardV.value at hc o1
        rw [hm] at hc p0 HT hW1
        have t0 : (0 : Int) ≤ (t : Int) := Int.natCast_nonneg _
        have t1 : (t : Int) < (n : Int) := by omega
        have x1 : W1.drew.cell? ⟨wr.heap.size, 0, none⟩ = some (.slice d.at_ m d.cap) := p0
        have x2 : W1.drew.cell? ⟨gk, t, none⟩ = some (.slice q.at_ q.xs.length q.cap) := o1
        have hcs : ∀ (W : World) (i : Nat), Hid (W.heap[w1.heap.size]? = some (.cells (cellsOf (mixL E K) (2 * n)).toArray 74 (0, 0))) → W.cell? ⟨w1.heap.size, i, none⟩ = (cellsOf (mixL E K) (2 * n))[i]? ∧ W.frozen? ⟨w1.heap.size, i, none⟩ = false := fun W i h => by
          refine ⟨?_, ?_⟩
          · rw [cell_of_row W w1.heap.size i _ _ _ h.out]
            simp
          · have := h.out
            simp [World.frozen?, this]
        have u1 := (hcs _ (t * 2) HCX).1.trans hz1
        have u2 := (hcs _ (t * 2 + 1) HCX).1.trans hz2
        have u3 := (hcs _ (t * 2) HCX).2
        have u4 := (hcs _ (t * 2 + 1) HCX).2
        have HCS := Lib.hid hcs
        obtain ⟨lq, hlq⟩ : ∃ l, q.xs.length = l := ⟨_, rfl⟩
        rw [hlq] at x2
        have HLQ := Lib.hid hlq
        clear hcell hd hi hm bx p0 o1 BD y1 y2 h20 h0 hq hqc hml hz1 hz2 hcs hlq HB HC HR hbq
        go_wp2_with fail
        go_region_with (go_at_call 70; refine HT.out.mono ?_; rintro e w3 ⟨ge, cp, ex, rfl, hc1, hc2, hge, hb3, hrow⟩; rw [HM.out] at hc1; rw [HM.out]; have z1 := cell_kept x1 hb3; have z2 := cell_kept x2 hb3; have HB3 := Lib.hid (below_step HBX.out hb3); have HC3 : Hid (w3.heap[w1.heap.size]? = some (.cells (cellsOf (mixL E K) (2 * n)).toArray 74 (0, 0))) := (hb3.block _ (Nat.lt_of_lt_of_le hc0 hs1)).trans HCX.out; have v1 := (HCS.out _ (t * 2) HC3).1.trans HZ1.out; have v2 := (HCS.out _ (t * 2 + 1) HC3).1.trans HZ2.out; have v3 := (HCS.out _ (t * 2) HC3).2; have v4 := (HCS.out _ (t * 2 + 1) HC3).2; have HR3 := Lib.hid (HRX.out.more hb3 (e := ⟨some ⟨ge, 0, none⟩, cp, d.xs⟩) rfl hge (Nat.le_trans hw1 (Nat.le_trans hs1 hge)) hrow); have HCC := Lib.hid (And.intro hc1 hc2); clear hb3 hrow hge hc1 hc2)
        all_goals
          go_wp2
          go_roundw
          case rel =>
            have hp := ents_put HC3.out ⟨some ⟨ge, 0, none⟩, cp, d.xs⟩ q (by rw [HML.out]; omega)
            rw [← mixL_more E K _ q (by rw [HE.out]; exact HQ.out), HML.out, Nat.mul_comm 2 t] at hp
            unfold CardV.value at hp
            simp only [HM.out, HLQ.out] at hp
            refine ⟨t + 1, E ++ [(⟨some ⟨ge, 0, none⟩, cp, d.xs⟩ : CardV)], by omega, by go_num, by show _ = _; simp [HE.out], HH1.out _ rfl, (HB3.out.setCell (Nat.le_refl _) _).setCell (Nat.le_refl _) _, Lib.hid hp, ?_, ?_⟩
            · exact HR3.out.ent_set HC3.out _ _ _ _
            · intro x hx
              rcases List.mem_append.1 hx with hx | hx
              · exact HCK.out x hx
              · obtain rfl : x = ⟨some ⟨ge, 0, none⟩, cp, d.xs⟩ := by simpa using hx
                have h1 := HCC.out.1
                have h2 := HCC.out.2
                unfold maxLen at h2
                exact ⟨by show d.xs.length ≤ cp; rw [HM.out]; exact h1, by show cp ≤ _; omega⟩
          case measure => simp [intOf]; omega
      · have htn : t = n := by omega
        have t1 : ¬ (t : Int) < (n : Int) := by omega
        have hh : holes E = holes D := by rw [HS.out, List.take_of_length_le (by simp [holes, HN.out]; omega)]
        have HHH := Lib.hid hh
        have BB := Lib.hid (below_step B1.out HB.out)
        have hKS : Hid (∀ q ∈ K, ∃ gq ex, q.at_ = some ⟨gq, 0, none⟩ ∧ Row wr gq q.xs ex) := fun q hq => by
          obtain ⟨ge, a1, _, _, a4⟩ := HO.out.each q hq
          exact ⟨ge, [], a1, a4.later HB.out⟩
        clear hh htn
        go_wp2
        go_ret2
        have hrows : NewRows wr w.heap.size E := ⟨fun e he => by obtain ⟨ge, ex, h1, h2, h3⟩ := HR.out.each e he; exact ⟨ge, ex, h1, Nat.le_trans B1.out.size h2, h3⟩, HR.out.apart⟩
        exact ⟨_, E, K, rfl, BB.out, HHH.out, HCK.out, HHK.out, ⟨HC.out, hrows, hKS.out⟩⟩
  · obtain ⟨k, hk0⟩ : ∃ k, keysC (holes D) a b = k := ⟨_, rfl⟩
    rw [hk0] at hk e ⊢
    rw [hN] at hk ⊢
    have e1 : (k != 0) = true := by simpa using e
    have HK := Lib.hid hk
    clear hk h hl hcap b0 hk0 hN hn hP
    go_enter Tryd.func62, Tryd.ntmps62
    go_wp2_with fail
    refine HK.out.mono ?_
    rintro e' w1 (⟨_, rfl, hb⟩ | ⟨h0, _⟩)
    · have B1 := Lib.hid (below_step BW.out hb)
      clear hb HK
      go_wp2
      go_ret2
      exact Or.inl ⟨e, rfl, B1.out⟩
    · exact absurd h0 e
end
end Go.Proofs.YtmdamciheekeoaaDoor
