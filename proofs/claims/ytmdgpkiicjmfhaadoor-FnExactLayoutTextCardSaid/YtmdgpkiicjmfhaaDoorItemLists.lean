/- What the laws' helpers do with lists of items and with layouts (sizes, copies, comparisons), for every list whose names and items are at most 1048576 in all: contracts. -/
import Derived.Test.YtmdgpkiicjmfhaaDoorItems
import Derived.Deep.OwnRows
namespace Go.Proofs.YtmdgpkiicjmfhaaDoor
open Go.ChangeShapes Go.WideShapes Go.ChangeAt Go.RowKit

/-- the size of some items: their names' -/
def itSize (ds : List It) : Nat := (ds.map fun d => d.name.size).sum
theorem itSize_take (ds : List It) (k : Nat) (d : It) (h : ds[k]? = some d) : itSize (ds.take (k + 1)) = itSize (ds.take k) + d.name.size := by
  obtain ⟨hk, e⟩ := List.getElem?_eq_some_iff.1 h
  rw [itSize, itSize, List.take_succ_eq_append_getElem hk, e]
  simp
theorem itSize_le (ds : List It) : ∀ k, itSize (ds.take k) ≤ itSize ds := by
  intro k
  have e : itSize ds = itSize (ds.take k) + itSize (ds.drop k) := by
    conv => lhs; rw [← List.take_append_drop k ds]
    rw [itSize, List.map_append, List.sum_append]
    rfl
  omega
theorem itSize_at (ds : List It) (k : Nat) (d : It) (h : ds[k]? = some d) : d.name.size ≤ itSize ds := by
  have h1 := itSize_take ds k d h
  have h2 := itSize_le ds (k + 1)
  omega

/-- the cells of an item in memory -/
theorem Items.at_ {w : World} {B : Nat} {A : Option Addr} {ds : List It} (h : Items w B A ds) {k : Nat} {d : It} (hd : ds[k]? = some d) :
    ∃ b off, A = some ⟨b, off, none⟩ ∧ b < B ∧ w.cell? ⟨b, off + k * 4, none⟩ = some (.string d.name) ∧ w.cell? ⟨b, off + k * 4 + 1, none⟩ = some (.int .i64 d.kind) ∧ w.cell? ⟨b, off + k * 4 + 2, none⟩ = some (.int .i64 d.f0) ∧ w.cell? ⟨b, off + k * 4 + 3, none⟩ = some (.int .i64 d.f1) := by
  obtain ⟨hk, _⟩ := List.getElem?_eq_some_iff.1 hd
  obtain ⟨b, off, rfl, hb, hc⟩ := h (by omega)
  exact ⟨b, off, rfl, hb, hc k d hd⟩

theorem szItems_fit (A : Option Addr) (c : Nat) (ds : List It) (B : Nat) (left : Nat) (w : World) (h : Items w B A ds) (hB : B ≤ w.heap.size) (h1 : left ≤ 1048576) (hfit : ds.length + itSize ds ≤ left) :
    Calls Tryd.prog 15 #[.slice A ds.length c, .int .i64 left] w fun e w' => e = .returned (.int .i64 ((left : Int) - ds.length - itSize ds)) ∧ Below w.heap.size w w' := by
  obtain ⟨n, hN⟩ : ∃ n, ds.length = n := ⟨_, rfl⟩
  obtain ⟨s, hS⟩ : ∃ s, itSize ds = s := ⟨_, rfl⟩
  rw [hN] at hfit ⊢
  rw [hS] at hfit ⊢
  have H := Lib.hid h
  have HN := Lib.hid hN
  have HS := Lib.hid hS
  have h' : ¬ (left : Int) - (n : Int) < 0 := by omega
  clear h hN hS
  go_enter Tryd.func15, Tryd.ntmps15
  go_wp2
  go_loopw [1, 5] (fun l i wr => ∃ k q : Nat, ∃ v : Int, k ≤ n ∧ q ≤ s ∧ i = .int .i64 k ∧ l = .int .i64 v ∧ v = (left : Int) - n - q ∧ Hid (itSize (ds.take k) = q) ∧ Hid (Below w.heap.size w wr)) (fun _ i _ => n - (intOf i).toNat)
  case atStart => exact ⟨0, 0, _, Nat.zero_le _, Nat.zero_le _, rfl, rfl, by omega, rfl, Below.refl _ _⟩
  case round =>
    obtain ⟨k, q, v, hk, hq, rfl, rfl, hv, HQ, HB⟩ := hrel
    have hv0 : 0 ≤ v := by omega
    have hv1 : v ≤ 1048576 := by omega
    have HV := Lib.hid hv
    clear hv
    by_cases hlt : k < n
    · obtain ⟨d, hd⟩ : ∃ d, ds[k]? = some d := ⟨ds[k]'(by rw [HN.out]; exact hlt), List.getElem?_eq_getElem _⟩
      obtain ⟨b, off, rfl, hb, c0, c1, c2, c3⟩ := (H.out.below (HB.out.mono hB)).at_ hd
      have hst := itSize_take ds k d hd
      have hle := itSize_le ds (k + 1)
      rw [hst, HQ.out, HS.out] at hle
      have HST : Hid (itSize (ds.take (k + 1)) = q + d.name.size) := by show _ = _; rw [hst, HQ.out]
      have hsz := fun W => szItem_any d.name d.kind d.f0 d.f1 v W hv0 hv1 (by omega)
      obtain ⟨nm, hnm⟩ : ∃ nm, d.name = nm := ⟨_, rfl⟩
      rw [hnm] at hsz c0 hle HST
      rw [if_neg (by have := HV.out; omega)] at hsz
      have HSZ := Lib.hid hsz
      have hk0 : (0 : Int) ≤ (k : Int) := Int.natCast_nonneg _
      have hk1 : (k : Int) < (n : Int) := by omega
      have hv2 : ¬ v - (nm.size : Int) < 0 := by have := HV.out; omega
      clear hst hsz hnm hd
      go_wp2_with fail
      refine (HSZ.out _).mono ?_
      rintro e w2 ⟨rfl, hbb⟩
      have HB1 := Lib.hid (below_step HB.out hbb)
      clear hbb c0 c1 c2 c3
      go_wp2
      go_roundw
      case rel => exact ⟨k + 1, q + nm.size, _, by omega, hle, by go_num, rfl, by have := HV.out; omega, HST, HB1⟩
      case measure => simp [intOf]; omega
    · obtain rfl : k = n := by omega
      have hk1 : ¬ (k : Int) < (k : Int) := by omega
      have hqs : q = s := by rw [← HQ.out, ← HS.out, List.take_of_length_le (by rw [HN.out]; exact Nat.le_refl _)]
      have hvv : v = (left : Int) - k - s := by have := HV.out; omega
      have HVV := Lib.hid hvv
      clear hqs hvv
      go_wp2
      go_ret
      exact ⟨by rw [HVV.out]; rfl, HB.out⟩

theorem szItems_big (A : Option Addr) (c : Nat) (ds : List It) (B : Nat) (left : Nat) (w : World) (h : Items w B A ds) (hB : B ≤ w.heap.size) (h1 : left ≤ 1048576) (hn : ds.length ≤ 9223372036854775807) (hs : ∀ d ∈ ds, d.name.size ≤ 9223372036854775807) (hbig : left < ds.length + itSize ds) :
    Calls Tryd.prog 15 #[.slice A ds.length c, .int .i64 left] w fun e w' => e = .returned (.int .i64 (-1)) ∧ Below w.heap.size w w' := by
  obtain ⟨n, hN⟩ : ∃ n, ds.length = n := ⟨_, rfl⟩
  obtain ⟨s, hS⟩ : ∃ s, itSize ds = s := ⟨_, rfl⟩
  rw [hN] at hbig hn ⊢
  rw [hS] at hbig
  by_cases hle : left < n
  · have h' : (left : Int) - (n : Int) < 0 := by omega
    clear h hN hS hs
    go_enter Tryd.func15, Tryd.ntmps15
    go_wp2
    go_ret
    exact ⟨rfl, Below.refl _ _⟩
  · have H := Lib.hid h
    have HN := Lib.hid hN
    have HS := Lib.hid hS
    have HSS := Lib.hid hs
    have h' : ¬ (left : Int) - (n : Int) < 0 := by omega
    clear h hN hS hs
    go_enter Tryd.func15, Tryd.ntmps15
    go_wp2
    go_loopw [1, 5] (fun l i wr => ∃ k q : Nat, ∃ v : Int, k ≤ n ∧ n + q ≤ left ∧ i = .int .i64 k ∧ l = .int .i64 v ∧ v = (left : Int) - n - q ∧ Hid (itSize (ds.take k) = q) ∧ Hid (Below w.heap.size w wr)) (fun _ i _ => n - (intOf i).toNat)
    case atStart => exact ⟨0, 0, _, Nat.zero_le _, by omega, rfl, rfl, by omega, rfl, Below.refl _ _⟩
    case round =>
      obtain ⟨k, q, v, hk, hq, rfl, rfl, hv, HQ, HB⟩ := hrel
      have hv0 : 0 ≤ v := by omega
      have hv1 : v ≤ 1048576 := by omega
      have HV := Lib.hid hv
      clear hv
      by_cases hlt : k < n
      · obtain ⟨d, hd⟩ : ∃ d, ds[k]? = some d := ⟨ds[k]'(by rw [HN.out]; exact hlt), List.getElem?_eq_getElem _⟩
        obtain ⟨b, off, rfl, hb, c0, c1, c2, c3⟩ := (H.out.below (HB.out.mono hB)).at_ hd
        have hst := itSize_take ds k d hd
        have HST : Hid (itSize (ds.take (k + 1)) = q + d.name.size) := by show _ = _; rw [hst, HQ.out]
        have hsz := fun W => szItem_any d.name d.kind d.f0 d.f1 v W hv0 hv1 (HSS.out d (List.mem_of_getElem? hd))
        obtain ⟨nm, hnm⟩ : ∃ nm, d.name = nm := ⟨_, rfl⟩
        rw [hnm] at hsz c0 HST
        have hk0 : (0 : Int) ≤ (k : Int) := Int.natCast_nonneg _
        have hk1 : (k : Int) < (n : Int) := by omega
        by_cases hov : v < nm.size
        · rw [if_pos hov] at hsz
          have HSZ := Lib.hid hsz
          clear hst hsz hnm hd
          go_wp2_with fail
          refine (HSZ.out _).mono ?_
          rintro e w2 ⟨rfl, hbb⟩
          have HB1 := Lib.hid (below_step HB.out hbb)
          clear hbb c0 c1 c2 c3
          go_wp2
          go_ret
          exact ⟨rfl, HB1.out⟩
        · rw [if_neg hov] at hsz
          have HSZ := Lib.hid hsz
          have hv2 : ¬ v - (nm.size : Int) < 0 := by omega
          clear hst hsz hnm hd
          go_wp2_with fail
          refine (HSZ.out _).mono ?_
          rintro e w2 ⟨rfl, hbb⟩
          have HB1 := Lib.hid (below_step HB.out hbb)
          clear hbb c0 c1 c2 c3
          go_wp2
          go_roundw
          case rel => exact ⟨k + 1, q + nm.size, _, by omega, by have := HV.out; omega, by go_num, rfl, by have := HV.out; omega, HST, HB1⟩
          case measure => simp [intOf]; omega
      · exfalso
        have e1 := HQ.out
        rw [List.take_of_length_le (by rw [HN.out]; omega), HS.out] at e1
        omega

/-- what the items of a copy are after k rounds -/
def itNil : It := ⟨⟨#[]⟩, 0, 0, 0⟩
def itPart (ds : List It) (k : Nat) : List It := ds.take k ++ List.replicate (ds.length - k) itNil
theorem itPart_length (ds : List It) (k : Nat) (h : k ≤ ds.length) : (itPart ds k).length = ds.length := by simp [itPart]; omega
theorem itPart_all (ds : List It) : itPart ds ds.length = ds := by simp [itPart]
theorem itCells_append (a b : List It) : itCells (a ++ b) = itCells a ++ itCells b := by simp [itCells]
theorem itPart_set (ds : List It) (k : Nat) (d : It) (h : ds[k]? = some d) : itCells (itPart ds (k + 1)) = (((((itCells (itPart ds k)).set (k * 4) (.string d.name)).set (k * 4 + 1) (.int .i64 d.kind)).set (k * 4 + 2) (.int .i64 d.f0)).set (k * 4 + 3) (.int .i64 d.f1)) := by
  obtain ⟨hk, e⟩ := List.getElem?_eq_some_iff.1 h
  have hl : (itCells (ds.take k)).length = k * 4 := by rw [itCells_length, List.length_take]; congr 1; omega
  obtain ⟨r, hr⟩ : ∃ r, ds.length - k = r + 1 := ⟨ds.length - k - 1, by omega⟩
  have hr2 : ds.length - (k + 1) = r := by omega
  have e1 : itCells (itPart ds k) = itCells (ds.take k) ++ ([.string ⟨#[]⟩, .int .i64 0, .int .i64 0, .int .i64 0] ++ itCells (List.replicate r itNil)) := by
    rw [itPart, hr, List.replicate_succ, itCells_append]
    rfl
  have e2 : itCells (itPart ds (k + 1)) = itCells (ds.take k) ++ ([.string d.name, .int .i64 d.kind, .int .i64 d.f0, .int .i64 d.f1] ++ itCells (List.replicate r itNil)) := by
    rw [itPart, hr2, List.take_succ_eq_append_getElem hk, e, itCells_append, itCells_append, List.append_assoc]
    rfl
  rw [e1, e2]
  rw [List.set_append_right _ _ (by omega), List.set_append_right _ _ (by omega), List.set_append_right _ _ (by omega), List.set_append_right _ _ (by omega), hl]
  simp
theorem made_items (n : Nat) : madeCells (itCells [itNil]).toArray (n * 4) = (itCells (List.replicate n itNil) ++ []).toArray := by
  apply Array.ext
  · rw [size_madeCells]
    simp [itCells_length]
  · intro i h1 h2
    have hi : i < n * 4 := by simpa [size_madeCells] using h1
    have hd : (List.replicate n itNil)[i / 4]? = some itNil := by rw [List.getElem?_replicate, if_pos (by omega)]
    obtain ⟨g0, g1, g2, g3⟩ := itCells_get _ _ _ hd
    have e : ∀ v, (itCells (List.replicate n itNil))[i]? = some v → (itCells (List.replicate n itNil) ++ []).toArray[i] = v := fun v hv => by
      simp only [List.append_nil, List.getElem_toArray]
      exact (List.getElem?_eq_some_iff.1 hv).2
    have hm : i % 4 = 0 ∨ i % 4 = 1 ∨ i % 4 = 2 ∨ i % 4 = 3 := by omega
    rcases hm with h | h | h | h
    · rw [e _ (by rw [show i = i / 4 * 4 by omega]; exact g0)]
      simp [madeCells, itCells, h, itNil]
    · rw [e _ (by rw [show i = i / 4 * 4 + 1 by omega]; exact g1)]
      simp [madeCells, itCells, h, itNil]
    · rw [e _ (by rw [show i = i / 4 * 4 + 2 by omega]; exact g2)]
      simp [madeCells, itCells, h, itNil]
    · rw [e _ (by rw [show i = i / 4 * 4 + 3 by omega]; exact g3)]
      simp [madeCells, itCells, h, itNil]
end Go.Proofs.YtmdgpkiicjmfhaaDoor
