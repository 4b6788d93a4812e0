/- What the laws' helpers do with layouts: copies of items in memory of their own, and comparisons: contracts. -/
import Derived.Test.YtmdgpkiicjmfhaaDoorItemLists
import Derived.Laws.MakeOwn
import Derived.Laws.Entries
namespace Go.Proofs.YtmdgpkiicjmfhaaDoor
open Go.ChangeShapes Go.WideShapes Go.ChangeAt Go.RowKit

theorem make_rowN {P : Program} (t e : TypeId) (i : TypeInfo) (z : Value) (ht : P.underlying t = some (.slice e)) (hi : P.info? e = some i) (hz : i.zero = some z)
    (kl kc : IntKind) (n c : Nat) (hnc : n ≤ c) (hbytes : i.bytes * c ≤ 281474976710656) (h63 : c ≤ 9223372036854775807) (w : World) :
    (Instr.makeSlice t (.int kl (n : Int)) (.int kc (c : Int))).run P w = .ok (.slice (some ⟨w.heap.size, 0, none⟩) n c) (w.alloc (.cells (madeCells z.cells (c * i.size)) e)) := by
  have hb : (i.bytes : Int) * (c : Int) ≤ 281474976710656 := by
    have h : ((i.bytes * c : Nat) : Int) ≤ 281474976710656 := by omega
    rwa [Int.natCast_mul] at h
  have hr := run_make (P := P) w t e i z ht hi hz kl kc n c (by omega) (by omega) hb (by omega)
  simp only [Int.toNat_natCast] at hr
  exact hr
theorem info_item : (Tryd.prog.info? 51).map (fun i => (i.zero, i.size, i.bytes)) = some (some (.agg #[.string ⟨#[]⟩, .int .i64 0, .int .i64 0, .int .i64 0]), 4, 40) := by kernel_rfl

theorem IRow.set4 {w : World} {g k : Nat} {ds : List It} {d : It} (h : IRow w g (itPart ds k) []) (hd : ds[k]? = some d) :
    IRow ((((w.setCell ⟨g, k * 4, none⟩ (.string d.name)).setCell ⟨g, k * 4 + 1, none⟩ (.int .i64 d.kind)).setCell ⟨g, k * 4 + 2, none⟩ (.int .i64 d.f0)).setCell ⟨g, k * 4 + 3, none⟩ (.int .i64 d.f1)) g (itPart ds (k + 1)) [] := by
  unfold IRow at h ⊢
  rw [itPart_set ds k d hd]
  simp [World.setCell, Array.getElem?_modify, h]

/-- A copy of some items in new memory. -/
def GivesItems (ds : List It) (w : World) (e : Ending) (w' : World) : Prop :=
  e = .returned (.slice (some ⟨w.heap.size, 0, none⟩) ds.length ds.length) ∧ Below w.heap.size w w' ∧ IRow w' w.heap.size ds []

set_option maxHeartbeats 1000000 in
theorem toItems_any (A : Option Addr) (c : Nat) (ds : List It) (B : Nat) (w : World) (h : Items w B A ds) (hB : B ≤ w.heap.size) (hn : ds.length ≤ 1048576) :
    Calls Tryd.prog 20 #[.slice A ds.length c] w (GivesItems ds w) := by
  obtain ⟨i0, hi0, hz0, hz1, hz2⟩ := info_parts info_item
  have hmk0 := fun W => make_rowN (P := Tryd.prog) 30 51 i0 _ Tryd.underlying30 hi0 hz0 .i64 .i64 ds.length ds.length (Nat.le_refl _) (by rw [hz2]; omega) (by omega) W
  rw [hz1] at hmk0
  obtain ⟨n, hN⟩ : ∃ n, ds.length = n := ⟨_, rfl⟩
  rw [hN] at hmk0 hn
  have hmk : ∀ W : World, (Instr.makeSlice 30 (.int .i64 (n : Int)) (.int .i64 (n : Int))).run Tryd.prog W = .ok (.slice (some ⟨W.heap.size, 0, none⟩) n n) (W.alloc (.cells (itCells (List.replicate n itNil) ++ []).toArray 51)) := fun W => by
    rw [hmk0 W, ← made_items n]
    rfl
  unfold GivesItems
  rw [hN]
  have H := Lib.hid h
  have HN := Lib.hid hN
  obtain ⟨ob, hob⟩ : ∃ ob, Obj.cells (itCells (List.replicate n itNil) ++ []).toArray 51 = ob := ⟨_, rfl⟩
  rw [hob] at hmk
  have HOB := Lib.hid hob
  clear h hN hmk0 hob hi0 hz0 hz1 hz2
  go_enter Tryd.func20, Tryd.ntmps20
  go_wp2
  clear hmk
  go_loopw [4] (fun i wr => ∃ k : Nat, k ≤ n ∧ i = .int .i64 k ∧ Hid (IRow wr w.heap.size (itPart ds k) []) ∧ Hid (Below w.heap.size w wr)) (fun i _ => n - (intOf i).toNat)
  case atStart =>
    refine ⟨0, Nat.zero_le _, rfl, ?_, below_box w _⟩
    show IRow _ _ _ _
    unfold IRow
    have e : itPart ds 0 = List.replicate n itNil := by rw [itPart, HN.out]; simp
    rw [e, ← HOB.out]
    exact heap_alloc_new w _
  case round =>
    obtain ⟨k, hk, rfl, HR, HB⟩ := hrel
    by_cases hlt : k < n
    · obtain ⟨d, hd⟩ : ∃ d, ds[k]? = some d := ⟨ds[k]'(by rw [HN.out]; exact hlt), List.getElem?_eq_getElem _⟩
      obtain ⟨b, off, rfl, hb, c0, c1, c2, c3⟩ := (H.out.below (HB.out.mono hB)).at_ hd
      have hti := fun W => toItem_any d.name d.kind d.f0 d.f1 W
      have HS4 := Lib.hid (fun (W : World) (hW : IRow W w.heap.size (itPart ds k) []) => hW.set4 hd)
      obtain ⟨nm, kd, a, f⟩ := d
      have HTI := Lib.hid hti
      have HD := Lib.hid hd
      have hk0 : (0 : Int) ≤ (k : Int) := Int.natCast_nonneg _
      have hk1 : (k : Int) < (n : Int) := by omega
      have hpl : (itPart ds k).length = n := by rw [itPart_length ds k (by rw [HN.out]; exact hk), HN.out]
      obtain ⟨x, hx⟩ : ∃ x, (itPart ds k)[k]? = some x := ⟨_, List.getElem?_eq_getElem (by rw [hpl]; exact hlt)⟩
      obtain ⟨g0, g1, g2, g3⟩ := itCells_get _ _ _ hx
      clear hti hd hpl hx
      go_wp2_with fail
      refine (HTI.out _).mono ?_
      rintro e w2 ⟨rfl, hbb⟩
      have HR2 := Lib.hid (HR.out.later hbb)
      have HB2 := Lib.hid (below_step HB.out hbb)
      have x0 := HR2.out.cell g0
      have x1 := HR2.out.cell g1
      have x2 := HR2.out.cell g2
      have x3 := HR2.out.cell g3
      have fz := HR2.out.frozen
      have HR3 := Lib.hid (HS4.out w2 HR2.out)
      have HB3 : Hid (Below w.heap.size w ((((w2.setCell ⟨w.heap.size, k * 4, none⟩ (.string nm)).setCell ⟨w.heap.size, k * 4 + 1, none⟩ (.int .i64 kd)).setCell ⟨w.heap.size, k * 4 + 2, none⟩ (.int .i64 a)).setCell ⟨w.heap.size, k * 4 + 3, none⟩ (.int .i64 f))) := (((HB2.out.setCell (Nat.le_refl _) _).setCell (Nat.le_refl _) _).setCell (Nat.le_refl _) _).setCell (Nat.le_refl _) _
      clear hbb c0 c1 c2 c3 g0 g1 g2 g3
      go_wp2
      go_roundw
      case rel => exact ⟨k + 1, by omega, by go_num, HR3, HB3⟩
      case measure => simp [intOf]; omega
    · have hkn : k = n := by omega
      have hr := HR.out
      rw [hkn, ← HN.out, itPart_all] at hr
      have HR3 := Lib.hid hr
      have hk1 : ¬ (k : Int) < (n : Int) := by omega
      clear hr HR hkn
      go_wp2
      go_ret
      exact ⟨rfl, HB.out, HR3.out⟩
end Go.Proofs.YtmdgpkiicjmfhaaDoor
