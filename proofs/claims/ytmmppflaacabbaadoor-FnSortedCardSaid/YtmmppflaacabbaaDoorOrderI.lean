/- impl.OrderBy sorts the places of a deck's cards by a field: contracts, of its comparison too. -/
import Derived.Test.YtmmppflaacabbaaDoorOrderMath
import Derived.Test.YtmmppflaacabbaaDoorStable
import Derived.Test.YtmmppflaacabbaaDoorSortFirst
import Derived.Test.YtmmppflaacabbaaDoorIntsAt
namespace Go.Proofs.YtmmppflaacabbaaDoor
open Go.ChangeShapes Go.WideShapes Go.ChangeAt Go.RowKit

set_option maxRecDepth 100000 in
set_option maxHeartbeats 1000000 in
/-- the comparison reads the ranks of two cards -/
theorem orderCmp_any (D E : List CardV) (i j n kb gk : Nat) (x y : Int) (w : World) (hd : w.cell? ⟨kb, 0, none⟩ = some (.slice (some ⟨gk, 0, none⟩) n n)) (hO : OwnRows w gk E n) (hE : holes E = rks (holes D) i j) (hN : D.length = n)
    (hv : deckB (holes D) = true) (hj : j ≤ widthH (holes D)) (hx : okK n x) (hy : okK n y) :
    Calls Tryd.prog 40 #[.int .i64 x, .int .i64 y, .pointer (some ⟨kb, 0, none⟩)] w fun e w' => e = .returned (.int .i64 (cfK (holes D) i j x y)) ∧ ∃ m, w' = w.drewN m := by
  obtain ⟨p, rfl⟩ : ∃ p : Nat, x = p := ⟨x.toNat, by have := hx.1; omega⟩
  obtain ⟨q, rfl⟩ : ∃ q : Nat, y = q := ⟨y.toNat, by have := hy.1; omega⟩
  have hp1 : p < n := by have := hx.2; omega
  have hq1 : q < n := by have := hy.2; omega
  have hEl : E.length = n := by rw [rks_len hE, hN]
  have hn40 : n ≤ 40 := by
    have := deck_len hv
    rw [← hN]
    simpa [holes] using this
  obtain ⟨d, hd1⟩ : ∃ d, D[p]? = some d := ⟨D[p]'(by omega), List.getElem?_eq_getElem _⟩
  obtain ⟨d', hd2⟩ : ∃ d, D[q]? = some d := ⟨D[q]'(by omega), List.getElem?_eq_getElem _⟩
  obtain ⟨e, he1⟩ : ∃ e, E[p]? = some e := ⟨E[p]'(by omega), List.getElem?_eq_getElem _⟩
  obtain ⟨e', he2⟩ : ∃ e, E[q]? = some e := ⟨E[q]'(by omega), List.getElem?_eq_getElem _⟩
  have c1 : w.cell? ⟨gk, p, none⟩ = some e.value := by rw [hO.cell p, cellsOf_get E n _ e he1]
  have c2 : w.cell? ⟨gk, q, none⟩ = some e'.value := by rw [hO.cell q, cellsOf_get E n _ e' he2]
  obtain ⟨g1, a1, _, _, r1⟩ := hO.each e (List.mem_of_getElem? he1)
  obtain ⟨g2, a2, _, _, r2⟩ := hO.each e' (List.mem_of_getElem? he2)
  have x1 := rks_at hE hd1 he1
  have x2 := rks_at hE hd2 he2
  obtain ⟨y1, y2⟩ := deck_width hv (holes_at hd1)
  obtain ⟨y3, y4⟩ := deck_width hv (holes_at hd2)
  have l1 := partOf_length d.xs i j (by rw [y2]; exact hj)
  have l2 := partOf_length d'.xs i j (by rw [y4]; exact hj)
  have m1 : e.xs.length = j - i := by rw [x1]; simp [l1]
  have m2 : e'.xs.length = j - i := by rw [x2]; simp [l2]
  have h20 := (okB_parts y1).2
  have i1 := r1.ints
  have i2 := r2.ints
  rw [x1] at i1
  rw [x2] at i2
  have hc := fun m => slicesCompare_any (some ⟨g1, 0, none⟩) (some ⟨g2, 0, none⟩) e.cap e'.cap (partOf d.xs i j) (partOf d'.xs i j) (j - i) (g1 + 1) (g2 + 1) (w.drewN m) (i1.drewN m) (i2.drewN m) l1 l2 (by omega)
  have hck : cfK (holes D) i j p q = cmpTo (partOf d.xs i j) (partOf d'.xs i j) (j - i) := by
    unfold cfK
    rw [Int.toNat_natCast, Int.toNat_natCast]
    exact cmpK_at hd1 hd2
  rw [hck]
  unfold CardV.value at c1 c2
  rw [a1, m1] at c1
  rw [a2, m2] at c2
  obtain ⟨v, ev⟩ : ∃ v, cmpTo (partOf d.xs i j) (partOf d'.xs i j) (j - i) = v := ⟨_, rfl⟩
  rw [ev]
  simp only [ev] at hc
  obtain ⟨l, hl⟩ : ∃ l, j - i = l := ⟨_, rfl⟩
  rw [hl] at c1 c2
  simp only [hl] at hc
  have HC : Hid (∀ m, Calls Tryd.prog 41 #[.slice (some ⟨g1, 0, none⟩) l e.cap, .slice (some ⟨g2, 0, none⟩) l e'.cap] (w.drewN m) fun e w' => e = .returned (.int .i64 v) ∧ w' = w.drewN m) := fun m => (hc m).mono fun _ _ hh => ⟨hh.1, hh.2.symm⟩
  obtain ⟨z1, hz1⟩ : ∃ z, e.cap = z := ⟨_, rfl⟩
  obtain ⟨z2, hz2⟩ : ∃ z, e'.cap = z := ⟨_, rfl⟩
  rw [hz1] at c1
  rw [hz2] at c2
  simp only [hz1, hz2] at HC
  have t0 : (0 : Int) ≤ (p : Int) := Int.natCast_nonneg _
  have t1 : (0 : Int) ≤ (q : Int) := Int.natCast_nonneg _
  have t2 : (p : Int) < (n : Int) := by omega
  have t3 : (q : Int) < (n : Int) := by omega
  clear hO hE hN hv hj hx hy hEl hd1 hd2 he1 he2 a1 r1 a2 r2 x1 x2 y1 y2 y3 y4 l1 l2 m1 m2 h20 i1 i2 hc hck ev hl hz1 hz2
  go_enter Tryd.func40, Tryd.ntmps40
  go_wp2
  go_quiet ((go_at_call 41; exact Calls.quiet_of_same (HC.out _)))
  go_wp2
  go_ret
  exact ⟨rfl, _, rfl⟩

theorem OwnRows.only {w w' : World} {g h : Nat} {E : List CardV} {n : Nat} (ho : OwnRows w g E n) (hg : w.grownBy w' (some h)) (hb : ∀ e ∈ E, ∀ ge, e.at_ = some ⟨ge, 0, none⟩ → ge ≠ h) (hne : g ≠ h) : OwnRows w' g E n :=
  ⟨(hg.block g ho.lt (fun e => hne (Option.some.inj e))).trans ho.cards, fun e he => by
    obtain ⟨ge, h1, h2, h3, h4⟩ := ho.each e he
    exact ⟨ge, h1, h2, h3, Row.only hg h4 (hb e he ge h1)⟩⟩
end Go.Proofs.YtmmppflaacabbaaDoor
