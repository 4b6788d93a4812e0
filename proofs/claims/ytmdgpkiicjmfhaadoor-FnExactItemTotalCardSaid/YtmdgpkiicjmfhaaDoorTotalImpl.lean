/- impl.ItemTotal answers the sum of the numbers in an item of all cards, or the code: contracts, of impl.checkCards and impl.itemOn too. -/
import Derived.Test.YtmdgpkiicjmfhaaDoorTotalSpec
namespace Go.Proofs.YtmdgpkiicjmfhaaDoor
open Go.ChangeShapes Go.WideShapes Go.ChangeAt Go.RowKit

set_option maxHeartbeats 1000000 in
theorem checkCards_any (u : Int) (A : Option Addr) (c : Nat) (ds : List It) (A' : Option Addr) (c' : Nat) (D : List CardV) (B B' : Nat) (w : World) (h : Items w B A ds) (h' : Deck w B' A' D) (hB : B ≤ w.heap.size) (hB' : B' ≤ w.heap.size) (hn : ds.length ≤ 1048576) (hn' : D.length ≤ 1048576) (hl : ∀ d ∈ D, d.xs.length ≤ 1048576) (hc : ds.length ≤ c) (hs : ∀ d ∈ ds, d.name.size ≤ 1048576) :
    Calls Tryd.prog 40 #[.agg #[.int .i64 u, .slice A ds.length c], .slice A' D.length c'] w fun e w' => e = .returned (.int .i64 (chkC u ds (holes D))) ∧ Below w.heap.size w w' := by
  have b0 := below_box w (.cells #[.int .i64 u, .slice A ds.length c] 32)
  have p0 : (w.alloc (.cells #[.int .i64 u, .slice A ds.length c] 32)).cell? ⟨w.heap.size, 0, none⟩ = some (.int .i64 u) := by simp
  have p1 : (w.alloc (.cells #[.int .i64 u, .slice A ds.length c] 32)).cell? ⟨w.heap.size, 1, none⟩ = some (.slice A ds.length c) := by simp
  have ho := implValidL_any u A c ds B _ (h.below (b0.mono hB)) (Nat.le_trans hB b0.size) hn hc hs
  have hd := fun W (hW : Below w.heap.size w W) => implValidDeck_any A' c' D B' W (h'.below (hW.mono hB')) (Nat.le_trans hB' hW.size) hn' hl
  have B0 := Lib.hid b0
  obtain ⟨nd, hND⟩ : ∃ nd, ds.length = nd := ⟨_, rfl⟩
  rcases chkC_cases u ds (holes D) with ⟨e, hv⟩ | ⟨e, hv, hv'⟩ | ⟨e, hv, hv', h0, hz⟩ | ⟨e, hv, hv', h0⟩
  · rw [e]
    rw [hv] at ho
    rw [hND] at ho B0 p0 p1 ⊢
    have HO := Lib.hid ho
    clear ho hd h h' e hv b0 hND
    go_enter Tryd.func40, Tryd.ntmps40
    go_wp2_with fail
    refine HO.out.mono ?_
    rintro e w1 ⟨rfl, hb⟩
    have B1 := Lib.hid (below_step B0.out hb)
    clear hb
    go_wp2
    go_ret
    exact ⟨rfl, B1.out⟩
  · rw [e]
    rw [hv] at ho
    simp only [hv'] at hd
    rw [hND] at ho B0 p0 p1 ⊢
    have HO := Lib.hid ho
    have HD := Lib.hid hd
    obtain ⟨n, hN⟩ : ∃ n, D.length = n := ⟨_, rfl⟩
    simp only [hN] at HD ⊢
    clear ho hd h h' e hv hv' hN b0 hND
    go_enter Tryd.func40, Tryd.ntmps40
    go_wp2_with fail
    refine HO.out.mono ?_
    rintro e w1 ⟨rfl, hb⟩
    have B1 := Lib.hid (below_step B0.out hb)
    clear hb
    go_wp2_with fail
    refine (HD.out _ B1.out).mono ?_
    rintro e w2 ⟨rfl, hb⟩
    have B2 := Lib.hid (below_step B1.out hb)
    clear hb
    go_wp2
    go_ret
    exact ⟨rfl, B2.out⟩
  · rw [e]
    rw [hv] at ho
    simp only [hv'] at hd
    rw [hND] at ho B0 p0 p1 ⊢
    have HO := Lib.hid ho
    have HD := Lib.hid hd
    have hlen : (holes D).length = D.length := by simp [holes]
    rw [hlen] at h0
    obtain ⟨d, hdd⟩ : ∃ d, D[0]? = some d := ⟨D[0]'(by omega), List.getElem?_eq_getElem _⟩
    have hfz : firstZ (holes D) = d.xs.length := by simp [firstZ, holes, hdd]
    rw [hfz] at hz
    obtain ⟨b, off, rfl, hb0, hcell⟩ := h' (by omega)
    have hc : w.cell? ⟨b, off, none⟩ = some d.value := (hcell 0 d hdd).1
    have hm := hl d (List.mem_of_getElem? hdd)
    unfold CardV.value at hc
    obtain ⟨m, hM⟩ : ∃ m, d.xs.length = m := ⟨_, rfl⟩
    obtain ⟨n, hN⟩ : ∃ n, D.length = n := ⟨_, rfl⟩
    rw [hM] at hc hz hm
    simp only [hN] at HD h0 ⊢
    have i0 : (n : Int) > 0 := by omega
    have i1 : (0 : Int) < (n : Int) := by omega
    have hz' : ((m : Int) != u) = true := by simpa using hz
    have hpos : 0 < n := by omega
    clear ho hd h h' e hv hv' hN hM hcell hdd hfz hlen hz hb0 hl h0 b0 hND
    go_enter Tryd.func40, Tryd.ntmps40
    go_wp2_with fail
    refine HO.out.mono ?_
    rintro e w1 ⟨rfl, hb⟩
    have B1 := Lib.hid (below_step B0.out hb)
    have c1 := cell_kept (cell_kept hc B0.out) hb
    have q0 := cell_kept p0 hb
    clear hb hc p0 p1
    go_wp2_with fail
    refine (HD.out _ B1.out).mono ?_
    rintro e w2 ⟨rfl, hb⟩
    have B2 := Lib.hid (below_step B1.out hb)
    have c2 := cell_kept c1 hb
    have q2 := cell_kept q0 hb
    clear hb c1 q0
    go_wp2
    go_quiet (fail)
    go_wp2
    go_ret
    exact ⟨rfl, below_drewN B2.out _⟩
  · rw [e]
    rw [hv] at ho
    simp only [hv'] at hd
    rw [hND] at ho B0 p0 p1 ⊢
    have HO := Lib.hid ho
    have HD := Lib.hid hd
    have hlen : (holes D).length = D.length := by simp [holes]
    rw [hlen] at h0
    have hfirst : ∀ w', Below w.heap.size w w' → 0 < D.length → ∃ b off m, A' = some ⟨b, off, none⟩ ∧ (∃ x y, w'.cell? ⟨b, off, none⟩ = some (.slice x m y)) ∧ (m : Int) = u ∧ m ≤ 1048576 := fun w' hb hpos => by
      obtain ⟨d, hdd⟩ : ∃ d, D[0]? = some d := ⟨D[0]'(by omega), List.getElem?_eq_getElem _⟩
      have hfz : firstZ (holes D) = d.xs.length := by simp [firstZ, holes, hdd]
      rw [hfz] at h0
      obtain ⟨b, off, rfl, hb0, hcell⟩ := h' (by omega)
      have hc : w.cell? ⟨b, off, none⟩ = some d.value := (hcell 0 d hdd).1
      exact ⟨b, off, d.xs.length, rfl, ⟨_, _, cell_kept hc hb⟩, by omega, hl d (List.mem_of_getElem? hdd)⟩
    obtain ⟨n, hN⟩ : ∃ n, D.length = n := ⟨_, rfl⟩
    simp only [hN] at HD hfirst ⊢
    have HFI := Lib.hid hfirst
    clear ho hd h h' e hv hv' hlen hl hfirst h0 hn hn' b0 hND
    go_enter Tryd.func40, Tryd.ntmps40
    go_wp2_with fail
    refine HO.out.mono ?_
    rintro e w1 ⟨rfl, hb⟩
    have B1 := Lib.hid (below_step B0.out hb)
    have q0 := cell_kept p0 hb
    clear hb p0 p1
    go_wp2_with fail
    refine (HD.out _ B1.out).mono ?_
    rintro e w2 ⟨rfl, hb⟩
    have B2 := Lib.hid (below_step B1.out hb)
    have q2 := cell_kept q0 hb
    clear hb q0 HD HO
    by_cases hpos : 0 < n
    · obtain ⟨b, off, m, rfl, ⟨x, y, c2⟩, hmu, hm⟩ := HFI.out w2 B2.out hpos
      have i0 : (n : Int) > 0 := by omega
      have i1 : (0 : Int) < (n : Int) := by omega
      have hz' : ((m : Int) != u) = false := by simp [hmu]
      clear HFI
      go_wp2
      go_quiet (fail)
      go_wp2
      go_ret
      exact ⟨rfl, below_drewN B2.out _⟩
    · obtain rfl : n = 0 := by omega
      clear HFI
      go_wp2
      go_quiet (fail)
      go_wp2
      go_ret
      exact ⟨rfl, below_drewN B2.out _⟩

/-- the item that itemOn answers -/
def itV (u : Int) (ds : List It) (s : ByteArray) (H : List (List Int)) : It :=
  if chkC u ds H ≠ 0 then ⟨⟨#[]⟩, 0, 0, 0⟩ else (itemOf ds s).getD ⟨⟨#[]⟩, 0, 0, 0⟩

set_option maxHeartbeats 1000000 in
theorem itemOn_any (s : ByteArray) (u : Int) (A : Option Addr) (c : Nat) (ds : List It) (A' : Option Addr) (c' : Nat) (D : List CardV) (B B' : Nat) (w : World) (h : Items w B A ds) (h' : Deck w B' A' D) (hB : B ≤ w.heap.size) (hB' : B' ≤ w.heap.size) (hn : ds.length ≤ 1048576) (hn' : D.length ≤ 1048576) (hl : ∀ d ∈ D, d.xs.length ≤ 1048576) (hc : ds.length ≤ c) (hs : ∀ d ∈ ds, d.name.size ≤ 1048576) (hs1 : s.size ≤ 1048576) :
    Calls Tryd.prog 22 #[.agg #[.int .i64 u, .slice A ds.length c], .string s, .slice A' D.length c'] w fun e w' => e = .returned (.tuple #[(itV u ds s (holes D)).val, .int .i64 (dkC u ds s (holes D))]) ∧ Below w.heap.size w w' := by
  have b0 := below_box w (.cells #[.int .i64 u, .slice A ds.length c] 32)
  have b1 := b0.alloc (by simp) (.cells #[.string ⟨#[]⟩, .int .i64 0, .int .i64 0, .int .i64 0] 51)
  have l0 : ((w.alloc (.cells #[.int .i64 u, .slice A ds.length c] 32)).alloc (.cells #[.string ⟨#[]⟩, .int .i64 0, .int .i64 0, .int .i64 0] 51)).cell? ⟨w.heap.size, 0, none⟩ = some (.int .i64 u) := by simp
  have l1 : ((w.alloc (.cells #[.int .i64 u, .slice A ds.length c] 32)).alloc (.cells #[.string ⟨#[]⟩, .int .i64 0, .int .i64 0, .int .i64 0] 51)).cell? ⟨w.heap.size, 1, none⟩ = some (.slice A ds.length c) := by simp
  have r0 : ((w.alloc (.cells #[.int .i64 u, .slice A ds.length c] 32)).alloc (.cells #[.string ⟨#[]⟩, .int .i64 0, .int .i64 0, .int .i64 0] 51)).cell? ⟨w.heap.size + 1, 0, none⟩ = some (.string ⟨#[]⟩) := by simp
  have r1 : ((w.alloc (.cells #[.int .i64 u, .slice A ds.length c] 32)).alloc (.cells #[.string ⟨#[]⟩, .int .i64 0, .int .i64 0, .int .i64 0] 51)).cell? ⟨w.heap.size + 1, 1, none⟩ = some (.int .i64 0) := by simp
  have r2 : ((w.alloc (.cells #[.int .i64 u, .slice A ds.length c] 32)).alloc (.cells #[.string ⟨#[]⟩, .int .i64 0, .int .i64 0, .int .i64 0] 51)).cell? ⟨w.heap.size + 1, 2, none⟩ = some (.int .i64 0) := by simp
  have r3 : ((w.alloc (.cells #[.int .i64 u, .slice A ds.length c] 32)).alloc (.cells #[.string ⟨#[]⟩, .int .i64 0, .int .i64 0, .int .i64 0] 51)).cell? ⟨w.heap.size + 1, 3, none⟩ = some (.int .i64 0) := by simp
  have fr : ∀ j, ((w.alloc (.cells #[.int .i64 u, .slice A ds.length c] 32)).alloc (.cells #[.string ⟨#[]⟩, .int .i64 0, .int .i64 0, .int .i64 0] 51)).frozen? ⟨w.heap.size + 1, j, none⟩ = false := fun j => by simp
  have hsz : w.heap.size + 1 < ((w.alloc (.cells #[.int .i64 u, .slice A ds.length c] 32)).alloc (.cells #[.string ⟨#[]⟩, .int .i64 0, .int .i64 0, .int .i64 0] 51)).heap.size := by simp
  have hch := checkCards_any u A c ds A' c' D B B' _ (h.below (b1.mono hB)) (h'.below (b1.mono hB')) (Nat.le_trans hB b1.size) (Nat.le_trans hB' b1.size) hn hn' hl hc hs
  have hnm := fun W (hW : Below w.heap.size w W) => implNamed_any s u A c ds B W (h.below (hW.mono hB)) (Nat.le_trans hB hW.size) hn hc hs hs1
  have HCH := Lib.hid hch
  have HNM := Lib.hid hnm
  have B0 := Lib.hid b1
  have G0 := Lib.hid hsz
  have HL := Lib.hid h
  obtain ⟨nd, hND⟩ : ∃ nd, ds.length = nd := ⟨_, rfl⟩
  obtain ⟨n, hN⟩ : ∃ n, D.length = n := ⟨_, rfl⟩
  have HND := Lib.hid hND
  by_cases e : chkC u ds (holes D) = 0
  · obtain ⟨_, hv, _, _⟩ : chkC u ds (holes D) = 0 ∧ layoutB u ds = true ∧ deckB (holes D) = true ∧ ((holes D).length = 0 ∨ (firstZ (holes D) : Int) = u) := by
      rcases chkC_cases u ds (holes D) with h' | h' | h' | h' <;> first | exact h' | (rw [e] at h'; exact absurd h'.1 (by decide))
    rw [e] at HCH
    rcases itemOf_cases ds s with ⟨h1, h2, h3⟩ | ⟨p, d, hp, hd, h1, h2, h3⟩
    · have ec : dkC u ds s (holes D) = 3 := by rw [dkC, if_neg (by simp [e]), h3]; rfl
      have ev : itV u ds s (holes D) = ⟨⟨#[]⟩, 0, 0, 0⟩ := by rw [itV, if_neg (by simp [e]), h1]; rfl
      have ac : askC u ds s = 3 := by rw [askC, if_pos hv, h3]; rfl
      have av : askV u ds s = 0 := by rw [askV, if_pos hv, h3]; rfl
      rw [ec, ev]
      simp only [ac, av] at HNM
      simp only [hND, hN] at HCH HNM B0 G0 l0 l1 r0 r1 r2 r3 fr ⊢
      unfold It.val
      simp only
      clear e h1 h2 h3 ec ev ac av hv hch hnm b1 b0 h h' hl hs hc hND hN hsz HL
      go_enter Tryd.func22, Tryd.ntmps22
      go_wp2_with fail
      refine HCH.out.mono ?_
      rintro e w1 ⟨rfl, hb⟩
      have B1 := Lib.hid (below_step B0.out hb)
      have l0_1 := cell_kept l0 hb
      have l1_1 := cell_kept l1 hb
      have r0_1 := cell_kept r0 hb
      have r1_1 := cell_kept r1 hb
      have r2_1 := cell_kept r2 hb
      have r3_1 := cell_kept r3 hb
      have fr_1 : ∀ j, w1.frozen? ⟨w.heap.size + 1, j, none⟩ = false := fun j => (hb.frozen G0.out).trans (fr j)
      have G1 := Lib.hid (Nat.lt_of_lt_of_le G0.out hb.size)
      clear hb l0 l1 r0 r1 r2 r3 fr B0 G0 HCH
      go_wp2_with fail
      refine (HNM.out _ B1.out).mono ?_
      rintro e w2 ⟨rfl, hb⟩
      have B2 := Lib.hid (below_step B1.out hb)
      have r0_2 := cell_kept r0_1 hb
      have r1_2 := cell_kept r1_1 hb
      have r2_2 := cell_kept r2_1 hb
      have r3_2 := cell_kept r3_1 hb
      have fr_2 : ∀ j, w2.frozen? ⟨w.heap.size + 1, j, none⟩ = false := fun j => (hb.frozen G1.out).trans (fr_1 j)
      clear hb l0_1 l1_1 r0_1 r1_1 r2_1 r3_1 fr_1 B1 G1 HNM
      go_wp2
      exact bodyPost_ret (v := .tuple #[.agg #[.string ⟨#[]⟩, .int .i64 0, .int .i64 0, .int .i64 0], .int .i64 3]) (by simp [results, Tryd.results22, go_sem, r0_2, r1_2, r2_2, r3_2, fr_2]) rfl ⟨rfl, (((B2.out.setCell (by simp) _).setCell (by simp) _).setCell (by simp) _).setCell (by simp) _⟩
    · have ec : dkC u ds s (holes D) = 0 := by rw [dkC, if_neg (by simp [e]), h3]; rfl
      have ev : itV u ds s (holes D) = d := by rw [itV, if_neg (by simp [e]), h1]; rfl
      have ac : askC u ds s = 0 := by rw [askC, if_pos hv, h3]; rfl
      have av : askV u ds s = p := by rw [askV, if_pos hv, h3, h2]; rfl
      rw [ec, ev]
      simp only [ac, av] at HNM
      obtain ⟨bi, oi, rfl, hbi, hcell⟩ := h (by omega)
      obtain ⟨c0, c1, c2, c3⟩ := hcell p d hd
      simp only [hND, hN] at HCH HNM B0 G0 l0 l1 r0 r1 r2 r3 fr hp ⊢
      unfold It.val
      obtain ⟨nm, kd, f0, f1⟩ := d
      simp only at c0 c1 c2 c3 ⊢
      have k0 : (0 : Int) ≤ (p : Int) := Int.natCast_nonneg _
      have k1 : (p : Int) < (nd : Int) := by omega
      clear e h1 h2 h3 ec ev ac av hv hch hnm b1 b0 h' hl hs hc hND hN hsz HL hd hcell
      go_enter Tryd.func22, Tryd.ntmps22
      go_wp2_with fail
      refine HCH.out.mono ?_
      rintro e w1 ⟨rfl, hb⟩
      have B1 := Lib.hid (below_step B0.out hb)
      have l0_1 := cell_kept l0 hb
      have l1_1 := cell_kept l1 hb
      have r0_1 := cell_kept r0 hb
      have r1_1 := cell_kept r1 hb
      have r2_1 := cell_kept r2 hb
      have r3_1 := cell_kept r3 hb
      have fr_1 : ∀ j, w1.frozen? ⟨w.heap.size + 1, j, none⟩ = false := fun j => (hb.frozen G0.out).trans (fr j)
      have G1 := Lib.hid (Nat.lt_of_lt_of_le G0.out hb.size)
      clear hb l0 l1 r0 r1 r2 r3 fr B0 G0 HCH
      go_wp2_with fail
      refine (HNM.out _ B1.out).mono ?_
      rintro e w2 ⟨rfl, hb⟩
      have B2 := Lib.hid (below_step B1.out hb)
      have l0_2 := cell_kept l0_1 hb
      have l1_2 := cell_kept l1_1 hb
      have r0_2 := cell_kept r0_1 hb
      have r1_2 := cell_kept r1_1 hb
      have r2_2 := cell_kept r2_1 hb
      have r3_2 := cell_kept r3_1 hb
      have c0_2 := cell_kept c0 B2.out
      have c1_2 := cell_kept c1 B2.out
      have c2_2 := cell_kept c2 B2.out
      have c3_2 := cell_kept c3 B2.out
      have fr_2 : ∀ j, w2.frozen? ⟨w.heap.size + 1, j, none⟩ = false := fun j => (hb.frozen G1.out).trans (fr_1 j)
      clear hb l0_1 l1_1 r0_1 r1_1 r2_1 r3_1 fr_1 B1 G1 HNM c0 c1 c2 c3
      go_wp2
      exact bodyPost_ret (v := .tuple #[.agg #[.string nm, .int .i64 kd, .int .i64 f0, .int .i64 f1], .int .i64 0]) (by simp [results, Tryd.results22, go_sem, r0_2, r1_2, r2_2, r3_2, fr_2]) rfl ⟨rfl, (((B2.out.setCell (by simp) _).setCell (by simp) _).setCell (by simp) _).setCell (by simp) _⟩
  · obtain ⟨q, hq⟩ : ∃ q, chkC u ds (holes D) = q := ⟨_, rfl⟩
    have ec : dkC u ds s (holes D) = q := by rw [dkC, if_pos e, hq]
    have ev : itV u ds s (holes D) = ⟨⟨#[]⟩, 0, 0, 0⟩ := by rw [itV, if_pos e]
    rw [ec, ev]
    rw [hq] at HCH e
    have hne : (q != 0) = true := by simpa using e
    simp only [hND, hN] at HCH B0 G0 l0 l1 r0 r1 r2 r3 fr ⊢
    unfold It.val
    simp only
    clear ec ev hch hnm HNM b1 b0 h h' hl hs hc hND hN hsz HL hq e
    go_enter Tryd.func22, Tryd.ntmps22
    go_wp2_with fail
    refine HCH.out.mono ?_
    rintro e w1 ⟨rfl, hb⟩
    have B1 := Lib.hid (below_step B0.out hb)
    have r0_1 := cell_kept r0 hb
    have r1_1 := cell_kept r1 hb
    have r2_1 := cell_kept r2 hb
    have r3_1 := cell_kept r3 hb
    have fr_1 : ∀ j, w1.frozen? ⟨w.heap.size + 1, j, none⟩ = false := fun j => (hb.frozen G0.out).trans (fr j)
    clear hb l0 l1 r0 r1 r2 r3 fr B0 G0 HCH
    go_wp2
    exact bodyPost_ret (v := .tuple #[.agg #[.string ⟨#[]⟩, .int .i64 0, .int .i64 0, .int .i64 0], .int .i64 q]) (by simp [results, Tryd.results22, go_sem, r0_1, r1_1, r2_1, r3_1, fr_1]) rfl ⟨rfl, (((B1.out.setCell (by simp) _).setCell (by simp) _).setCell (by simp) _).setCell (by simp) _⟩
set_option maxHeartbeats 2000000 in
theorem implTotal_any (s : ByteArray) (u : Int) (A : Option Addr) (c : Nat) (ds : List It) (A' : Option Addr) (c' : Nat) (D : List CardV) (B B' : Nat) (w : World) (h : Items w B A ds) (h' : Deck w B' A' D) (hB : B ≤ w.heap.size) (hB' : B' ≤ w.heap.size) (hn : ds.length ≤ 1048576) (hn' : D.length ≤ 1048576) (hl : ∀ d ∈ D, d.xs.length ≤ 1048576) (hc : ds.length ≤ c) (hs : ∀ d ∈ ds, d.name.size ≤ 1048576) (hs1 : s.size ≤ 1048576) (hcap : ∀ d ∈ D, d.xs.length ≤ d.cap ∧ d.cap ≤ 9223372036854775807) {aL aF aM : Addr} (S : Sents w aL aF aM) :
    Calls Tryd.prog 10 #[.agg #[.int .i64 u, .slice A ds.length c], .slice A' D.length c', .string s] w fun e w' => e = .returned (.tuple #[.int .i64 (totV u ds s (holes D)), .int .i64 (totC u ds s (holes D))]) ∧ Below w.heap.size w w' := by
  have b0 := below_box w (.cells #[.int .i64 u, .slice A ds.length c] 32)
  have p0 : (w.alloc (.cells #[.int .i64 u, .slice A ds.length c] 32)).cell? ⟨w.heap.size, 0, none⟩ = some (.int .i64 u) := by simp
  have p1 : (w.alloc (.cells #[.int .i64 u, .slice A ds.length c] 32)).cell? ⟨w.heap.size, 1, none⟩ = some (.slice A ds.length c) := by simp
  have hit := itemOn_any s u A c ds A' c' D B B' _ (h.below (b0.mono hB)) (h'.below (b0.mono hB')) (Nat.le_trans hB b0.size) (Nat.le_trans hB' b0.size) hn hn' hl hc hs hs1
  have B0 := Lib.hid b0
  have HIT := Lib.hid hit
  have HS := Lib.hid S
  obtain ⟨m, hM⟩ : ∃ m, ds.length = m := ⟨_, rfl⟩
  obtain ⟨n, hN⟩ : ∃ n, D.length = n := ⟨_, rfl⟩
  have HN := Lib.hid hN
  have hHl : (holes D).length = n := by simp [holes, hN]
  by_cases e : dkC u ds s (holes D) = 0
  · obtain ⟨p, d, hd, _, _, _, hch, hv, hv', h0, hC, hV, hio⟩ := dkC_zero e
    have ev : itV u ds s (holes D) = d := by rw [itV, if_neg (by simp [hch]), hio]; rfl
    rw [ev, e] at HIT
    rw [hC, hV, hHl]
    have HH' := Lib.hid h'
    have HL := Lib.hid hl
    have HCP := Lib.hid hcap
    by_cases hk : d.kind = 2
    · obtain ⟨i, j, hi, hj, hij, h12, hcards⟩ := item_field hv hd hk hv' h0
      rw [if_neg (by simp [hk]), if_neg (by simp [hk]), hi, hj, Int.toNat_natCast, Int.toNat_natCast]
      have HCA := Lib.hid hcards
      obtain ⟨r, hr⟩ : ∃ r, sumTo (holes D) i j n = r := ⟨_, rfl⟩
      rw [hr]
      have HR := Lib.hid hr
      have hn40 : n ≤ 40 := by
        rw [deckB, Bool.and_eq_true, decide_eq_true_eq, hHl] at hv'
        exact hv'.2
      obtain ⟨nm, kd, f0, f1⟩ := d
      simp only at hk hi hj
      subst hk hi hj
      simp only [hM, hN] at HIT B0 p0 p1 ⊢
      unfold It.val at HIT
      simp only at HIT
      clear hd hch hv hv' h0 hC hV hio ev h h' hl hcap b0 hM hN hHl hcards hr e p0 hit hs hc hn S
      go_enter Tryd.func10, Tryd.ntmps10
      go_wp2_with fail
      refine HIT.out.mono ?_
      rintro e w1 ⟨rfl, hb⟩
      have B1 := Lib.hid (below_step B0.out hb)
      have q1 := cell_kept p1 hb
      clear hb p1 HIT B0
      go_wp2
      go_loopw [10, 30] (fun t x wr => ∃ k : Nat, ∃ v : Int, k ≤ n ∧ x = .int .i64 k ∧ t = .int .i64 v ∧ Hid (sumTo (holes D) i j k = some v) ∧ Hid (wr.cell? ⟨w1.heap.size, 2, none⟩ = some (.int .i64 i) ∧ wr.cell? ⟨w1.heap.size, 3, none⟩ = some (.int .i64 j)) ∧ Hid (Below w1.heap.size w1 wr)) (fun _ x _ => n - (intOf x).toNat)
      case atStart => exact ⟨0, 0, Nat.zero_le _, rfl, rfl, rfl, ⟨by simp, by simp⟩, below_box w1 _⟩
      case round =>
        obtain ⟨k, v, hk, rfl, rfl, HSU, HC, HB⟩ := hrel
        obtain ⟨f2, f3⟩ := HC.out
        have HBW := Lib.hid (below_step B1.out HB.out)
        by_cases hlt : k < n
        · obtain ⟨dd, hdd⟩ : ∃ d, D[k]? = some d := ⟨D[k]'(by rw [HN.out]; exact hlt), List.getElem?_eq_getElem _⟩
          have hxs : (holes D)[k]? = some dd.xs := by simp [holes, hdd]
          obtain ⟨g1, g2, g3⟩ := HCA.out k dd.xs hxs
          obtain ⟨bq, oq, rfl, _, hcell⟩ := (HH'.out.below (HBW.out.mono hB')) (by rw [HN.out]; omega)
          obtain ⟨hc, hic⟩ := hcell k dd hdd
          have hm := List.mem_of_getElem? hdd
          obtain ⟨m1, m2⟩ := HCP.out dd hm
          have hx1 := HL.out dd hm
          obtain ⟨ad, zd, xd⟩ := dd
          simp only at hc hic m1 m2 hx1 g1 g2 g3 hxs
          unfold CardV.value at hc
          simp only at hc
          obtain ⟨b2, o2, rfl, _⟩ := hic (by omega)
          have S1 := HS.out.below HBW.out
          have S2 := S1.below (below_box wr (.cells #[.slice (some ⟨b2, o2, none⟩) xd.length zd] 56))
          have hnum := implNumberIn_good b2 o2 zd xd B' i j (wr.alloc (.cells #[.slice (some ⟨b2, o2, none⟩) xd.length zd] 56)) (hic.below ((below_box wr _).mono (Nat.le_trans hB' HBW.out.size))) (by simp; have := HBW.out.size; omega) m1 ⟨hx1, m2⟩ hij g2 g3 g1 h12 S2
          obtain ⟨o, ho⟩ : ∃ o, numOf (partOf xd i j) = o := ⟨_, rfl⟩
          rw [ho] at hnum
          have Ho := Lib.hid ho
          have HXS := Lib.hid hxs
          have kk0 : (0 : Int) ≤ (k : Int) := Int.natCast_nonneg _
          have kk1 : (k : Int) < (n : Int) := by omega
          obtain ⟨xn, hxn⟩ : ∃ xn, xd.length = xn := ⟨_, rfl⟩
          rw [hxn] at hnum hc
          clear hcell hdd hxs hic ho g1 g2 g3 m1 m2 hx1 hm S1 S2 hxn
          have x2 := cell_kept f2 (below_box wr (.cells #[.slice (some ⟨b2, o2, none⟩) xn zd] 56))
          have x3 := cell_kept f3 (below_box wr (.cells #[.slice (some ⟨b2, o2, none⟩) xn zd] 56))
          have xl := World.block_lt_of_cell? _ _ f2
          have xe : w1.heap.size ≠ wr.heap.size := by simp only at xl; omega
          cases o with
          | none =>
            obtain rfl : r = none := by rw [← HR.out]; exact sumTo_stop HXS.out Ho.out hlt
            simp only [numV, numCode] at hnum
            have HNU := Lib.hid hnum
            clear hnum
            go_wp2_with fail
            refine HNU.out.mono ?_
            rintro e w5 ⟨rfl, hb⟩
            have HB5 := Lib.hid (below_step HBW.out ((below_box wr _).trans (hb.mono (by simp))))
            clear hb
            go_wp2
            go_ret2
            exact ⟨rfl, HB5.out⟩
          | some z =>
            have HS1 := Lib.hid (sumTo_more HSU.out HXS.out Ho.out)
            simp only [numV, numCode] at hnum
            have HNU := Lib.hid hnum
            clear hnum
            go_wp2_with fail
            refine HNU.out.mono ?_
            rintro e w5 ⟨rfl, hb⟩
            have hbw : Below wr.heap.size wr w5 := (below_box wr _).trans (hb.mono (by simp))
            have HB5 := Lib.hid (below_step HB.out hbw)
            have HC5 := Lib.hid (And.intro (cell_kept f2 hbw) (cell_kept f3 hbw))
            clear hb hbw
            go_wp2
            go_roundw
            case rel => exact ⟨k + 1, _, by omega, by go_num, rfl, HS1, HC5, HB5⟩
            case measure => simp [intOf]; omega
        · have hkn : k = n := by omega
          have kk1 : ¬ (k : Int) < (n : Int) := by omega
          obtain rfl : r = some v := by rw [← HR.out, ← hkn]; exact HSU.out
          clear hkn
          go_wp2
          go_ret2
          exact ⟨rfl, HBW.out⟩
    · rw [if_pos hk, if_pos hk]
      obtain ⟨nm, kd, f0, f1⟩ := d
      simp only at hk
      have hk' : (kd != 2) = true := by simpa using hk
      simp only [hM, hN] at HIT B0 p0 p1 ⊢
      unfold It.val at HIT
      simp only at HIT
      clear hd hch hv hv' h0 hC hV hio ev h h' hl hcap b0 hM hN hHl e p0 hit hs hc hn S hk
      go_enter Tryd.func10, Tryd.ntmps10
      go_wp2_with fail
      refine HIT.out.mono ?_
      rintro e w1 ⟨rfl, hb⟩
      have B1 := Lib.hid (below_step B0.out hb)
      clear hb p1 HIT B0
      go_wp2
      go_ret2
      exact ⟨rfl, below_step B1.out (below_box w1 _)⟩
  · obtain ⟨hC, hV⟩ := totC_dk u ds s (holes D) e
    rw [hC, hV]
    obtain ⟨q, hq⟩ : ∃ q, dkC u ds s (holes D) = q := ⟨_, rfl⟩
    obtain ⟨d, hdv⟩ : ∃ d, itV u ds s (holes D) = d := ⟨_, rfl⟩
    rw [hq] at e ⊢
    rw [hq, hdv] at HIT
    obtain ⟨nm, kd, f0, f1⟩ := d
    have e1 : (q != 0) = true := by simpa using e
    simp only [hM, hN] at HIT B0 p0 p1 ⊢
    unfold It.val at HIT
    simp only at HIT
    clear hC hV h h' hl hcap b0 hM hN hHl e p0 p1 hit hs hc hn S hq hdv
    go_enter Tryd.func10, Tryd.ntmps10
    go_wp2_with fail
    refine HIT.out.mono ?_
    rintro e w1 ⟨rfl, hb⟩
    have B1 := Lib.hid (below_step B0.out hb)
    clear hb HIT B0
    go_wp2
    go_ret2
    exact ⟨rfl, below_step B1.out (below_box w1 _)⟩
end Go.Proofs.YtmdgpkiicjmfhaaDoor
