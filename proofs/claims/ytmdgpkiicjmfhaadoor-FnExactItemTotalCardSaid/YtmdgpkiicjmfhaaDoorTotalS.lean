/- spec.ItemTotal answers the sum of the numbers in an item of all cards, or the code: contracts, of spec.l04Deck too. -/
import Derived.Test.YtmdgpkiicjmfhaaDoorTotalMath
import Derived.Deep.RegionHeld3
namespace Go.Proofs.YtmdgpkiicjmfhaaDoor
open Go.ChangeShapes Go.WideShapes Go.ChangeAt Go.RowKit

def dkC (u : Int) (ds : List It) (s : ByteArray) (H : List (List Int)) : Int := if chkC u ds H ≠ 0 then chkC u ds H else if nameTo ds s ds.length = true then 0 else 3
def dkV (u : Int) (ds : List It) (s : ByteArray) (H : List (List Int)) : Int := if chkC u ds H ≠ 0 then 0 else if nameTo ds s ds.length = true then firstTo ds s ds.length else 0

set_option maxHeartbeats 1000000 in
theorem l04Deck_any (s : ByteArray) (u : Int) (A : Option Addr) (c : Nat) (ds : List It) (A' : Option Addr) (c' : Nat) (D : List CardV) (B B' p : Nat) (w : World) (hp0 : w.cell? ⟨p, 0, none⟩ = some (.int .i64 u)) (hp1 : w.cell? ⟨p, 1, none⟩ = some (.slice A ds.length c)) (h : Items w B A ds) (h' : Deck w B' A' D) (hB : B ≤ w.heap.size) (hB' : B' ≤ w.heap.size) (hn : ds.length ≤ 1048576) (hn' : D.length ≤ 1048576) (hl : ∀ d ∈ D, d.xs.length ≤ 1048576) :
    Calls Tryd.prog 17 #[.pointer (some ⟨p, 0, none⟩), .slice A' D.length c', .string s] w fun e w' => e = .returned (.tuple #[.int .i64 (dkV u ds s (holes D)), .int .i64 (dkC u ds s (holes D))]) ∧ Below w.heap.size w w' := by
  have ho := l04Ok_any u A c ds B p 0 w hp0 hp1 h hB hn
  have hd := fun W (hW : Below w.heap.size w W) => l02Deck_any A' c' D B' W (h'.below (hW.mono hB')) (Nat.le_trans hB' hW.size) hn' hl
  have hf := fun W (hW : Below w.heap.size w W) => l04Find_any s u A c ds B p 0 W (cell_kept hp1 hW) (h.below (hW.mono hB)) (Nat.le_trans hB hW.size) hn
  rw [dkV, dkC]
  rcases chkC_cases u ds (holes D) with ⟨e, hv⟩ | ⟨e, hv, hv'⟩ | ⟨e, hv, hv', h0, hz⟩ | ⟨e, hv, hv', h0⟩
  · rw [e, if_pos (by decide), if_pos (by decide)]
    rw [hv] at ho
    have HO := Lib.hid ho
    clear ho hd hf h h' e hv hp0 hp1
    go_enter Tryd.func17, Tryd.ntmps17
    go_wp2_with fail
    refine HO.out.mono ?_
    rintro e w1 ⟨rfl, hb⟩
    have B1 := Lib.hid hb
    clear hb
    go_wp2
    go_ret2
    exact ⟨rfl, B1.out⟩
  · rw [e, if_pos (by decide), if_pos (by decide)]
    rw [hv] at ho
    simp only [hv'] at hd
    have HO := Lib.hid ho
    have HD := Lib.hid hd
    obtain ⟨n, hN⟩ : ∃ n, D.length = n := ⟨_, rfl⟩
    simp only [hN] at HD ⊢
    clear ho hd hf h h' e hv hp0 hp1 hv' hN
    go_enter Tryd.func17, Tryd.ntmps17
    go_wp2_with fail
    refine HO.out.mono ?_
    rintro e w1 ⟨rfl, hb⟩
    have B1 := Lib.hid hb
    clear hb
    go_wp2_with fail
    refine (HD.out _ B1.out).mono ?_
    rintro e w2 ⟨rfl, hb⟩
    have B2 := Lib.hid (below_step B1.out hb)
    clear hb
    go_wp2
    go_ret2
    exact ⟨rfl, B2.out⟩
  · rw [e, if_pos (by decide), if_pos (by decide)]
    rw [hv] at ho
    simp only [hv'] at hd
    have HO := Lib.hid ho
    have HD := Lib.hid hd
    have hlen : (holes D).length = D.length := by simp [holes]
    rw [hlen] at h0
    obtain ⟨d, hdd⟩ : ∃ d, D[0]? = some d := ⟨D[0]'(by omega), List.getElem?_eq_getElem _⟩
    have hfz : firstZ (holes D) = d.xs.length := by simp [firstZ, holes, hdd]
    rw [hfz] at hz
    obtain ⟨b, off, rfl, hb0, hcell⟩ := h' (by omega)
    have hc : w.cell? ⟨b, off, none⟩ = some d.value := (hcell 0 d hdd).1
    have hm := hl d (List.mem_of_getElem? hdd)
    unfold CardV.value at hc
    obtain ⟨m, hM⟩ : ∃ m, d.xs.length = m := ⟨_, rfl⟩
    obtain ⟨n, hN⟩ : ∃ n, D.length = n := ⟨_, rfl⟩
    rw [hM] at hc hz hm
    simp only [hN] at HD h0 ⊢
    have i0 : (n : Int) > 0 := by omega
    have i1 : (0 : Int) < (n : Int) := by omega
    have hz' : ((m : Int) != u) = true := by simpa using hz
    have hpos : 0 < n := by omega
    clear ho hd hf h h' e hv hp1 hv' hN hM hcell hdd hfz hlen hz hb0 hl h0
    go_enter Tryd.func17, Tryd.ntmps17
    go_wp2_with fail
    refine HO.out.mono ?_
    rintro e w1 ⟨rfl, hb⟩
    have B1 := Lib.hid hb
    have c1 := cell_kept hc hb
    have p1 := cell_kept hp0 hb
    clear hb hc hp0
    go_wp2_with fail
    refine (HD.out _ B1.out).mono ?_
    rintro e w2 ⟨rfl, hb⟩
    have B2 := Lib.hid (below_step B1.out hb)
    have c2 := cell_kept c1 hb
    have p2 := cell_kept p1 hb
    clear hb c1 p1
    go_wp2
    go_quiet (fail)
    go_wp2
    go_ret2
    exact ⟨rfl, below_drewN B2.out _⟩
  · rw [e, if_neg (c := (0 : Int) ≠ 0) (by decide), if_neg (c := (0 : Int) ≠ 0) (by decide)]
    rw [hv] at ho
    simp only [hv'] at hd
    have HO := Lib.hid ho
    have HD := Lib.hid hd
    have HF := Lib.hid hf
    have hlen : (holes D).length = D.length := by simp [holes]
    rw [hlen] at h0
    have hfirst : ∀ w', Below w.heap.size w w' → 0 < D.length → ∃ b off m, A' = some ⟨b, off, none⟩ ∧ (∃ x y, w'.cell? ⟨b, off, none⟩ = some (.slice x m y)) ∧ (m : Int) = u ∧ m ≤ 1048576 := fun w' hb hpos => by
      obtain ⟨d, hdd⟩ : ∃ d, D[0]? = some d := ⟨D[0]'(by omega), List.getElem?_eq_getElem _⟩
      have hfz : firstZ (holes D) = d.xs.length := by simp [firstZ, holes, hdd]
      rw [hfz] at h0
      obtain ⟨b, off, rfl, hb0, hcell⟩ := h' (by omega)
      have hc : w.cell? ⟨b, off, none⟩ = some d.value := (hcell 0 d hdd).1
      exact ⟨b, off, d.xs.length, rfl, ⟨_, _, cell_kept hc hb⟩, by omega, hl d (List.mem_of_getElem? hdd)⟩
    obtain ⟨n, hN⟩ : ∃ n, D.length = n := ⟨_, rfl⟩
    obtain ⟨fv, hfv⟩ : ∃ fv, firstTo ds s ds.length = fv := ⟨_, rfl⟩
    have hcases := itemOf_cases ds s
    simp only [hfv] at HF hcases ⊢
    simp only [hN] at HD hfirst ⊢
    have HFI := Lib.hid hfirst
    have HCS : Hid ((fv = -1 ∧ nameTo ds s ds.length = false) ∨ (∃ q : Nat, fv = q ∧ nameTo ds s ds.length = true)) := by
      rcases hcases with ⟨_, a, b⟩ | ⟨q, _, _, _, _, a, b⟩
      · exact Or.inl ⟨a, b⟩
      · exact Or.inr ⟨q, a, b⟩
    obtain ⟨r, hr⟩ : ∃ r, nameTo ds s ds.length = r := ⟨_, rfl⟩
    rw [hr] at HCS ⊢
    clear ho hd hf h h' e hv hp1 hv' hlen hl hfirst hfv hcases hr h0 hn hn'
    go_enter Tryd.func17, Tryd.ntmps17
    go_wp2_with fail
    refine HO.out.mono ?_
    rintro e w1 ⟨rfl, hb⟩
    have B1 := Lib.hid hb
    have p1 := cell_kept hp0 hb
    clear hb hp0
    go_wp2_with fail
    refine (HD.out _ B1.out).mono ?_
    rintro e w2 ⟨rfl, hb⟩
    have B2 := Lib.hid (below_step B1.out hb)
    have p2 := cell_kept p1 hb
    clear hb p1 HD HO
    by_cases hpos : 0 < n
    · obtain ⟨b, off, m, rfl, ⟨x, y, c2⟩, hmu, hm⟩ := HFI.out w2 B2.out hpos
      have i0 : (n : Int) > 0 := by omega
      have i1 : (0 : Int) < (n : Int) := by omega
      have hz' : ((m : Int) != u) = false := by simp [hmu]
      clear HFI
      go_wp2
      go_quiet (fail)
      have B3 := Lib.hid (below_drewN B2.out nq)
      rcases HCS.out with ⟨h1, h2⟩ | ⟨q, h1, h2⟩
      · subst h1 h2
        go_wp2_with (go_at_call 36; refine (HF.out _ B3.out).mono ?_; rintro e w4 ⟨rfl, hb⟩; have B4 := Lib.hid (below_step B3.out hb); clear hb)
        go_ret2
        exact ⟨rfl, B4.out⟩
      · subst h1 h2
        have hq : ¬ (q : Int) < 0 := by omega
        go_wp2_with (go_at_call 36; refine (HF.out _ B3.out).mono ?_; rintro e w4 ⟨rfl, hb⟩; have B4 := Lib.hid (below_step B3.out hb); clear hb)
        go_ret2
        exact ⟨rfl, B4.out⟩
    · obtain rfl : n = 0 := by omega
      clear HFI
      go_wp2
      go_quiet (fail)
      have B3 := Lib.hid (below_drewN B2.out nq)
      rcases HCS.out with ⟨h1, h2⟩ | ⟨q, h1, h2⟩
      · subst h1 h2
        go_wp2_with (go_at_call 36; refine (HF.out _ B3.out).mono ?_; rintro e w4 ⟨rfl, hb⟩; have B4 := Lib.hid (below_step B3.out hb); clear hb)
        go_ret2
        exact ⟨rfl, B4.out⟩
      · subst h1 h2
        have hq : ¬ (q : Int) < 0 := by omega
        go_wp2_with (go_at_call 36; refine (HF.out _ B3.out).mono ?_; rintro e w4 ⟨rfl, hb⟩; have B4 := Lib.hid (below_step B3.out hb); clear hb)
        go_ret2
        exact ⟨rfl, B4.out⟩
end Go.Proofs.YtmdgpkiicjmfhaaDoor
