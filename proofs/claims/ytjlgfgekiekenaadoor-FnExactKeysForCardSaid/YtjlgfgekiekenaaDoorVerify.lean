/- spec.VerifyCard and impl.VerifyCard answer the first column in which a card differs from the one that would be punched, or the code, for every text of at most 1048576 bytes, every two cards and every keys of at most 1048576 bytes: contracts (conditions: the tables of unicode/utf8 and the errors lie in memory). -/
import Derived.Test.YtjlgfgekiekenaaDoorPunchBy
namespace Go.Proofs.YtjlgfgekiekenaaDoor
open Go.ChangeShapes Go.WideShapes Go.ChangeAt Go.RowKit

/-- the first of k places in which two lists differ, -1 if none -/
def diffTo (zs cs : List Int) : Nat → Int
  | 0 => -1
  | k + 1 => if diffTo zs cs k = -1 then (if zs[k]?.getD 0 = cs[k]?.getD 0 then -1 else k) else diffTo zs cs k
theorem diffTo_same (zs cs : List Int) (k : Nat) (h : diffTo zs cs k = -1) (e : zs[k]?.getD 0 = cs[k]?.getD 0) : diffTo zs cs (k + 1) = -1 := by rw [diffTo, if_pos h, if_pos e]
theorem diffTo_here (zs cs : List Int) (k : Nat) (h : diffTo zs cs k = -1) (e : ¬ zs[k]?.getD 0 = cs[k]?.getD 0) : diffTo zs cs (k + 1) = k := by rw [diffTo, if_pos h, if_neg e]
theorem diffTo_stay (zs cs : List Int) (k : Nat) (h : diffTo zs cs k ≠ -1) : ∀ n, k ≤ n → diffTo zs cs n = diffTo zs cs k
  | 0, hn => by
    obtain rfl : k = 0 := by omega
    rfl
  | n + 1, hn => by
    by_cases e : k = n + 1
    · rw [e]
    · have ih := diffTo_stay zs cs k h n (by omega)
      rw [diffTo, if_neg (by rw [ih]; exact h), ih]

def twoC (s : ByteArray) (bs cs : List Int) : Nat := if progB s = true then (if okB bs = true then (if okB cs = true then (if bs.length = s.size then (if cs.length = s.size then 0 else 2) else 2) else 1) else 1) else 1
theorem twoC_zero {s : ByteArray} {bs cs : List Int} (h : twoC s bs cs = 0) : progB s = true ∧ okB bs = true ∧ okB cs = true ∧ bs.length = s.size ∧ cs.length = s.size := by
  unfold twoC at h
  split at h
  · split at h
    · split at h
      · split at h
        · split at h
          · exact ⟨‹_›, ‹_›, ‹_›, ‹_›, ‹_›⟩
          · cases h
        · cases h
      · cases h
    · cases h
  · cases h
def verC (s : ByteArray) (bs cs : List Int) (K : ByteArray) : Nat := if twoC s bs cs = 0 then keysC s K else twoC s bs cs
def verV (s : ByteArray) (bs cs : List Int) (K : ByteArray) : Int := if verC s bs cs K = 0 then diffTo (punL s bs K s.size) cs s.size else 0
theorem chkC_two (s : ByteArray) (A A' : Option Addr) (c c' : Nat) (bs cs : List Int) : chkC s [⟨A, c, bs⟩, ⟨A', c', cs⟩] = twoC s bs cs := by
  unfold chkC twoC okAll wideAll
  by_cases h1 : progB s = true <;> by_cases h2 : okB bs = true <;> by_cases h3 : okB cs = true <;> by_cases h4 : bs.length = s.size <;> by_cases h5 : cs.length = s.size <;> simp [h1, h2, h3, h4, h5]
theorem deck_two (w : World) (A A' : Option Addr) (c c' : Nat) (bs cs : List Int) (B g : Nat) (h : Ints w B A bs) (h' : Ints w B A' cs) (hB : B ≤ g) (hc : w.cell? ⟨g, 0, none⟩ = some (.slice A bs.length c)) (hc' : w.cell? ⟨g, 1, none⟩ = some (.slice A' cs.length c')) : Deck w (g + 1) (some ⟨g, 0, none⟩) [⟨A, c, bs⟩, ⟨A', c', cs⟩] := fun _ =>
  ⟨g, 0, rfl, by omega, fun i d hi => by
    match i, hi with
    | 0, hi =>
      injection hi with hi
      subst hi
      exact ⟨hc, h.more (by omega)⟩
    | 1, hi =>
      injection hi with hi
      subst hi
      exact ⟨hc', h'.more (by omega)⟩⟩

set_option maxHeartbeats 1000000 in
theorem l05Two_any (s : ByteArray) (hs : s.size ≤ 1048576) (A A' : Option Addr) (c c' : Nat) (bs cs : List Int) (B p o p' o' : Nat) (w : World) (hp : w.cell? ⟨p, o, none⟩ = some (.slice A bs.length c)) (hp' : w.cell? ⟨p', o', none⟩ = some (.slice A' cs.length c')) (h : Ints w B A bs) (h' : Ints w B A' cs) (hn : bs.length ≤ 1048576) (hn' : cs.length ≤ 1048576) :
    Calls Tryd.prog 51 #[.string s, .pointer (some ⟨p, o, none⟩), .pointer (some ⟨p', o', none⟩)] w fun e w' => e = .returned (.int .i64 (twoC s bs cs)) ∧ w = w' := by
  have HP := Lib.hid (fun W => l05Ok_any s hs W)
  have hO := l02Ok_any A c bs B p o w hp h hn
  have hO' := l02Ok_any A' c' cs B p' o' w hp' h' hn'
  unfold twoC
  obtain ⟨n, hN⟩ : ∃ n, bs.length = n := ⟨_, rfl⟩
  obtain ⟨m, hM⟩ : ∃ m, cs.length = m := ⟨_, rfl⟩
  rw [hN] at hn hp ⊢
  rw [hM] at hn' hp' ⊢
  clear h h' hN hM
  have close : ∀ r : Nat, True := fun _ => trivial
  cases hpg : progB s
  · rw [hpg] at HP
    rw [if_neg (by simp)]
    clear hpg hO hO'
    go_enter Tryd.func51, Tryd.ntmps51
    go_wp2_with (go_at_call 36; refine (HP.out _).mono ?_; rintro e w' ⟨rfl, rfl⟩)
    go_ret
    exact ⟨rfl, rfl⟩
  · rw [hpg] at HP
    rw [if_pos rfl]
    clear hpg
    cases hok : okB bs
    · rw [hok] at hO
      have HO := Lib.hid hO
      rw [if_neg (by simp)]
      clear hok hO hO'
      go_enter Tryd.func51, Tryd.ntmps51
      go_wp2_with (first | (go_at_call 36; refine (HP.out _).mono ?_; rintro e w' ⟨rfl, rfl⟩) | (go_at_call 71; refine HO.out.mono ?_; rintro e w' ⟨rfl, rfl⟩))
      go_ret
      exact ⟨rfl, rfl⟩
    · rw [hok] at hO
      have HO := Lib.hid hO
      rw [if_pos rfl]
      clear hok hO
      cases hok2 : okB cs
      · rw [hok2] at hO'
        have HO' := Lib.hid hO'
        rw [if_neg (by simp)]
        clear hok2 hO'
        go_enter Tryd.func51, Tryd.ntmps51
        go_wp2_with (first | (go_at_call 36; refine (HP.out _).mono ?_; rintro e w' ⟨rfl, rfl⟩) | (go_at_call 71; (first | (with_reducible refine HO.out.mono ?_) | (with_reducible refine HO'.out.mono ?_)); rintro e w' ⟨rfl, rfl⟩))
        go_ret
        exact ⟨rfl, rfl⟩
      · rw [hok2] at hO'
        have HO' := Lib.hid hO'
        rw [if_pos rfl]
        clear hok2 hO'
        by_cases h1 : n = s.size
        · have q1 : ((n : Int) != (s.size : Int)) = false := by rw [bne_eq_false_iff_eq]; omega
          rw [if_pos h1]
          clear h1
          by_cases h2 : m = s.size
          · have q2 : ((m : Int) != (s.size : Int)) = false := by rw [bne_eq_false_iff_eq]; omega
            rw [if_pos h2]
            clear h2
            go_enter Tryd.func51, Tryd.ntmps51
            go_wp2_with (first | (go_at_call 36; refine (HP.out _).mono ?_; rintro e w' ⟨rfl, rfl⟩) | (go_at_call 71; (first | (with_reducible refine HO.out.mono ?_) | (with_reducible refine HO'.out.mono ?_)); rintro e w' ⟨rfl, rfl⟩))
            go_ret
            exact ⟨rfl, rfl⟩
          · have q2 : ((m : Int) != (s.size : Int)) = true := by rw [bne_iff_ne]; omega
            rw [if_neg h2]
            clear h2
            go_enter Tryd.func51, Tryd.ntmps51
            go_wp2_with (first | (go_at_call 36; refine (HP.out _).mono ?_; rintro e w' ⟨rfl, rfl⟩) | (go_at_call 71; (first | (with_reducible refine HO.out.mono ?_) | (with_reducible refine HO'.out.mono ?_)); rintro e w' ⟨rfl, rfl⟩))
            go_ret
            exact ⟨rfl, rfl⟩
        · have q1 : ((n : Int) != (s.size : Int)) = true := by rw [bne_iff_ne]; omega
          rw [if_neg h1]
          clear h1
          go_enter Tryd.func51, Tryd.ntmps51
          go_wp2_with (first | (go_at_call 36; refine (HP.out _).mono ?_; rintro e w' ⟨rfl, rfl⟩) | (go_at_call 71; (first | (with_reducible refine HO.out.mono ?_) | (with_reducible refine HO'.out.mono ?_)); rintro e w' ⟨rfl, rfl⟩))
          go_ret
          exact ⟨rfl, rfl⟩

set_option maxHeartbeats 2000000 in
theorem l05Wrong_any (s K : ByteArray) (A A' : Option Addr) (c c' B p o p' o' : Nat) (bs cs : List Int) (hp : progB s = true) (hK : K.size ≤ 1048576) (e : K.size = keysTo s s.size) (w : World) (hc : w.cell? ⟨p, o, none⟩ = some (.slice A bs.length c)) (hc' : w.cell? ⟨p', o', none⟩ = some (.slice A' cs.length c')) (h : Ints w B A bs) (h' : Ints w B A' cs) (hB : B ≤ w.heap.size) (hl : bs.length = s.size) (hl' : cs.length = s.size) :
    Calls Tryd.prog 59 #[.string s, .pointer (some ⟨p, o, none⟩), .pointer (some ⟨p', o', none⟩), .string K] w fun e w' => e = .returned (.int .i64 (diffTo (punL s bs K s.size) cs s.size)) ∧ Below w.heap.size w w' := by
  have hsz := prog_size s hp
  have HP := Lib.hid (l05Punch_any s K A c B p o bs hp hK e w hc h hB hl)
  have hplen := punL_length s bs K s.size
  obtain ⟨zs, hz⟩ : ∃ zs, punL s bs K s.size = zs := ⟨_, rfl⟩
  obtain ⟨r, hr⟩ : ∃ r, diffTo zs cs s.size = r := ⟨_, rfl⟩
  rw [hz] at HP hplen ⊢
  rw [hr]
  have HR := Lib.hid hr
  have HZ := Lib.hid hplen
  have HLc := Lib.hid hl'
  have H' := Lib.hid h'
  rw [hl'] at hc'
  clear hp e hc h hl hl' hz hr h' hplen
  go_enter Tryd.func59, Tryd.ntmps59
  go_wp2_with fail
  refine HP.out.mono ?_
  rintro e w1 ⟨g, cap, ex, rfl, hg, hb, hrow⟩
  rw [HZ.out]
  have B1 := Lib.hid hb
  have hcw := cell_kept hc' hb
  have I1 := Lib.hid (H'.out.below (hb.mono hB))
  have HRow := Lib.hid hrow
  clear hb hrow HP H' hc'
  go_wp2
  have o1 : (w1.alloc (.cells #[.slice (some ⟨g, 0, none⟩) s.size cap] 29)).cell? ⟨w1.heap.size, 0, none⟩ = some (.slice (some ⟨g, 0, none⟩) s.size cap) := by simp
  have c1 := cell_kept hcw (below_box w1 (.cells #[.slice (some ⟨g, 0, none⟩) s.size cap] 29))
  have I2 := Lib.hid (I1.out.below ((below_box w1 (.cells #[.slice (some ⟨g, 0, none⟩) s.size cap] 29)).mono (Nat.le_trans hB B1.out.size)))
  have R2 := Lib.hid (HRow.out.alloc (.cells #[.slice (some ⟨g, 0, none⟩) s.size cap] 29))
  have B2 := Lib.hid (B1.out.alloc B1.out.size (.cells #[.slice (some ⟨g, 0, none⟩) s.size cap] 29))
  clear I1 HRow hcw B1
  generalize w1.alloc (.cells #[.slice (some ⟨g, 0, none⟩) s.size cap] 29) = w2 at *
  go_loopw [10] (fun i wr => ∃ k q : Nat, k ≤ s.size ∧ i = .int .i64 k ∧ wr = w2.drewN q ∧ Hid (diffTo zs cs k = -1)) (fun i _ => s.size - (intOf i).toNat)
  case atStart => exact ⟨0, 0, Nat.zero_le _, rfl, rfl, rfl⟩
  case round =>
    obtain ⟨k, q, hk, rfl, rfl, HD⟩ := hrel
    by_cases hlt : k < s.size
    · have hlt' : (k : Int) < (s.size : Int) := by omega
      have hk0 : (0 : Int) ≤ (k : Int) := Int.natCast_nonneg _
      have x1 := R2.out.cell (i := k) (by rw [HZ.out]; exact hlt)
      obtain ⟨b, off, rfl, hb, hcell⟩ := I2.out (by rw [HLc.out]; omega)
      have y1 := hcell k (by rw [HLc.out]; exact hlt)
      obtain ⟨x, hx⟩ : ∃ x, zs[k]?.getD 0 = x := ⟨_, rfl⟩
      obtain ⟨y, hy⟩ : ∃ y, cs[k]?.getD 0 = y := ⟨_, rfl⟩
      rw [hx] at x1
      rw [hy] at y1
      by_cases hxy : x = y
      · have q1 : (x != y) = false := by rw [bne_eq_false_iff_eq]; exact hxy
        have HD1 : Hid (diffTo zs cs (k + 1) = -1) := diffTo_same zs cs k HD.out (by rw [hx, hy]; exact hxy)
        clear hcell hx hy hxy
        go_wp2
        go_quiet (fail)
        go_wp2
        go_roundw
        case rel => exact ⟨k + 1, q + nq, by omega, by go_num, rfl, HD1⟩
        case measure => simp [intOf]; omega
      · have q1 : (x != y) = true := by rw [bne_iff_ne]; exact hxy
        have hd1 : diffTo zs cs (k + 1) = k := diffTo_here zs cs k HD.out (by rw [hx, hy]; exact hxy)
        obtain rfl : r = k := by rw [← HR.out, diffTo_stay zs cs (k + 1) (by rw [hd1]; omega) s.size hlt, hd1]
        clear hcell hx hy hxy hd1
        go_wp2
        go_quiet (fail)
        go_wp2
        go_ret
        exact ⟨rfl, below_drewN (below_drewN B2.out _) _⟩
    · obtain rfl : k = s.size := by omega
      obtain rfl : r = -1 := by rw [← HR.out, HD.out]
      have hk1 : ¬ (s.size : Int) < (s.size : Int) := by omega
      clear o1 c1
      go_wp2
      go_ret
      exact ⟨rfl, below_drewN B2.out _⟩
end Go.Proofs.YtjlgfgekiekenaaDoor
