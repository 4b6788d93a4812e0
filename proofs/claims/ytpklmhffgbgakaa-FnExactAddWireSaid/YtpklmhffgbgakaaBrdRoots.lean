/- spec.l12Join, l12Roots, l12With and l12Code: the least hubs with which hubs are joined: contracts. -/
import Derived.Test.YtpklmhffgbgakaaBrdOk
import Derived.Test.YtpklmhffgbgakaaOwn
import Derived.Test.YtpklmhffgbgakaaGrow
import Derived.Test.YtpklmhffgbgakaaIntsAt
import Derived.Test.YtpklmhffgbgakaaOwnMem
namespace Go.Proofs.Ytpklmhffgbgakaa
open Go.ChangeShapes Go.WideShapes Go.ChangeAt Go.RowKit

/-- A slice of numbers of new memory. -/
def GivesN (L : List Int) (w : World) (e : Ending) (w' : World) : Prop :=
  ∃ A cap, e = .returned (.slice A L.length cap) ∧ Below w.heap.size w w' ∧ IAt w' w.heap.size w'.heap.size A L

theorem l00MinB_any (a b : Int) (w : World) : Calls Try.prog 106 #[.int .i64 a, .int .i64 b] w fun e w' => e = .returned (.int .i64 (min a b)) ∧ w = w' := by
  by_cases h : a < b
  · rw [show min a b = a by omega]
    go_enter Try.func106, Try.ntmps106
    go_wp2
    go_ret
    exact ⟨rfl, rfl⟩
  · rw [show min a b = b by omega]
    go_enter Try.func106, Try.ntmps106
    go_wp2
    go_ret
    exact ⟨rfl, rfl⟩

theorem l00HasNil_any (x : Int) (w : World) : Calls Try.prog 100 #[.slice none 0 0, .int .i64 x] w fun e w' => e = .returned (.bool false) ∧ w = w' := by
  go_enter Try.func100, Try.ntmps100
  go_wp2
  go_loop [5] (fun i => i = .int .i64 0) (fun _ => 0)
  case atStart => rfl
  case round =>
    obtain rfl := hrel
    go_wp2
    go_ret
    exact ⟨rfl, rfl⟩

/-- what the list is after k rounds of joining -/
def joinTo (R : List Int) (a b : Int) (k : Nat) : List Int := joinL (R.take k) a b ++ R.drop k
theorem joinTo_length (R : List Int) (a b : Int) (k : Nat) : (joinTo R a b k).length = R.length := by simp [joinTo, joinL]; omega
theorem joinTo_zero (R : List Int) (a b : Int) : joinTo R a b 0 = R := by simp [joinTo, joinL]
theorem joinTo_all (R : List Int) (a b : Int) (k : Nat) (h : R.length ≤ k) : joinTo R a b k = joinL R a b := by
  rw [joinTo, List.take_of_length_le h, List.drop_of_length_le h, List.append_nil]
theorem joinTo_get {R : List Int} {a b : Int} {k : Nat} (h : k < R.length) : (joinTo R a b k)[k]? = R[k]? := by
  have hl : (joinL (R.take k) a b).length = k := by rw [joinL_length, List.length_take]; omega
  rw [joinTo, List.getElem?_append_right (by omega), hl, Nat.sub_self, List.getElem?_drop, Nat.add_zero]
theorem joinTo_set {R : List Int} {a b x : Int} {k : Nat} (h : R[k]? = some x) : joinTo R a b (k + 1) = (joinTo R a b k).set k (if x = a ∨ x = b then min a b else x) := by
  obtain ⟨hk, e⟩ := List.getElem?_eq_some_iff.1 h
  have hl : (joinL (R.take k) a b).length = k := by rw [joinL_length, List.length_take]; omega
  have hd : R.drop k = x :: R.drop (k + 1) := by rw [← e]; exact List.drop_eq_getElem_cons hk
  unfold joinTo
  rw [List.set_append_right _ _ (by omega), hl, Nat.sub_self, hd, List.set_cons_zero, List.take_succ_eq_append_getElem hk, e]
  simp [joinL]
theorem set_same {L : List Int} {k : Nat} {x : Int} (h : L[k]? = some x) : L.set k x = L := by
  obtain ⟨hk, e⟩ := List.getElem?_eq_some_iff.1 h
  rw [← e]
  exact List.set_getElem_self hk

theorem l12Join_any (g cap : Nat) (R : List Int) (ex : List Value) (a b : Int) (w : World) (h : Row w g R ex) (hn : R.length ≤ 1048576) :
    Calls Try.prog 89 #[.slice (some ⟨g, 0, none⟩) R.length cap, .int .i64 a, .int .i64 b] w fun e w' => e = .returned (.slice (some ⟨g, 0, none⟩) R.length cap) ∧ w.grownBy w' (some g) ∧ Row w' g (joinL R a b) ex := by
  obtain ⟨n, hN⟩ : ∃ n, R.length = n := ⟨_, rfl⟩
  rw [hN] at hn ⊢
  have HM := Lib.hid (fun W => l00MinB_any a b W)
  have H := Lib.hid h
  have HN := Lib.hid hN
  clear h hN
  go_enter Try.func89, Try.ntmps89
  go_wp2
  go_loopw [7] (fun i wr => ∃ k : Nat, k ≤ n ∧ i = .int .i64 k ∧ Hid (w.grownBy wr (some g)) ∧ Hid (Row wr g (joinTo R a b k) ex)) (fun i _ => n - (intOf i).toNat)
  case atStart => exact ⟨0, Nat.zero_le _, rfl, ⟨rfl, rfl, rfl, Nat.le_refl _, fun _ _ _ => rfl⟩, by show Row _ _ _ _; rw [joinTo_zero]; exact H.out⟩
  case round =>
    obtain ⟨k, hk, rfl, HG, HR⟩ := hrel
    have k0 : (0 : Int) ≤ (k : Int) := Int.natCast_nonneg _
    by_cases hlt : k < n
    · obtain ⟨x, hx⟩ : ∃ x, R[k]? = some x := ⟨R[k]'(by rw [HN.out]; exact hlt), List.getElem?_eq_getElem _⟩
      have hgx : (joinTo R a b k)[k]? = some x := by rw [joinTo_get (by rw [HN.out]; exact hlt), hx]
      have r1 := HR.out.cell (i := k) (by rw [joinTo_length, HN.out]; exact hlt)
      rw [hgx, Option.getD_some] at r1
      have f1 := HR.out.frozen k
      have hst := HR.out.set (i := k) (by rw [joinTo_length, HN.out]; exact hlt) (min a b)
      have hjs := joinTo_set (a := a) (b := b) hx
      have k1 : (k : Int) < (n : Int) := by omega
      have HX := Lib.hid hgx
      clear hx hgx
      by_cases ea : x = a
      · have g1 : (x == a) = true := by simpa using ea
        rw [if_pos (Or.inl ea)] at hjs
        rw [← hjs] at hst
        have HST := Lib.hid hst
        clear hst hjs ea HX
        go_wp2_with (go_at_call 106; refine (HM.out _).mono ?_; rintro e w1 ⟨rfl, rfl⟩)
        go_roundw
        case rel => exact ⟨k + 1, by omega, by go_num, only_step HG.out (only_set _ _ _ _), HST⟩
        case measure => simp [intOf]; omega
      · have g1 : (x == a) = false := by simpa using ea
        by_cases eb : x = b
        · have g2 : (x == b) = true := by simpa using eb
          rw [if_pos (Or.inr eb)] at hjs
          rw [← hjs] at hst
          have HST := Lib.hid hst
          clear hst hjs ea eb HX
          go_wp2_with (go_at_call 106; refine (HM.out _).mono ?_; rintro e w1 ⟨rfl, rfl⟩)
          go_roundw
          case rel => exact ⟨k + 1, by omega, by go_num, only_step HG.out (only_set _ _ _ _), HST⟩
          case measure => simp [intOf]; omega
        · have g2 : (x == b) = false := by simpa using eb
          rw [if_neg (by simp [ea, eb]), set_same HX.out] at hjs
          have HR1 : Hid (Row wr g (joinTo R a b (k + 1)) ex) := by rw [hjs]; exact HR
          clear hst hjs ea eb HX
          go_wp2
          go_roundw
          case rel => exact ⟨k + 1, by omega, by go_num, HG, HR1⟩
          case measure => simp [intOf]; omega
    · have k1 : ¬ (k : Int) < (n : Int) := by omega
      have HR1 : Hid (Row wr g (joinL R a b) ex) := by
        have := HR.out
        rw [joinTo_all R a b k (by rw [HN.out]; omega)] at this
        exact this
      go_wp2
      go_ret
      exact ⟨rfl, HG.out, HR1.out⟩

theorem one_newsB (W : World) (x : Int) : ∀ j u, [Value.int .i64 x][j]? = some u → (W.alloc (.cells #[.int .i64 x] 2)).cell? ((⟨W.heap.size, 0, none⟩ : Addr).add j) = some u := by
  intro j u hj
  match j, hj with
  | 0, hj => simp at hj; subst hj; simp [Addr.add]
theorem one_onesB (x : Int) : ∀ u ∈ [Value.int .i64 x], u.oneCell' = true := by
  intro u hu
  simp at hu
  subst hu
  rfl
theorem gives_n {W w : World} {v : Value} {L : List Int} (h : w.ownsRow W.heap.size 2 1 v L.length (L.map (Value.int .i64))) (hb : Below W.heap.size W w) : GivesN L W (.returned v) w := by
  obtain ⟨A, cap, hv, hr⟩ := owned_list h rfl
  exact ⟨A, cap, by rw [hv], hb, fun h0 => by obtain ⟨g, ex, e, hg, hrow⟩ := hr h0; exact ⟨g, ex, e, hg, hrow.lt, hrow⟩, Nat.le_refl _⟩

set_option maxHeartbeats 2000000 in
theorem l12With_any (A : Option Addr) (c : Nat) (R : List Int) (hub to : Nat) (B : Nat) (w : World) (h : Ints w B A R) (hB : B ≤ w.heap.size) (hh : hub < R.length) (ht : to ≤ R.length) (hn : R.length ≤ 100) :
    Calls Try.prog 73 #[.slice A R.length c, .int .i64 hub, .int .i64 0, .int .i64 to] w (GivesN (withR R hub to) w) := by
  obtain ⟨i0, hi0, hz0, hz1, hz2⟩ := info_parts info_int64
  obtain ⟨n, hN⟩ : ∃ n, R.length = n := ⟨_, rfl⟩
  rw [hN] at hn hh ht ⊢
  have H := Lib.hid h
  have HN := Lib.hid hN
  have HE := Lib.hid (empty_owned w)
  clear h hN
  go_enter Try.func73, Try.ntmps73
  go_wp2
  go_loopw [9, 10] (fun v i wr => ∃ k : Nat, ∃ vv : Value, k ≤ to ∧ i = .int .i64 k ∧ vv = v ∧ Hid (wr.ownsRow w.heap.size 2 1 v (withR R hub k).length ((withR R hub k).map (Value.int .i64))) ∧ Hid (Below w.heap.size w wr)) (fun _ i _ => to - (intOf i).toNat)
  case atStart => exact ⟨0, _, Nat.zero_le _, rfl, rfl, HE, below_box w _⟩
  case round =>
    obtain ⟨k, vv, hk, rfl, rfl, HW, HB⟩ := hrel
    have hwr : w.heap.size ≤ wr.heap.size := HB.out.size
    have k0 : (0 : Int) ≤ (k : Int) := Int.natCast_nonneg _
    have q0 : (0 : Int) ≤ (hub : Int) := Int.natCast_nonneg _
    by_cases hlt : k < to
    · obtain ⟨b, off, rfl, hb, hcell⟩ := (H.out.below (HB.out.mono hB)) (by rw [HN.out]; omega)
      have h1 := hcell k (by rw [HN.out]; omega)
      have h2 := hcell hub (by rw [HN.out]; omega)
      have e1 : R[k]?.getD 0 = rt R (k : Int) := by simp [rt]
      have e2 : R[hub]?.getD 0 = rt R (hub : Int) := by simp [rt]
      rw [e1] at h1
      rw [e2] at h2
      have hq := withR_succ R (hub : Int) k
      have hlen := withR_length R (hub : Int) k
      obtain ⟨x, hx⟩ : ∃ x, rt R (k : Int) = x := ⟨_, rfl⟩
      obtain ⟨y, hy⟩ : ∃ y, rt R (hub : Int) = y := ⟨_, rfl⟩
      rw [hx] at h1 hq
      rw [hy] at h2 hq
      have k1 : (k : Int) < (to : Int) := by omega
      have k2 : (k : Int) < (n : Int) := by omega
      have q1 : (hub : Int) < (n : Int) := by omega
      clear hcell H hb e1 e2 hx hy
      cases hm : (x == y)
      · rw [if_neg (by simpa using hm)] at hq
        have HI := Lib.hid hq
        clear hq
        go_wp2
        go_region
        all_goals
          go_wp2
          go_roundw
          case rel => exact ⟨k + 1, _, by omega, by go_num, rfl, by rw [HI.out]; exact HW, HB.out.drew⟩
          case measure => simp [intOf]; omega
      · rw [if_pos (by simpa using hm)] at hq
        have HI := Lib.hid hq
        obtain ⟨ys, hy⟩ : ∃ ys, withR R hub k = ys := ⟨_, rfl⟩
        rw [hy] at HW HI hlen
        have HWd : Hid (wr.drew.ownsRow w.heap.size 2 1 vv ys.length (ys.map (Value.int .i64))) := HW
        have HBd : Hid (Below w.heap.size w wr.drew) := HB.out.drew
        clear hq hy
        go_wp2
        go_region
        all_goals
          go_wp2_with (at_builtin; refine wpList_append_own _ rfl _ _ 44 rfl w.heap.size 2 i0 (.int .i64 0) 1 8 Try.underlying44 hi0 hz0 hz1 hz2 rfl (by decide) _ _ _ rfl (HWd.out.alloc _) ⟨wr.heap.size, 0, none⟩ 1 1 [.int .i64 k] rfl rfl (one_newsB wr.drew k) (one_onesB k) ?c3 ?c4 ?c5 ?_; rotate_left 3; intro v' w9 hown hgrow _; obtain ⟨ho, hbb⟩ := own_more (w := wr.drew) hown (show (wr.drew.alloc (.cells #[.int .i64 (k : Int)] 2)).grownBy w9 vv.ownBlock from hgrow) HWd.out HBd.out (Nat.le_refl _) hwr; have HW1 := Lib.hid ho; have HB1 := Lib.hid hbb; clear hown hgrow ho hbb)
          case c3 => unfold maxLen; omega
          case c4 => omega
          case c5 => simp; omega
          go_roundw
          case rel => exact ⟨k + 1, _, by omega, by go_num, rfl, by rw [HI.out]; exact HW1, HB1⟩
          case measure => simp [intOf]; omega
    · obtain rfl : k = to := by omega
      have k1 : ¬ (k : Int) < (k : Int) := by omega
      have HE := Lib.hid (gives_n HW.out HB.out)
      clear HW
      go_wp2
      go_ret
      exact HE.out

/-- the code of a board and a number of which there are many -/
def codeB (b : Bool) (hub many : Int) : Int := if b = true then (if inB hub 0 (many - 1) = true then 0 else 2) else 1
theorem l12Code_any (e n j : Int) (A : Option Addr) (c : Nat) (P : List (Int × Int)) (B p o : Nat) (hub many : Int) (w : World) (h0 : w.cell? ⟨p, o, none⟩ = some (.int .i64 e)) (h1 : w.cell? ⟨p, o + 1, none⟩ = some (.int .i64 n)) (h2 : w.cell? ⟨p, o + 2, none⟩ = some (.int .i64 j)) (h3 : w.cell? ⟨p, o + 3, none⟩ = some (.slice A P.length c))
    (h : Wires w B A P) (hB : B ≤ w.heap.size) (hn : P.length ≤ 1048576) (hm : boardB e n j P = true → 0 ≤ many ∧ many ≤ 100) :
    Calls Try.prog 72 #[.pointer (some ⟨p, o, none⟩), .int .i64 hub, .int .i64 many] w fun r w' => r = .returned (.int .i64 (codeB (boardB e n j P) hub many)) ∧ Below w.heap.size w w' := by
  have ho := l12Ok_any e n j A c P B p o w h0 h1 h2 h3 h hB hn
  unfold codeB
  cases e1 : boardB e n j P
  · rw [e1] at ho
    have HO := Lib.hid ho
    clear ho e1 h hn hm
    simp only [Bool.false_eq_true, if_false]
    go_enter Try.func72, Try.ntmps72
    go_wp2_with (go_at_call 57; refine HO.out.mono ?_; rintro r w1 ⟨rfl, hb⟩; have HB := Lib.hid hb; clear hb)
    go_ret
    exact ⟨rfl, HB.out⟩
  · rw [e1] at ho
    obtain ⟨m0, m1⟩ := hm e1
    have hi := fun W => in_any hub 0 (many - 1) W
    simp only [if_true]
    cases e2 : inB hub 0 (many - 1)
    all_goals
      simp only [e2] at hi
      have HO := Lib.hid ho
      have HI := Lib.hid hi
      clear ho e1 e2 h hn hm hi
      simp only [Bool.false_eq_true, if_false, if_true]
      go_enter Try.func72, Try.ntmps72
      go_wp2_with (first | (go_at_call 57; refine HO.out.mono ?_; rintro r w1 ⟨rfl, hb⟩; have HB := Lib.hid hb; clear hb) | (go_at_call 70; refine (HI.out _).mono ?_; rintro r w2 ⟨rfl, rfl⟩))
      go_ret
      exact ⟨rfl, HB.out⟩
end Go.Proofs.Ytpklmhffgbgakaa
