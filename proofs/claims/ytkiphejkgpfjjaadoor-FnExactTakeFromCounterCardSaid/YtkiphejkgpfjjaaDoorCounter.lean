/- Counters in memory: what the laws' helpers do with them; one that comes in is opened to its digits; counters in memory of their own: contracts. (Written by tools/counterize.py from the texts about cards.) -/
import Derived.Test.YtkiphejkgpfjjaaDoorCardAt
import Derived.Test.YtkiphejkgpfjjaaDoorLaw
import Derived.Lib.SmallJoins
namespace Go.Proofs.YtkiphejkgpfjjaaDoor
open Go.ChangeShapes Go.WideShapes Go.ChangeAt Go.RowKit

theorem szCard_any (A : Option Addr) (n c : Nat) (left : Int) (w : World) (h0 : 0 ≤ left) (h1 : left ≤ 1048576) (hn : n ≤ 9223372036854775807) :
    Calls Tryd.prog 14 #[.agg #[.slice A n c], .int .i64 left] w fun e w' => e = .returned (.int .i64 (if left < n then -1 else left - n)) ∧ Below w.heap.size w w' := by
  by_cases h : left < n
  · have e : (if left < (n : Int) then (-1 : Int) else left - n) = -1 := if_pos h
    have hs := fun W => szInts_any A n c left W h0 h1 hn
    rw [e] at hs ⊢
    go_enter Tryd.func14, Tryd.ntmps14
    go_wp2_with (go_at_call 37; refine (hs _).mono ?_; rintro e w' ⟨rfl, rfl⟩)
    go_ret
    exact ⟨rfl, (Below.refl _ _).alloc (Nat.le_refl _) _⟩
  · have e : (if left < (n : Int) then (-1 : Int) else left - n) = left - n := if_neg h
    have hs := fun W => szInts_any A n c left W h0 h1 hn
    rw [e] at hs ⊢
    go_enter Tryd.func14, Tryd.ntmps14
    go_wp2_with (go_at_call 37; refine (hs _).mono ?_; rintro e w' ⟨rfl, rfl⟩)
    go_ret
    exact ⟨rfl, (Below.refl _ _).alloc (Nat.le_refl _) _⟩

theorem toCard_any (A : Option Addr) (c : Nat) (xs : List Int) (B : Nat) (w : World) (h : Ints w B A xs) (hB : B ≤ w.heap.size) (hn : xs.length ≤ 1048576) :
    Calls Tryd.prog 16 #[.agg #[.slice A xs.length c]] w fun e w' => ∃ g, e = .returned (.agg #[.slice (some ⟨g, 0, none⟩) xs.length xs.length]) ∧ w.heap.size ≤ g ∧ Below w.heap.size w w' ∧ Row w' g xs [] := by
  have H := Lib.hid h
  clear h
  go_enter Tryd.func16, Tryd.ntmps16
  go_wp2_with fail
  refine (toInts_any A c xs B _ ((((H.out.alloc hB _).alloc (by simp; omega) _).alloc (by simp; omega) _)) (by simp; omega) hn).mono ?_
  rintro e w' ⟨rfl, hc⟩
  obtain ⟨hr1, hr2⟩ := below_reads hc.below
  have HC := Lib.hid hc
  clear hc
  go_wp2
  refine bodyPost_ret (v := .agg #[.slice (some ⟨w.heap.size + 1 + 1 + 1, 0, none⟩) xs.length xs.length]) (by simp [results, Tryd.results16, go_sem, hr1]) rfl ⟨_, rfl, by omega, ?_, ?_⟩
  · exact ((((((Below.refl _ _).alloc (Nat.le_refl _) _).alloc (by simp) _).alloc (by simp; omega) _).trans (HC.out.below.mono (by simp; omega))).setCell (by simp; omega) _).setCell (by simp) _
  · have hr := HC.out.row
    simp only [World.size_alloc] at hr
    exact (hr.far (by simp) _).far (by simp; omega) _

/-- Cards: any two blocks may be laid for the boxes; no old cell turns. -/
theorem eqCard_any (A A' : Option Addr) (c c' : Nat) (xs ys : List Int) (B B' : Nat) (w : World) (h : Ints w B A xs) (h' : Ints w B' A' ys) (hB : B ≤ w.heap.size) (hB' : B' ≤ w.heap.size) (hn : xs.length ≤ 1048576) (hn' : ys.length ≤ 140737488355328) :
    Calls Tryd.prog 11 #[.agg #[.slice A xs.length c], .agg #[.slice A' ys.length c']] w fun e w' => e = .returned (.bool (decide (xs = ys))) ∧ Below w.heap.size w w' := by
  have hc := eqInts_any A A' c c' xs ys B B' _ ((h.alloc hB (.cells #[.slice A xs.length c] 24)).alloc (by simp; omega) (.cells #[.slice A' ys.length c'] 24)) ((h'.alloc hB' _).alloc (by simp; omega) _) hn hn'
  obtain ⟨r, hr⟩ : ∃ r, decide (xs = ys) = r := ⟨_, rfl⟩
  rw [hr] at hc ⊢
  have HC := Lib.hid hc
  clear hc hr h h'
  cases r
  all_goals
    go_enter Tryd.func11, Tryd.ntmps11
    go_wp2_with fail
    refine HC.out.mono ?_
    rintro e w' ⟨rfl, n, rfl⟩
    go_wp2
    go_ret
    exact ⟨rfl, below_drewN (((Below.refl _ _).alloc (Nat.le_refl _) _).alloc (by simp) _) _⟩

theorem markCard_any (g c : Nat) (xs : List Int) (ex : List Value) (k : Int) (w : World) (h : Row w g xs ex) (h0 : 0 ≤ k) (h1 : k ≤ 1099511627776) (hn : xs.length ≤ 1048576) :
    Calls Tryd.prog 12 #[.agg #[.slice (some ⟨g, 0, none⟩) xs.length c], .int .i64 k] w fun e w' => e = .returned (.int .i64 (k + xs.length)) ∧ w.grownBy w' (some g) ∧ Row w' g (marks k xs.length) ex := by
  have hc := markInts_any g c xs ex k (w.alloc (.cells #[.slice (some ⟨g, 0, none⟩) xs.length c] 24)) (h.alloc _) h0 h1 hn
  have HC := Lib.hid hc
  clear hc h
  go_enter Tryd.func12, Tryd.ntmps12
  go_wp2_with fail
  refine HC.out.mono ?_
  rintro e w' ⟨rfl, hg, hr⟩
  have HG := Lib.hid (only_step (only_box w _ g) hg)
  have HR := Lib.hid hr
  clear hg hr
  go_wp2
  go_ret
  exact ⟨rfl, HG.out, HR.out⟩

theorem markCard_nil (c : Nat) (k : Int) (w : World) :
    Calls Tryd.prog 12 #[.agg #[.slice none 0 c], .int .i64 k] w fun e w' => e = .returned (.int .i64 k) ∧ Below w.heap.size w w' := by
  have hc : ∀ W, Calls Tryd.prog 35 #[.slice none 0 c, .int .i64 k] W fun e w' => e = .returned (.int .i64 k) ∧ W = w' := fun W => by
    go_enter Tryd.func35, Tryd.ntmps35
    go_wp2
    go_loop [1, 5] (fun kk i => i = .int .i64 0 ∧ kk = .int .i64 k) (fun _ _ => 0)
    case atStart => exact ⟨rfl, rfl⟩
    case round =>
      obtain ⟨rfl, rfl⟩ := hrel
      go_wp2
      go_ret
      exact ⟨rfl, rfl⟩
  have HC := Lib.hid hc
  clear hc
  go_enter Tryd.func12, Tryd.ntmps12
  go_wp2_with (go_at_call 35; refine (HC.out _).mono ?_; rintro e w' ⟨rfl, rfl⟩)
  go_ret
  exact ⟨rfl, below_box w _⟩

theorem heldCard_any (A : Option Addr) (c n B : Nat) (k : Int) (w : World) (h : Ints w B A (marks k n)) (hB : B ≤ w.heap.size) (h0 : 0 ≤ k) (h1 : k ≤ 1099511627776) (hn : n ≤ 1048576) :
    Calls Tryd.prog 13 #[.agg #[.slice A n c], .int .i64 k] w fun e w' => e = .returned (.int .i64 (k + n)) ∧ Below w.heap.size w w' := by
  have hc := heldInts_any A c n B k (w.alloc (.cells #[.slice A n c] 24)) (h.alloc hB _) h0 h1 hn
  have HC := Lib.hid hc
  clear hc h
  go_enter Tryd.func13, Tryd.ntmps13
  go_wp2_with fail
  refine HC.out.mono ?_
  rintro e w' ⟨rfl, rfl⟩
  go_wp2
  go_ret
  exact ⟨rfl, below_box w _⟩

section
variable {H : Type} {enc : TypeId × Value → H}

set_option maxRecDepth 100000 in
/-- A card that comes in: its slice's numbers. -/
theorem open_card {W : World} {b : Nat} {r : Reach} {v : Value} {d : DataW H} {p : List MemPlace} (hv : Value.okWide Tryd.prog W r b 30 v) (h : DataW.Trod enc Tryd.prog W 0 (fun _ => true) true 30 v d p) :
    ∃ A c xs, v = .agg #[.slice A (List.length xs) c] ∧ Ints W W.heap.size A xs ∧ xs.length ≤ 9223372036854775807 ∧ (∀ n ∈ xs, (Lit.int .i64 n).wf = true) := by
  obtain ⟨cs, rfl, hsz⟩ := okWide_struct Tryd.underlying30 hv
  obtain ⟨l⟩ := cs
  have hC : Tryd.prog.cellsOf 30 = 1 := by kernel_rfl
  match l, hsz.trans hC with
  | [c0], _ =>
    obtain ⟨fuel, hf⟩ := h
    obtain ⟨y0, n, _, _, hy⟩ := trod_struct1 Tryd.underlying30 hf
    have hc1 : Tryd.prog.cellsOf 22 = 1 := by kernel_rfl
    have hy' : DataW.trod enc Tryd.prog W 0 (fun _ => true) true n 22 [c0] = some y0 := by
      rw [hc1] at hy
      simpa [Value.cells] using hy
    rcases open_ints Tryd.underlying22 Tryd.underlying2 (by kernel_rfl) hy' with ⟨hcs, _⟩ | ⟨a, len, cap, zs, hcs, _, hl, hm, hz, _, hcell, hwf⟩
    · obtain rfl : c0 = .slice none 0 0 := by simpa using hcs
      exact ⟨none, 0, [], rfl, Ints.nil, by simp, by simp⟩
    · obtain rfl : c0 = .slice (some a) len cap := by simpa using hcs
      simp only [if_true] at hz
      have hlen : (zs.take len).length = len := by simp; omega
      unfold maxLen at hm
      refine ⟨some a, cap, zs.take len, by rw [hlen], ?_, by omega, fun n hn => hwf n (List.mem_of_mem_take hn)⟩
      intro h0
      obtain ⟨b', off, rfl, hc⟩ := ints_at hcell (by omega)
      refine ⟨b', off, rfl, ?_, fun i hi => ?_⟩
      · exact World.block_lt_of_cell? _ _ (hc 0 (by omega))
      · rw [hc i (by omega), List.getElem?_take_of_lt (by omega)]
        rfl

end

theorem toCardAt_any (A : Option Addr) (c : Nat) (xs : List Int) (B : Nat) (w : World) (h : Ints w B A xs) (hB : B ≤ w.heap.size) (hn : xs.length ≤ 1048576) :
    Calls Tryd.prog 16 #[.agg #[.slice A xs.length c]] w fun e w' => ∃ g, e = .returned (.agg #[.slice (some ⟨g, 0, none⟩) xs.length xs.length]) ∧ Below w.heap.size w w' ∧ IAt w' w.heap.size w'.heap.size (some ⟨g, 0, none⟩) xs := by
  refine (toCard_any A c xs B w h hB hn).mono ?_
  rintro e w' ⟨g, he, hg, hb, hr⟩
  exact ⟨g, he, hb, fun _ => ⟨g, [], rfl, hg, hr.lt, hr⟩, Nat.le_refl _⟩

theorem eqCardAt_any (A A' : Option Addr) (c c' : Nat) (xs : List Int) (w : World) (h : Ints w w.heap.size A xs) (h' : Ints w w.heap.size A' xs) (hn : xs.length ≤ 1048576) :
    Calls Tryd.prog 11 #[.agg #[.slice A xs.length c], .agg #[.slice A' xs.length c']] w fun e w' => e = .returned (.bool true) ∧ Below w.heap.size w w' := by
  have := eqCard_any A A' c c' xs xs w.heap.size w.heap.size w h h' (Nat.le_refl _) (Nat.le_refl _) hn (by omega)
  simpa using this

theorem markCardAt_any (A : Option Addr) (c : Nat) (xs : List Int) (lo hi : Nat) (k : Int) (w : World) (h : IAt w lo hi A xs) (h0 : 0 ≤ k) (h1 : k ≤ 4194304) (hn : xs.length ≤ 1048576) :
    Calls Tryd.prog 12 #[.agg #[.slice A xs.length c], .int .i64 k] w fun e w' => e = .returned (.int .i64 (k + xs.length)) ∧ Within lo hi w w' ∧ IAt w' lo hi A (marks k xs.length) := by
  have hbx := below_box w (.cells #[.slice A xs.length c] 24)
  have hc := markAt_any A c xs lo hi k (w.alloc (.cells #[.slice A xs.length c] 24)) (h.later hbx) h0 h1 hn
  have HC := Lib.hid hc
  have HX : Hid (Within lo hi w (w.alloc (.cells #[.slice A xs.length c] 24))) := ⟨hbx.os, hbx.tape, hbx.output, hbx.size, fun b hb _ => hbx.block b hb⟩
  clear hc h hbx
  go_enter Tryd.func12, Tryd.ntmps12
  go_wp2_with fail
  refine HC.out.mono ?_
  rintro e w' ⟨rfl, hg, hr⟩
  have HG := Lib.hid (HX.out.trans hg)
  have HR := Lib.hid hr
  clear hg hr
  go_wp2
  go_ret
  exact ⟨rfl, HG.out, HR.out⟩

theorem heldCardAt_any (A : Option Addr) (c : Nat) (xs : List Int) (lo hi : Nat) (k : Int) (w : World) (h : IAt w lo hi A (marks k xs.length)) (h0 : 0 ≤ k) (h1 : k ≤ 4194304) (hn : xs.length ≤ 1048576) :
    Calls Tryd.prog 13 #[.agg #[.slice A xs.length c], .int .i64 k] w fun e w' => e = .returned (.int .i64 (k + xs.length)) ∧ Below w.heap.size w w' :=
  heldCard_any A c xs.length w.heap.size k w h.ints (Nat.le_refl _) h0 (by omega) hn

/-- a counter of one's own, a truth and a code -/
def GivesKB (L : List Int) (u : Bool) (code : Int) (w : World) (e : Ending) (w' : World) : Prop :=
  ∃ A cap, e = .returned (.tuple #[.agg #[.slice A L.length cap], .bool u, .int .i64 code]) ∧ Below w.heap.size w w' ∧ IAt w' w.heap.size w'.heap.size A L
/-- two counters of one's own, that share no memory, and a code -/
def GivesKK (L M : List Int) (code : Int) (w : World) (e : Ending) (w' : World) : Prop :=
  ∃ A cap A' cap' l1 h1 l2 h2, e = .returned (.tuple #[.agg #[.slice A L.length cap], .agg #[.slice A' M.length cap'], .int .i64 code]) ∧ Below w.heap.size w w' ∧ (w.heap.size ≤ l1 ∧ l1 ≤ h1 ∧ h1 ≤ w'.heap.size ∧ w.heap.size ≤ l2 ∧ l2 ≤ h2 ∧ h2 ≤ w'.heap.size ∧ (h1 ≤ l2 ∨ h2 ≤ l1)) ∧ IAt w' l1 h1 A L ∧ IAt w' l2 h2 A' M

end Go.Proofs.YtkiphejkgpfjjaaDoor
