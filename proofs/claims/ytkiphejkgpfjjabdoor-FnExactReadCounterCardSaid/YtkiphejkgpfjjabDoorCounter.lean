/- Counters in memory: what the laws' helpers do with them; one that comes in is opened to its digits; counters in memory of their own: contracts. (Written by tools/counterize.py from the texts about cards.) -/
import Derived.Test.YtkiphejkgpfjjabDoorCardAt
import Derived.Test.YtkiphejkgpfjjabDoorLaw
import Derived.Lib.SmallJoins
namespace Go.Proofs.YtkiphejkgpfjjabDoor
open Go.ChangeShapes Go.WideShapes Go.ChangeAt Go.RowKit

/-- Cards: any two blocks may be laid for the boxes; no old cell turns. -/
theorem eqCard_any (A A' : Option Addr) (c c' : Nat) (xs ys : List Int) (B B' : Nat) (w : World) (h : Ints w B A xs) (h' : Ints w B' A' ys) (hB : B ≤ w.heap.size) (hB' : B' ≤ w.heap.size) (hn : xs.length ≤ 1048576) (hn' : ys.length ≤ 140737488355328) :
    Calls Tryd.prog 7 #[.agg #[.slice A xs.length c], .agg #[.slice A' ys.length c']] w fun e w' => e = .returned (.bool (decide (xs = ys))) ∧ Below w.heap.size w w' := by
  have hc := eqInts_any A A' c c' xs ys B B' _ ((h.alloc hB (.cells #[.slice A xs.length c] 24)).alloc (by simp; omega) (.cells #[.slice A' ys.length c'] 24)) ((h'.alloc hB' _).alloc (by simp; omega) _) hn hn'
  obtain ⟨r, hr⟩ : ∃ r, decide (xs = ys) = r := ⟨_, rfl⟩
  rw [hr] at hc ⊢
  have HC := Lib.hid hc
  clear hc hr h h'
  cases r
  all_goals
    go_enter Tryd.func7, Tryd.ntmps7
    go_wp2_with fail
    refine HC.out.mono ?_
    rintro e w' ⟨rfl, n, rfl⟩
    go_wp2
    go_ret
    exact ⟨rfl, below_drewN (((Below.refl _ _).alloc (Nat.le_refl _) _).alloc (by simp) _) _⟩

theorem markCard_any (g c : Nat) (xs : List Int) (ex : List Value) (k : Int) (w : World) (h : Row w g xs ex) (h0 : 0 ≤ k) (h1 : k ≤ 1099511627776) (hn : xs.length ≤ 1048576) :
    Calls Tryd.prog 8 #[.agg #[.slice (some ⟨g, 0, none⟩) xs.length c], .int .i64 k] w fun e w' => e = .returned (.int .i64 (k + xs.length)) ∧ w.grownBy w' (some g) ∧ Row w' g (marks k xs.length) ex := by
  have hc := markInts_any g c xs ex k (w.alloc (.cells #[.slice (some ⟨g, 0, none⟩) xs.length c] 24)) (h.alloc _) h0 h1 hn
  have HC := Lib.hid hc
  clear hc h
  go_enter Tryd.func8, Tryd.ntmps8
  go_wp2_with fail
  refine HC.out.mono ?_
  rintro e w' ⟨rfl, hg, hr⟩
  have HG := Lib.hid (only_step (only_box w _ g) hg)
  have HR := Lib.hid hr
  clear hg hr
  go_wp2
  go_ret
  exact ⟨rfl, HG.out, HR.out⟩

theorem markCard_nil (c : Nat) (k : Int) (w : World) :
    Calls Tryd.prog 8 #[.agg #[.slice none 0 c], .int .i64 k] w fun e w' => e = .returned (.int .i64 k) ∧ Below w.heap.size w w' := by
  have hc : ∀ W, Calls Tryd.prog 25 #[.slice none 0 c, .int .i64 k] W fun e w' => e = .returned (.int .i64 k) ∧ W = w' := fun W => by
    go_enter Tryd.func25, Tryd.ntmps25
    go_wp2
    go_loop [1, 5] (fun kk i => i = .int .i64 0 ∧ kk = .int .i64 k) (fun _ _ => 0)
    case atStart => exact ⟨rfl, rfl⟩
    case round =>
      obtain ⟨rfl, rfl⟩ := hrel
      go_wp2
      go_ret
      exact ⟨rfl, rfl⟩
  have HC := Lib.hid hc
  clear hc
  go_enter Tryd.func8, Tryd.ntmps8
  go_wp2_with (go_at_call 25; refine (HC.out _).mono ?_; rintro e w' ⟨rfl, rfl⟩)
  go_ret
  exact ⟨rfl, below_box w _⟩

theorem heldCard_any (A : Option Addr) (c n B : Nat) (k : Int) (w : World) (h : Ints w B A (marks k n)) (hB : B ≤ w.heap.size) (h0 : 0 ≤ k) (h1 : k ≤ 1099511627776) (hn : n ≤ 1048576) :
    Calls Tryd.prog 9 #[.agg #[.slice A n c], .int .i64 k] w fun e w' => e = .returned (.int .i64 (k + n)) ∧ Below w.heap.size w w' := by
  have hc := heldInts_any A c n B k (w.alloc (.cells #[.slice A n c] 24)) (h.alloc hB _) h0 h1 hn
  have HC := Lib.hid hc
  clear hc h
  go_enter Tryd.func9, Tryd.ntmps9
  go_wp2_with fail
  refine HC.out.mono ?_
  rintro e w' ⟨rfl, rfl⟩
  go_wp2
  go_ret
  exact ⟨rfl, below_box w _⟩

section
variable {H : Type} {enc : TypeId × Value → H}

end

theorem eqCardAt_any (A A' : Option Addr) (c c' : Nat) (xs : List Int) (w : World) (h : Ints w w.heap.size A xs) (h' : Ints w w.heap.size A' xs) (hn : xs.length ≤ 1048576) :
    Calls Tryd.prog 7 #[.agg #[.slice A xs.length c], .agg #[.slice A' xs.length c']] w fun e w' => e = .returned (.bool true) ∧ Below w.heap.size w w' := by
  have := eqCard_any A A' c c' xs xs w.heap.size w.heap.size w h h' (Nat.le_refl _) (Nat.le_refl _) hn (by omega)
  simpa using this

theorem markCardAt_any (A : Option Addr) (c : Nat) (xs : List Int) (lo hi : Nat) (k : Int) (w : World) (h : IAt w lo hi A xs) (h0 : 0 ≤ k) (h1 : k ≤ 4194304) (hn : xs.length ≤ 1048576) :
    Calls Tryd.prog 8 #[.agg #[.slice A xs.length c], .int .i64 k] w fun e w' => e = .returned (.int .i64 (k + xs.length)) ∧ Within lo hi w w' ∧ IAt w' lo hi A (marks k xs.length) := by
  have hbx := below_box w (.cells #[.slice A xs.length c] 24)
  have hc := markAt_any A c xs lo hi k (w.alloc (.cells #[.slice A xs.length c] 24)) (h.later hbx) h0 h1 hn
  have HC := Lib.hid hc
  have HX : Hid (Within lo hi w (w.alloc (.cells #[.slice A xs.length c] 24))) := ⟨hbx.os, hbx.tape, hbx.output, hbx.size, fun b hb _ => hbx.block b hb⟩
  clear hc h hbx
  go_enter Tryd.func8, Tryd.ntmps8
  go_wp2_with fail
  refine HC.out.mono ?_
  rintro e w' ⟨rfl, hg, hr⟩
  have HG := Lib.hid (HX.out.trans hg)
  have HR := Lib.hid hr
  clear hg hr
  go_wp2
  go_ret
  exact ⟨rfl, HG.out, HR.out⟩

theorem heldCardAt_any (A : Option Addr) (c : Nat) (xs : List Int) (lo hi : Nat) (k : Int) (w : World) (h : IAt w lo hi A (marks k xs.length)) (h0 : 0 ≤ k) (h1 : k ≤ 4194304) (hn : xs.length ≤ 1048576) :
    Calls Tryd.prog 9 #[.agg #[.slice A xs.length c], .int .i64 k] w fun e w' => e = .returned (.int .i64 (k + xs.length)) ∧ Below w.heap.size w w' :=
  heldCard_any A c xs.length w.heap.size k w h.ints (Nat.le_refl _) h0 (by omega) hn

/-- a counter of one's own, a truth and a code -/
def GivesKB (L : List Int) (u : Bool) (code : Int) (w : World) (e : Ending) (w' : World) : Prop :=
  ∃ A cap, e = .returned (.tuple #[.agg #[.slice A L.length cap], .bool u, .int .i64 code]) ∧ Below w.heap.size w w' ∧ IAt w' w.heap.size w'.heap.size A L
/-- two counters of one's own, that share no memory, and a code -/
def GivesKK (L M : List Int) (code : Int) (w : World) (e : Ending) (w' : World) : Prop :=
  ∃ A cap A' cap' l1 h1 l2 h2, e = .returned (.tuple #[.agg #[.slice A L.length cap], .agg #[.slice A' M.length cap'], .int .i64 code]) ∧ Below w.heap.size w w' ∧ (w.heap.size ≤ l1 ∧ l1 ≤ h1 ∧ h1 ≤ w'.heap.size ∧ w.heap.size ≤ l2 ∧ l2 ≤ h2 ∧ h2 ≤ w'.heap.size ∧ (h1 ≤ l2 ∨ h2 ≤ l1)) ∧ IAt w' l1 h1 A L ∧ IAt w' l2 h2 A' M

end Go.Proofs.YtkiphejkgpfjjabDoor
