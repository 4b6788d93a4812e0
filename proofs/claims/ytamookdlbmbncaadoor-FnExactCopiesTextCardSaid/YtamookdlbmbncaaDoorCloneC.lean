/- slices.Clone (at []int64) gives a slice whose capacity is no less than its length: a contract. -/
import Derived.Test.YtamookdlbmbncaaDoorOwn
namespace Go.Proofs.YtamookdlbmbncaaDoor
open Go.ChangeShapes Go.WideShapes Go.ChangeAt Go.RowKit

/-- A slice of new memory with the numbers ys, and no less room. -/
def GivesIntsC (ys : List Int) (w : World) (e : Ending) (w' : World) : Prop :=
  ∃ g cap ex, e = .returned (.slice (some ⟨g, 0, none⟩) ys.length cap) ∧ ys.length ≤ cap ∧ cap ≤ maxLen ∧ w.heap.size ≤ g ∧ Below w.heap.size w w' ∧ Row w' g ys ex
theorem owned_rowC {w : World} {base n : Nat} {v : Value} {xs : List Int} (h : w.ownsRow base 2 1 v n (xs.map (Value.int .i64))) (hn : 0 < n) (hl : xs.length = n) :
    ∃ g cap ex, v = .slice (some ⟨g, 0, none⟩) xs.length cap ∧ xs.length ≤ cap ∧ cap ≤ maxLen ∧ base ≤ g ∧ Row w g xs ex := by
  rcases h.2 with ⟨_, h0⟩ | ⟨g, cap, cur, hv, hb, hh, h1, h2, h3, ht⟩
  · omega
  · refine ⟨g, cap, cur.toList.drop n, by rw [hl]; exact hv, by rw [hl]; exact h1, h2, hb, ?_⟩
    unfold Row
    rw [hh]
    congr 2
    apply Array.ext'
    rw [← List.take_append_drop n cur.toList, ← ht, Nat.mul_one]
    simp

theorem cloneC_any (A : Option Addr) (c : Nat) (xs : List Int) (B : Nat) (w : World) (h : Ints w B A xs) (hB : B ≤ w.heap.size) (h0 : 0 < xs.length) (hn : xs.length ≤ 1048576) :
    Calls Tryd.prog 81 #[.slice A xs.length c] w (GivesIntsC xs w) := by
  obtain ⟨i0, hi0, hz0, hz1, hz2⟩ := info_parts info_int64
  obtain ⟨b, off, rfl, hb, hcell⟩ := h h0
  have HN := Lib.hid (news_of (fun i hi => (World.cell?_alloc_lt w (.cells #[] 2) ⟨b, off + i, none⟩ (Nat.lt_of_lt_of_le hb hB)).trans (hcell i hi)))
  have HM := Lib.hid (maps_length xs)
  have H1 := Lib.hid (maps_one xs)
  have HO := Lib.hid (empty_owned w)
  clear hcell h
  have hnil : ∀ W : World, (binOp .eql 47 (.slice (some ⟨b, off, none⟩) xs.length c) (.slice none 0 0)).run Tryd.prog W = .ok (.bool false) W := fun W => Lib.run_eql_slice_nil W 47 2 (some ⟨b, off, none⟩) xs.length c 0 0 Tryd.underlying47
  go_enter Tryd.func81, Tryd.ntmps81
  go_wp2_with (at_builtin; refine wpList_append_own _ rfl (.tmp 5) (.tmp 6) 47 rfl w.heap.size 2 i0 (.int .i64 0) 1 8 Tryd.underlying47 hi0 hz0 hz1 hz2 rfl (by decide) (.slice (some ⟨w.heap.size, 0, none⟩) 0 0) 0 [] rfl HO.out ⟨b, off, none⟩ xs.length c (xs.map (Value.int .i64)) rfl HM.out HN.out H1.out ?c3 ?c4 ?c5 ?_; rotate_left 3; intro v1 w1 hown hgrow hiff; simp only [Nat.zero_add, List.nil_append] at hown; have B1 := Lib.hid (Below.grown (below_box w _) hgrow (by simp) (fun k hk => by simp [Value.ownBlock] at hk; omega)); obtain ⟨g, cap, ex, rfl, hcp, hcm, hg, hr⟩ := owned_rowC hown h0 rfl; have HCP := Lib.hid hcp; have HCM := Lib.hid hcm; have HR := Lib.hid hr; clear hown hgrow hiff hr hcp hcm)
  case c3 => unfold maxLen; omega
  case c4 => omega
  case c5 => simp
  go_ret
  exact ⟨g, cap, ex, rfl, HCP.out, HCM.out, hg, B1.out, HR.out⟩
end Go.Proofs.YtamookdlbmbncaaDoor
