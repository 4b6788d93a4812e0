/- spec.l00Own and slices.Clone (at []int64 and at impl.columns) answer a copy in new memory, for every slice of 1 to 1048576 elements: contracts. -/
import Derived.Test.YtpklmhffgbgakaaGives
import Derived.Maps.AppendAt
import Derived.Deep.AppendLies
import Derived.OwnWalk
namespace Go.Proofs.Ytpklmhffgbgakaa
open Go.ChangeShapes Go.WideShapes Go.ChangeAt Go.RowKit

/-- A slice of new memory with the numbers ys. -/
def GivesInts (ys : List Int) (w : World) (e : Ending) (w' : World) : Prop :=
  ∃ g cap ex, e = .returned (.slice (some ⟨g, 0, none⟩) ys.length cap) ∧ w.heap.size ≤ g ∧ Below w.heap.size w w' ∧ Row w' g ys ex

theorem owned_row {w : World} {base n : Nat} {v : Value} {xs : List Int} (h : w.ownsRow base 2 1 v n (xs.map (Value.int .i64))) (hn : 0 < n) (hl : xs.length = n) :
    ∃ g cap ex, v = .slice (some ⟨g, 0, none⟩) xs.length cap ∧ base ≤ g ∧ Row w g xs ex := by
  rcases h.2 with ⟨_, h0⟩ | ⟨g, cap, cur, hv, hb, hh, _, _, _, ht⟩
  · omega
  · refine ⟨g, cap, cur.toList.drop n, by rw [hl]; exact hv, hb, ?_⟩
    unfold Row
    rw [hh]
    congr 2
    apply Array.ext'
    rw [← List.take_append_drop n cur.toList, ← ht, Nat.mul_one]
    simp

theorem news_of {w : World} {b off : Nat} {xs : List Int} (hc : ∀ i, i < xs.length → w.cell? ⟨b, off + i, none⟩ = some (.int .i64 (xs[i]?.getD 0))) :
    ∀ j u, (xs.map (Value.int .i64))[j]? = some u → w.cell? ((⟨b, off, none⟩ : Addr).add j) = some u := by
  intro j u hu
  rw [List.getElem?_map, Option.map_eq_some_iff] at hu
  obtain ⟨x, hx, rfl⟩ := hu
  obtain ⟨hj, hx'⟩ := List.getElem?_eq_some_iff.1 hx
  rw [Go.WideShapes.add_plain, hc j hj, hx]
  rfl

theorem maps_length (xs : List Int) : (xs.map (Value.int .i64)).length = xs.length * 1 := by simp
theorem maps_one (xs : List Int) : ∀ u ∈ xs.map (Value.int .i64), u.oneCell' = true := by
  intro u hu
  obtain ⟨x, _, rfl⟩ := List.mem_map.1 hu
  rfl
theorem empty_owned (w : World) : (w.alloc (.cells #[] 2)).ownsRow w.heap.size 2 1 (.slice (some ⟨w.heap.size, 0, none⟩) 0 0) 0 [] :=
  ⟨rfl, Or.inr ⟨w.heap.size, 0, #[], rfl, Nat.le_refl _, heap_alloc_new w _, Nat.le_refl _, Nat.zero_le _, rfl, rfl⟩⟩

theorem l00Own_any (A : Option Addr) (c : Nat) (xs : List Int) (B : Nat) (w : World) (h : Ints w B A xs) (hB : B ≤ w.heap.size) (h0 : 0 < xs.length) (hn : xs.length ≤ 1048576) :
    Calls Try.prog 107 #[.slice A xs.length c] w (GivesInts xs w) := by
  obtain ⟨i0, hi0, hz0, hz1, hz2⟩ := info_parts info_int64
  obtain ⟨b, off, rfl, hb, hcell⟩ := h h0
  have HN := Lib.hid (news_of (fun i hi => (World.cell?_alloc_lt w (.cells #[] 2) ⟨b, off + i, none⟩ (Nat.lt_of_lt_of_le hb hB)).trans (hcell i hi)))
  have HM := Lib.hid (maps_length xs)
  have H1 := Lib.hid (maps_one xs)
  have HO := Lib.hid (empty_owned w)
  clear hcell h
  go_enter Try.func107, Try.ntmps107
  go_wp2_with (at_builtin; refine wpList_append_own _ rfl (.tmp 3) (.tmp 4) 44 rfl w.heap.size 2 i0 (.int .i64 0) 1 8 Try.underlying44 hi0 hz0 hz1 hz2 rfl (by decide) (.slice (some ⟨w.heap.size, 0, none⟩) 0 0) 0 [] rfl HO.out ⟨b, off, none⟩ xs.length c (xs.map (Value.int .i64)) rfl HM.out HN.out H1.out ?c3 ?c4 ?c5 ?_; rotate_left 3; intro v1 w1 hown hgrow hiff; simp only [Nat.zero_add, List.nil_append] at hown; have B1 := Lib.hid (Below.grown (below_box w _) hgrow (by simp) (fun k hk => by simp [Value.ownBlock] at hk; omega)); obtain ⟨g, cap, ex, rfl, hg, hr⟩ := owned_row hown h0 rfl; have HR := Lib.hid hr; clear hown hgrow hiff hr)
  case c3 => unfold maxLen; omega
  case c4 => omega
  case c5 => simp
  go_ret
  exact ⟨g, cap, ex, rfl, hg, B1.out, HR.out⟩

theorem clone_any (A : Option Addr) (c : Nat) (xs : List Int) (B : Nat) (w : World) (h : Ints w B A xs) (hB : B ≤ w.heap.size) (h0 : 0 < xs.length) (hn : xs.length ≤ 1048576) :
    Calls Try.prog 109 #[.slice A xs.length c] w (GivesInts xs w) := by
  obtain ⟨i0, hi0, hz0, hz1, hz2⟩ := info_parts info_int64
  obtain ⟨b, off, rfl, hb, hcell⟩ := h h0
  have HN := Lib.hid (news_of (fun i hi => (World.cell?_alloc_lt w (.cells #[] 2) ⟨b, off + i, none⟩ (Nat.lt_of_lt_of_le hb hB)).trans (hcell i hi)))
  have HM := Lib.hid (maps_length xs)
  have H1 := Lib.hid (maps_one xs)
  have HO := Lib.hid (empty_owned w)
  clear hcell h
  have hnil : ∀ W : World, (binOp .eql 44 (.slice (some ⟨b, off, none⟩) xs.length c) (.slice none 0 0)).run Try.prog W = .ok (.bool false) W := fun W => Lib.run_eql_slice_nil W 44 2 (some ⟨b, off, none⟩) xs.length c 0 0 Try.underlying44
  go_enter Try.func109, Try.ntmps109
  go_wp2_with (at_builtin; refine wpList_append_own _ rfl (.tmp 5) (.tmp 6) 44 rfl w.heap.size 2 i0 (.int .i64 0) 1 8 Try.underlying44 hi0 hz0 hz1 hz2 rfl (by decide) (.slice (some ⟨w.heap.size, 0, none⟩) 0 0) 0 [] rfl HO.out ⟨b, off, none⟩ xs.length c (xs.map (Value.int .i64)) rfl HM.out HN.out H1.out ?c3 ?c4 ?c5 ?_; rotate_left 3; intro v1 w1 hown hgrow hiff; simp only [Nat.zero_add, List.nil_append] at hown; have B1 := Lib.hid (Below.grown (below_box w _) hgrow (by simp) (fun k hk => by simp [Value.ownBlock] at hk; omega)); obtain ⟨g, cap, ex, rfl, hg, hr⟩ := owned_row hown h0 rfl; have HR := Lib.hid hr; clear hown hgrow hiff hr)
  case c3 => unfold maxLen; omega
  case c4 => omega
  case c5 => simp
  go_ret
  exact ⟨g, cap, ex, rfl, hg, B1.out, HR.out⟩

end Go.Proofs.Ytpklmhffgbgakaa
