/- What the drawing of texts, numbers and program cards gives: one of a list, and a text of so many letters; nothing but the source's block turns. Condition: at most 4096 bytes, at most 64 letters. -/
import Derived.Test.YtjfogadcedgndaaDrawText
import Derived.Lib.UnsafeStr
namespace Go.Proofs.Ytjfogadcedgndaa
open Go.ChangeShapes Go.WideShapes Go.ChangeAt Go.RowKit

set_option maxHeartbeats 1000000 in
theorem among_any (w : World) (B g k bk c : Nat) (xs : List Int) (h : Src w B g k) (hk : k ≤ 1048000) (h1 : 1 ≤ xs.length) (h2 : xs.length ≤ 4096) (hne : bk ≠ g) (hx : ∀ (j : Nat) x, xs[j]? = some x → w.cell? ⟨bk, j, none⟩ = some (.int .i64 x)) :
    Calls Try.prog 83 #[.pointer (some ⟨g, 0, none⟩), .slice (some ⟨bk, 0, none⟩) xs.length c] w fun e w' => ∃ x, x ∈ xs ∧ e = .returned (.int .i64 x) ∧ w.grownBy w' (some g) ∧ Src w' B g (k + 2) := by
  have HP := Lib.hid (pick_any w B g k (xs.length : Int) h hk (by omega) (by omega))
  have HX := Lib.hid hx
  obtain ⟨n, hn⟩ : ∃ n, xs.length = n := ⟨_, rfl⟩
  rw [hn] at HP h1 h2 ⊢
  have HN := Lib.hid hn
  clear h hx hn
  go_enter Try.func83, Try.ntmps83
  go_wp2_with fail
  refine HP.out.mono ?_
  rintro e w1 ⟨r, rfl, hr0, hr1, hg, hs⟩
  obtain ⟨i, rfl⟩ : ∃ i : Nat, r = i := ⟨r.toNat, by omega⟩
  obtain ⟨x, hx⟩ : ∃ x, xs[i]? = some x := ⟨xs[i]'(by rw [HN.out]; omega), List.getElem?_eq_getElem _⟩
  have hc := cell_only hg (HX.out i x hx) hne
  have HXX := Lib.hid hx
  have HG := Lib.hid hg
  have HS := Lib.hid hs
  clear hg hs hx
  go_wp2
  go_ret
  exact ⟨x, List.mem_of_getElem? HXX.out, rfl, HG.out, HS.out⟩

/-- What a drawn text of n bytes leaves. -/
def DrawsBytes (n B g K : Nat) (w : World) (e : Ending) (w' : World) : Prop :=
  ∃ s : ByteArray, e = .returned (.string s) ∧ s.size = n ∧ w.grownBy w' (some g) ∧ Src w' B g K

set_option maxRecDepth 100000 in
theorem conv_bytes {w : World} {base : Nat} {v : Value} {l : List UInt8} (h : w.ownsRow base 5 1 v l.length (Lib.byteCells l)) (hv : ∃ g n cap, v = .slice (some ⟨g, 0, none⟩) n cap) :
    (convert 22 9 v).run Try.prog w = .ok (.string ⟨l.toArray⟩) w := by
  rcases h.2 with ⟨hv2, _⟩ | ⟨g', cap', cur, hv2, hb, hg, hr⟩
  · obtain ⟨g, n, cap, e⟩ := hv
    rw [e] at hv2
    cases hv2
  · subst hv2
    refine run_convert_bytes_back w 22 9 5 ⟨g', 0, none⟩ cap' l Try.underlying22 Try.underlying5 Try.underlying9 (fun j hj => ?_)
    have := h.cells (g := g') rfl j (.int .u8 l[j].toNat) (by simp [Lib.byteCells, hj])
    simpa [Addr.add] using this

end Go.Proofs.Ytjfogadcedgndaa