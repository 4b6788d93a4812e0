/- spec.l01Dec and spec.Decimal answer the decimal form of a number, for every int64: contracts. -/
import Derived.Test.YtjfogadcedgndaaDoorMem
import Derived.Lib.ItoaMem
import Derived.Shelf.Strings.BuilderK
import Derived.Laws.IdiomStrings
import Derived.Laws.AppendOwn
import Derived.Laws.Concat
import Derived.Outline
namespace Go.Proofs.YtjfogadcedgndaaDoor
open Go.ChangeShapes Go.WideShapes Go.ChangeAt Go.RowKit

/-- the digits of a number, none for 0 -/
def dz (q : Nat) : List UInt8 := if q = 0 then [] else Lib.decDigits q
theorem dz_zero : dz 0 = [] := rfl
theorem dz_pos {q : Nat} (h : 0 < q) : dz q = Lib.decDigits q := by rw [dz, if_neg (by omega)]
theorem dz_step {q : Nat} (h : 0 < q) : dz q = dz (q / 10) ++ [UInt8.ofNat (48 + q % 10)] := by
  rw [dz_pos h]
  by_cases h9 : q < 10
  · rw [Lib.decDigits_one h9, show q / 10 = 0 by omega, show q % 10 = q by omega, dz_zero]
    rfl
  · rw [Lib.decDigits, dif_neg h9, dz_pos (by omega)]
theorem dz_length (q : Nat) (h : q < 18446744073709551616) : (dz q).length ≤ 20 := by
  by_cases h0 : q = 0
  · subst h0
    simp [dz_zero]
  · rw [dz_pos (by omega), Lib.decDigits_length]
    have := Lib.numDigits_eq q (by omega) h
    split at this <;> omega

theorem info_u8 : (Tryd.prog.info? 5).map (fun i => (i.zero, i.size, i.bytes)) = some (some (.int .u8 0), 1, 1) := by kernel_rfl

theorem own_at {w : World} {base : Nat} {v : Value} {l : List UInt8} (h : w.ownsRow base 5 1 v l.length (Lib.byteCells l)) (h0 : 0 < l.length) :
    ∃ g cap, v = .slice (some ⟨g, 0, none⟩) l.length cap := by
  rcases h.2 with ⟨_, hz⟩ | ⟨g, cap, cur, rfl, hb, hg, hr⟩
  · omega
  · exact ⟨g, cap, rfl⟩
theorem own_conv {w : World} {base : Nat} {v : Value} {l : List UInt8} (h : w.ownsRow base 5 1 v l.length (Lib.byteCells l)) (h0 : 0 < l.length) :
    (convert 22 9 v).run Tryd.prog w = .ok (.string ⟨l.toArray⟩) w := by
  rcases h.2 with ⟨_, hz⟩ | ⟨g, cap, cur, rfl, hb, hg, hr⟩
  · omega
  · refine run_convert_bytes_back w 22 9 5 ⟨g, 0, none⟩ cap l Tryd.underlying22 Tryd.underlying5 Tryd.underlying9 (fun j hj => ?_)
    have := h.cells (g := g) rfl j (.int .u8 l[j].toNat) (by simp [Lib.byteCells, hj])
    simpa [Addr.add] using this
theorem own_src {w : World} {base g cap : Nat} {l : List UInt8} (h : w.ownsRow base 5 1 (.slice (some ⟨g, 0, none⟩) l.length cap) l.length (Lib.byteCells l)) (o : Obj) :
    ∀ j u, (Lib.byteCells l)[j]? = some u → (w.alloc o).cell? ((⟨g, 0, none⟩ : Addr).add j) = some u := fun j u hj => by
  have hc := h.cells (g := g) rfl j u hj
  rw [World.cell?_alloc_lt _ _ _ (World.block_lt_of_cell? _ _ hc)]
  exact hc
theorem bytes_one (l : List UInt8) : ∀ u ∈ Lib.byteCells l, u.oneCell' = true := by
  intro u hu
  simp [Lib.byteCells] at hu
  obtain ⟨c, _, rfl⟩ := hu
  rfl
/-- a byte and what a slice holds -/
theorem own_front {W w w2 : World} {base : Nat} {v' : Value} {x : Int} {l : List UInt8} (c : UInt8) (hc : (c.toNat : Int) = x)
    (hown : w2.ownsRow base 5 1 v' (1 + l.length) ([.int .u8 x] ++ Lib.byteCells l)) (hgrow : (w.alloc (.cells #[.int .u8 x] 5)).grownBy w2 (some w.heap.size))
    (hb : Below base W w) (hs : base ≤ w.heap.size) :
    w2.ownsRow base 5 1 v' (c :: l).length (Lib.byteCells (c :: l)) ∧ Below base W w2 := by
  refine ⟨?_, (hb.alloc hs _).grown hgrow (by simp; omega) (fun k hk => by injection hk with hk; omega)⟩
  have e : Lib.byteCells (c :: l) = [Value.int .u8 x] ++ Lib.byteCells l := by simp [Lib.byteCells, hc]
  rw [e, List.length_cons, Nat.add_comm]
  exact hown
theorem own_one (wr : World) (base : Nat) (h : base ≤ wr.heap.size) (x : Int) : (wr.alloc (.cells #[.int .u8 x] 5)).ownsRow base 5 1 (.slice (some ⟨wr.heap.size, 0, none⟩) 1 1) 1 [.int .u8 x] :=
  ⟨rfl, Or.inr ⟨wr.heap.size, 1, #[.int .u8 x], rfl, h, heap_alloc_new wr _, Nat.le_refl _, by unfold maxLen; omega, rfl, rfl⟩⟩

end Go.Proofs.YtjfogadcedgndaaDoor