/- Items are compared cell by cell: what '!=' of two items says; and slices.Equal, the laws' comparisons and spec.SameLayout, impl.SameLayout of lists of items: contracts. -/
import Derived.Test.YtmdgpkiicjmfhaaDoorLayouts
import Derived.Laws.StructEq
import Derived.Deep.RegionWith
namespace Go.Proofs.YtmdgpkiicjmfhaaDoor
open Go.ChangeShapes Go.WideShapes Go.ChangeAt Go.RowKit

theorem eq_fieldcells (d : Nat) (a b c e : Int) (w : World) : (Op.equalIn (d + 2) 49 (.agg #[.int .i64 a, .int .i64 b]) (.agg #[.int .i64 c, .int .i64 e])).run Tryd.prog w = .ok (a == c && b == e) w := by
  have u2 := Tryd.underlying2
  have a2 := Tryd.isAgg2
  have z2 := Tryd.sizeOf2
  have hS : Tryd.prog.underlying 49 = some (.struct (Tryd.prog.fieldsOf 49)) := by kernel_rfl
  have hp : Tryd.prog.stoodInHeld 49 = false := by kernel_rfl
  rw [show d + 2 = (d + 1) + 1 from rfl, run_equalIn_agg w (d + 1) 49 _ _ hS hp]
  simp only [Program.fieldsOf, Tryd.underlying49]
  go_simp
  by_cases h1 : a = c <;> by_cases h2 : b = e <;> simp [h1, h2]

theorem neq_item (n n' : ByteArray) (k a b k' a' b' : Int) (w : World) : (binOp .neq 51 (.agg #[.string n, .int .i64 k, .int .i64 a, .int .i64 b]) (.agg #[.string n', .int .i64 k', .int .i64 a', .int .i64 b'])).run Tryd.prog w = .ok (.bool (!itB ⟨n, k, a, b⟩ ⟨n', k', a', b'⟩)) w := by
  have u2 := Tryd.underlying2
  have u9 := Tryd.underlying9
  have a2 := Tryd.isAgg2
  have z2 := Tryd.sizeOf2
  have a9 := Tryd.isAgg9
  have z9 := Tryd.sizeOf9
  have hF := eq_fieldcells
  have hS : Tryd.prog.underlying 51 = some (.struct (Tryd.prog.fieldsOf 51)) := by kernel_rfl
  have hp : Tryd.prog.stoodInHeld 51 = false := by kernel_rfl
  rw [run_neq_struct, show (10000 : Nat) = 9999 + 1 from rfl, run_equalIn_agg w 9999 51 _ _ hS hp]
  simp only [Program.fieldsOf, Tryd.underlying51]
  go_simp
  by_cases h1 : n = n'
  · subst h1
    by_cases h2 : k = k' <;> by_cases h3 : a = a' <;> by_cases h4 : b = b' <;> simp [itB, h2, h3, h4]
  · have h1' : ¬ n.toList = n'.toList := fun e => by
      have := bytes_ne h1
      rw [e] at this
      simp at this
    rw [if_neg h1']
    simp [itB, h1]
theorem guard_item (op : BinOp) (x y : Operand) (xs ys : Array Value) (w : World) : (eqGuard op 51 x y (.agg xs) (.agg ys)).run Tryd.prog w = .ok () w := run_eqGuard_agg w op _ x y xs ys (by kernel_rfl)

theorem It.eta (d : It) : (⟨d.name, d.kind, d.f0, d.f1⟩ : It) = d := by cases d; rfl

theorem eqItems_same (A A' : Option Addr) (c c' : Nat) (ds : List It) (B B' : Nat) (w : World) (h : Items w B A ds) (h' : Items w B' A' ds) (hB : B ≤ w.heap.size) (hB' : B' ≤ w.heap.size) (hn : ds.length ≤ 1048576) :
    Calls Tryd.prog 24 #[.slice A ds.length c, .slice A' ds.length c'] w fun e w' => e = .returned (.bool true) ∧ Below w.heap.size w w' := by
  obtain ⟨n, hN⟩ : ∃ n, ds.length = n := ⟨_, rfl⟩
  rw [hN] at hn ⊢
  have H := Lib.hid h
  have H' := Lib.hid h'
  have HN := Lib.hid hN
  clear h h' hN
  go_enter Tryd.func24, Tryd.ntmps24
  go_wp2
  go_loopw [5] (fun i wr => ∃ k : Nat, k ≤ n ∧ i = .int .i64 k ∧ Hid (Below w.heap.size w wr)) (fun i _ => n - (intOf i).toNat)
  case atStart => exact ⟨0, Nat.zero_le _, rfl, Below.refl _ _⟩
  case round =>
    obtain ⟨k, hk, rfl, HB⟩ := hrel
    by_cases hlt : k < n
    · obtain ⟨d, hd⟩ : ∃ d, ds[k]? = some d := ⟨ds[k]'(by rw [HN.out]; exact hlt), List.getElem?_eq_getElem _⟩
      obtain ⟨b, off, rfl, hb, c0, c1, c2, c3⟩ := (H.out.below (HB.out.mono hB)).at_ hd
      obtain ⟨b', off', rfl, hb', e0, e1, e2, e3⟩ := (H'.out.below (HB.out.mono hB')).at_ hd
      have hE := fun W => eqItem_any d d W
      rw [show itB d d = true from itB_iff.2 rfl] at hE
      have HE := Lib.hid hE
      obtain ⟨nm, kd, a, f⟩ := d
      have hk0 : (0 : Int) ≤ (k : Int) := Int.natCast_nonneg _
      have hk1 : (k : Int) < (n : Int) := by omega
      have h4 : off + k * 4 + 4 = off + k * 4 + 4 := rfl
      clear hd hE h4
      go_wp2
      go_region_with (go_at_call 45; refine (HE.out _).mono ?_; rintro e w2 ⟨rfl, hbb⟩; have HB1 := Lib.hid (below_step (Below.drew HB.out) hbb); clear hbb)
      all_goals
        go_wp2
        go_roundw
        case rel => exact ⟨k + 1, by omega, by go_num, HB1⟩
        case measure => simp [intOf]; omega
    · have hk1 : ¬ (k : Int) < (n : Int) := by omega
      go_wp2
      go_ret
      exact ⟨rfl, HB.out⟩
end Go.Proofs.YtmdgpkiicjmfhaaDoor
