/- The sentinels of texts that are punched, in memory, and impl.codeFor at them: contracts. -/
import Derived.Test.YtjfogadcedgndaaDoorSent
namespace Go.Proofs.YtjfogadcedgndaaDoor
open Go.ChangeShapes Go.WideShapes Go.ChangeAt Go.RowKit

/-- Two sentinels in memory. -/
structure Sents2 (w : World) (aL aF : Addr) : Prop where
  long : Sent w 0 aL
  foreign : Sent w 1 aF
  lf : aL ≠ aF
theorem Sents2.below {w w' : World} {aL aF : Addr} (h : Sents2 w aL aF) (hb : Below w.heap.size w w') : Sents2 w' aL aF :=
  ⟨h.long.below hb, h.foreign.below hb, h.lf⟩
theorem Sents.two {w : World} {aL aF aM : Addr} (h : Sents w aL aF aM) : Sents2 w aL aF := ⟨h.long, h.foreign, h.lf⟩

theorem codeFor_long2 {aL aF : Addr} (w : World) (S : Sents2 w aL aF) :
    Calls Tryd.prog 27 #[.iface 168 (.pointer (some aL))] w fun e w' => e = .returned (.int .i64 5) ∧ w = w' := by
  have hn : ∀ (w : World), (binOp .eql 60 (.iface 168 (.pointer (some aL))) .nilIface).run Tryd.prog w = .ok (.bool false) w := fun w => run_eql_iface_nil w 60 (by kernel_rfl) _ _
  obtain ⟨hL, _⟩ := S.long
  have H1 := Lib.hid (is_same aL w)
  clear S
  go_enter Tryd.func27, Tryd.ntmps27
  go_wp2_with (go_at_call 47; (with_reducible refine H1.out.mono ?_); rintro e w' ⟨rfl, rfl⟩)
  go_ret
  exact ⟨rfl, rfl⟩

theorem codeFor_foreign2 {aL aF : Addr} (w : World) (S : Sents2 w aL aF) :
    Calls Tryd.prog 27 #[.iface 168 (.pointer (some aF))] w fun e w' => e = .returned (.int .i64 7) ∧ w = w' := by
  have hn : ∀ (w : World), (binOp .eql 60 (.iface 168 (.pointer (some aF))) .nilIface).run Tryd.prog w = .ok (.bool false) w := fun w => run_eql_iface_nil w 60 (by kernel_rfl) _ _
  obtain ⟨hL, cL, tL, rL⟩ := S.long
  obtain ⟨hF, cF, tF, rF⟩ := S.foreign
  have H1 := Lib.hid (is_other aF aL cF cL tF tL w S.lf.symm rF rL)
  have H2 := Lib.hid (is_same aF w)
  clear S rL rF
  go_enter Tryd.func27, Tryd.ntmps27
  go_wp2_with (go_at_call 47; (first | (with_reducible refine H1.out.mono ?_) | (with_reducible refine H2.out.mono ?_)); rintro e w' ⟨rfl, rfl⟩)
  go_ret
  exact ⟨rfl, rfl⟩
end Go.Proofs.YtjfogadcedgndaaDoor
