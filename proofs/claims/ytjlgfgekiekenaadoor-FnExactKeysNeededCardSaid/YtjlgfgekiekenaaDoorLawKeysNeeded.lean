/- For every text, the law FnExactKeysNeeded returns true: impl.KeysNeeded answers as spec.KeysNeeded. Condition: the two tables of unicode/utf8 hold what their text lays in them (the card ties that). -/
import Derived.Test.YtjlgfgekiekenaaDoorUtf8
import Derived.Test.YtjlgfgekiekenaaDoorPost
import Derived.Test.YtjlgfgekiekenaaDoorCards
import Derived.Test.YtjlgfgekiekenaaDoorTie
import Derived.LaidMore
import Derived.Lay
import Derived.OpenVars
import Derived.Stop.Joined
import Derived.Stop.LaidErr
namespace Go.Proofs.YtjlgfgekiekenaaDoor.fnExactKeysNeeded
open Go.ChangeShapes Go.WideShapes Go.ChangeAt Go.RowKit
open Go.ChangeMaps (open_string)

/-- What the row's list gives: the two tables. -/
theorem tabs_of {W : World} (h : laidMetH Tryd.prog Rows.fnExactKeysNeededRow.laid W) : Utf8In W := by
  rw [MakeChecks.laidMetH_plain _ _ _ (by kernel_rfl)] at h
  exact utf8_of h (List.mem_cons_of_mem _ (List.mem_cons_self ..)) (List.mem_cons_self ..)

theorem walk (s : ByteArray) (hl : s.size ≤ maxLen) (w : World) (hL : laidMetH Tryd.prog Rows.fnExactKeysNeededRow.laid w) :
    Calls Tryd.prog 3 #[.string s] w fun e w' => e = .returned (.bool true) ∧ Below w.heap.size w w' := by
  unfold maxLen at hl
  have hT := tabs_of hL
  clear hL
  by_cases hn : s.size ≤ 1048576
  · have HS := Lib.hid (fun W => specNeeded_any s hn W)
    have HI := Lib.hid (needed_any s hn w (fun W hb => hT.below hb))
    obtain ⟨n, hn'⟩ : ∃ n, needN s = n := ⟨_, rfl⟩
    obtain ⟨c, hc⟩ : ∃ c, needC s = c := ⟨_, rfl⟩
    rw [hn', hc] at HS HI
    clear hn' hc hT
    go_enter Tryd.func3, Tryd.ntmps3
    go_wp2_with fail
    refine (HS.out _).mono ?_
    rintro e w' ⟨rfl, rfl⟩
    go_wp2_with fail
    refine HI.out.mono ?_
    rintro e w1 ⟨rfl, hb⟩
    have B1 := Lib.hid hb
    clear hb
    go_wp2
    go_ret
    exact ⟨rfl, B1.out⟩
  · clear hT
    go_enter Tryd.func3, Tryd.ntmps3
    go_wp2
    go_ret
    exact ⟨rfl, Below.refl _ _⟩

