/- spec.l02Copy: a contract. -/
import Derived.Test.YtamookdlbmbncaaNewRows
import Derived.Test.YtamookdlbmbncaaOwnMem
namespace Go.Proofs.Ytamookdlbmbncaa
open Go.ChangeShapes Go.WideShapes Go.ChangeAt Go.RowKit

/-- cards of one's own, in a row of one's own -/
def GivesRow (H : List (List Int)) (n : Nat) (w : World) (e : Ending) (w' : World) : Prop :=
  ∃ g cap E, e = .returned (.slice (some ⟨g, 0, none⟩) n cap) ∧ E.length = n ∧ holes E = H ∧ Below w.heap.size w w' ∧ w'.ownsRow w.heap.size 33 1 (.slice (some ⟨g, 0, none⟩) n cap) n (E.map CardV.value) ∧ NewRows w' w.heap.size E

set_option maxRecDepth 100000 in
set_option maxHeartbeats 2000000 in
theorem l02Copy_any (A : Option Addr) (c : Nat) (D : List CardV) (n B : Nat) (w : World) (h : Deck w B A D) (hB : B ≤ w.heap.size) (hN : D.length = n) (hn : n ≤ 40) (hx : ∀ d ∈ D, 0 < d.xs.length ∧ d.xs.length ≤ 20) :
    Calls Try.prog 65 #[.slice A n c] w (GivesRow (holes D) n w) := by
  obtain ⟨ic, hi0, hz0, hz1, hz2⟩ := info_parts info_card
  have HE0 := Lib.hid (empty_cards w)
  have H := Lib.hid h
  have HN := Lib.hid hN
  have HX := Lib.hid hx
  clear h hN hx
  go_enter Try.func65, Try.ntmps65
  go_wp2
  go_loopw [3, 4] (fun vo x wr => ∃ t cap : Nat, ∃ g : Nat, ∃ E : List CardV, t ≤ n ∧ x = .int .i64 t ∧ vo = .slice (some ⟨g, 0, none⟩) t cap ∧ Hid (E.length = t) ∧ Hid (holes E = (holes D).take t) ∧ Hid (Below w.heap.size w wr) ∧ Hid (wr.ownsRow w.heap.size 33 1 (.slice (some ⟨g, 0, none⟩) t cap) t (E.map CardV.value)) ∧ Hid (NewRows wr w.heap.size E)) (fun _ x _ => n - (intOf x).toNat)
  case atStart => exact ⟨0, 0, w.heap.size, [], Nat.zero_le _, rfl, rfl, rfl, by show _ = _; simp [holes], below_box w _, HE0, NewRows.nil⟩
  case round =>
    obtain ⟨t, cap, g, E, ht, rfl, rfl, HE, HS, HB, HO, HR⟩ := hrel
    by_cases hlt : t < n
    · obtain ⟨d, hd⟩ : ∃ d, D[t]? = some d := ⟨D[t]'(by rw [HN.out]; exact hlt), List.getElem?_eq_getElem _⟩
      obtain ⟨h0, h20⟩ := HX.out d (List.mem_of_getElem? hd)
      obtain ⟨b, off, rfl, hb, hcell⟩ := (H.out.below (HB.out.mono hB)) (by rw [HN.out]; omega)
      obtain ⟨hc, hi⟩ := hcell t d hd
      unfold CardV.value at hc
      have HT := Lib.hid (ownNew_any d.at_ d.cap d.xs B b (off + t) wr hc hi (Nat.le_trans hB HB.out.size) h0 (by omega))
      have HH1 : Hid (∀ e : CardV, e.xs = d.xs → holes (E ++ [e]) = (holes D).take (t + 1)) := fun e he => by
        rw [List.take_add_one, holesAt hd, ← HS.out]
        simp [holes, he]
      have t0 : (0 : Int) ≤ (t : Int) := Int.natCast_nonneg _
      have t1 : (t : Int) < (n : Int) := by omega
      clear hcell hd hi h0 h20 hc
      go_wp2_with fail
      refine HT.out.mono ?_
      rintro e w3 ⟨ge, cp, ex, rfl, hge, hb3, hrow⟩
      have HB3 := Lib.hid (below_step HB.out hb3)
      have HR3 := Lib.hid (HR.out.more hb3 (e := ⟨some ⟨ge, 0, none⟩, cp, d.xs⟩) rfl hge (Nat.le_trans HB.out.size hge) hrow)
      have HO3 : Hid (w3.ownsRow w.heap.size 33 1 (.slice (some ⟨g, 0, none⟩) t cap) t (E.map CardV.value)) := own_moved HO.out (fun i _ hi => hb3.block i hi)
      have hw3 : w.heap.size ≤ w3.heap.size := HB3.out.size
      clear hb3 hrow hge
      go_wp2_with (at_builtin; refine wpList_append_own _ rfl _ _ 43 rfl w.heap.size 33 ic (.agg #[.slice none 0 0]) 1 24 Try.underlying43 hi0 hz0 hz1 hz2 rfl (by decide) _ _ _ rfl (HO3.out.alloc _) ⟨w3.heap.size, 0, none⟩ 1 1 [CardV.value ⟨some ⟨ge, 0, none⟩, cp, d.xs⟩] rfl rfl (card_news w3 _) (card_one _) ?c3 ?c4 ?c5 ?_; rotate_left 3; intro v9 w9 hown hgrow hiff; have hv9 : v9 ≠ .slice none 0 0 := (fun e => by have := (hiff.1 e).1; cases this); obtain ⟨ho, hbb, hrr⟩ := own_card (x := ⟨some ⟨ge, 0, none⟩, cp, d.xs⟩) hown hgrow HO3.out HB3.out (Nat.le_refl _) hw3 HR3.out; obtain ⟨g9, cap9, rfl⟩ := row_shape ho hv9; have HO9 := Lib.hid ho; have HB9 := Lib.hid hbb; have HR9 := Lib.hid hrr; clear hown hgrow hiff hv9 ho hbb hrr)
      case c3 => unfold maxLen; omega
      case c4 => omega
      case c5 => simp; omega
      go_roundw
      case rel => exact ⟨t + 1, cap9, g9, E ++ [(⟨some ⟨ge, 0, none⟩, cp, d.xs⟩ : CardV)], by omega, by go_num, rfl, by show _ = _; simp [HE.out], HH1.out _ rfl, HB9, HO9, HR9⟩
      case measure => simp [intOf]; omega
    · obtain rfl : t = n := by omega
      have t1 : ¬ (t : Int) < (t : Int) := by omega
      have hh : holes E = holes D := by rw [HS.out, List.take_of_length_le (by rw [holes_len, HN.out]; omega)]
      have HHH := Lib.hid hh
      clear hh
      go_wp2
      go_ret
      exact ⟨g, cap, E, rfl, HE.out, HHH.out, HB.out, HO.out, HR.out⟩

end Go.Proofs.Ytamookdlbmbncaa
