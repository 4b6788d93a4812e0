/- For every layout, deck and string, the law FnExactItemTotal returns true: impl.ItemTotal answers as spec.ItemTotal and leaves its arguments as they were. Condition: the three sentinel errors hold what the program's text lays in them (the card ties that). -/
import Derived.Test.YtmdgpkiicjmfhaaDoorTotalImpl
import Derived.Test.YtmdgpkiicjmfhaaDoorLayLaw
import Derived.Test.YtmdgpkiicjmfhaaDoorLawDeck
import Derived.Deep.RegionHeld3
import Derived.Test.YtmdgpkiicjmfhaaDoorCards
import Derived.Test.YtmdgpkiicjmfhaaDoorTie
import Derived.LaidMore
import Derived.OpenVars
import Derived.Stop.Joined
namespace Go.Proofs.YtmdgpkiicjmfhaaDoor.fnExactItemTotal
open Go.ChangeShapes Go.WideShapes Go.ChangeAt Go.RowKit
open Go.ChangeMaps (open_string)

theorem walk_long (A : Option Addr) (c n : Nat) (u : Int) (A' : Option Addr) (c' n' : Nat) (s : ByteArray) (w : World) (h : (1048576 : Int) < s.size) :
    Calls Tryd.prog 3 #[.agg #[.int .i64 u, .slice A n c], .slice A' n' c', .string s] w fun e w' => e = .returned (.bool true) ∧ Below w.heap.size w w' := by
  go_enter Tryd.func3, Tryd.ntmps3
  go_wp2
  go_ret
  exact ⟨rfl, below_box w _⟩

theorem walk_big (A : Option Addr) (c : Nat) (u : Int) (ds : List It) (A' : Option Addr) (c' n' : Nat) (s : ByteArray) (w : World) (h : Items w w.heap.size A ds) (hn : ds.length ≤ 9223372036854775807) (hs : ∀ d ∈ ds, d.name.size ≤ 9223372036854775807) (hs1 : (s.size : Int) ≤ 1048576) (hbig : 1048576 < ds.length + itSize ds) :
    Calls Tryd.prog 3 #[.agg #[.int .i64 u, .slice A ds.length c], .slice A' n' c', .string s] w fun e w' => e = .returned (.bool true) ∧ Below w.heap.size w w' := by
  have hz := fun (W : World) (hW : Items W w.heap.size A ds) (hBW : w.heap.size ≤ W.heap.size) => szLayout_big A c ds w.heap.size u 1048576 W hW hBW (by omega) hn hs hbig
  have HZ := Lib.hid hz
  obtain ⟨n, hN⟩ : ∃ n, ds.length = n := ⟨_, rfl⟩
  rw [hN] at HZ ⊢
  have H := Lib.hid h
  clear hz h hs hbig hN hn
  go_enter Tryd.func3, Tryd.ntmps3
  go_wp2_with fail
  refine (HZ.out _ (H.out.alloc (Nat.le_refl _) _) (by simp)).mono ?_
  rintro e w1 ⟨rfl, hb⟩
  have B1 := Lib.hid (below_step (below_box w _) hb)
  clear hb
  go_wp2
  go_ret
  exact ⟨rfl, B1.out⟩

theorem walk_wide (A : Option Addr) (c : Nat) (u : Int) (ds : List It) (A' : Option Addr) (c' : Nat) (D : List CardV) (s : ByteArray) (w : World) (h : Items w w.heap.size A ds) (h' : Deck w w.heap.size A' D) (hs1 : (s.size : Int) ≤ 1048576) (hfit : ds.length + itSize ds ≤ 1048576) (hn : D.length ≤ 9223372036854775807) (hl : ∀ d ∈ D, d.xs.length ≤ 9223372036854775807) (hbig : 1048576 < ds.length + itSize ds + szTo D D.length) :
    Calls Tryd.prog 3 #[.agg #[.int .i64 u, .slice A ds.length c], .slice A' D.length c', .string s] w fun e w' => e = .returned (.bool true) ∧ Below w.heap.size w w' := by
  have hz := fun (W : World) (hW : Items W w.heap.size A ds) (hBW : w.heap.size ≤ W.heap.size) => szLayout_fit A c ds w.heap.size u 1048576 W hW hBW (by omega) hfit
  obtain ⟨q, hq⟩ : ∃ q, 1048576 - ds.length - itSize ds = q := ⟨_, rfl⟩
  have hqi : (((1048576 : Nat) : Int) - ds.length - itSize ds) = (q : Int) := by omega
  rw [hqi] at hz
  have hd := fun (W : World) (hW : Deck W w.heap.size A' D) (hBW : w.heap.size ≤ W.heap.size) => szCards_big A' c' D q w.heap.size W hW hBW (by omega) (by omega) hn hl (by omega)
  have HZ := Lib.hid hz
  have HD := Lib.hid hd
  obtain ⟨n, hN⟩ : ∃ n, ds.length = n := ⟨_, rfl⟩
  obtain ⟨n', hN'⟩ : ∃ n', D.length = n' := ⟨_, rfl⟩
  rw [hN] at HZ ⊢
  rw [hN'] at HD ⊢
  have H := Lib.hid h
  have H' := Lib.hid h'
  have hq0 : ¬ (q : Int) < 0 := by omega
  clear hz hd h h' hbig hN hN' hn hl hfit hq hqi
  go_enter Tryd.func3, Tryd.ntmps3
  go_wp2_with fail
  refine (HZ.out _ (H.out.alloc (Nat.le_refl _) _) (by simp)).mono ?_
  rintro e w1 ⟨rfl, hb⟩
  have B1 := Lib.hid (below_step (below_box w _) hb)
  clear hb HZ
  go_wp2_with fail
  refine (HD.out _ (H'.out.below B1.out) B1.out.size).mono ?_
  rintro e w2 ⟨rfl, hb⟩
  have B2 := Lib.hid (below_step B1.out hb)
  clear hb HD
  go_wp2
  go_ret
  exact ⟨rfl, B2.out⟩

theorem caps_own {w : World} {g n : Nat} {E : List CardV} (h : OwnDeck w g E n) (hl : ∀ d ∈ E, d.xs.length ≤ 1048576) : ∀ d ∈ E, d.xs.length ≤ d.cap ∧ d.cap ≤ 9223372036854775807 := fun d hd => by
  obtain ⟨_, _, _, hc, _⟩ := h.each d hd
  have := hl d hd
  exact ⟨by omega, by omega⟩

set_option maxRecDepth 100000 in
set_option maxHeartbeats 4000000 in
theorem walk_small (A : Option Addr) (c : Nat) (u : Int) (ds : List It) (A' : Option Addr) (c' : Nat) (D : List CardV) (s : ByteArray) (w : World) (h : Items w w.heap.size A ds) (h' : Deck w w.heap.size A' D) (hs1 : s.size ≤ 1048576) (hfit : ds.length + itSize ds + szTo D D.length ≤ 1048576) {aL aF aM : Addr} (S : Sents w aL aF aM) :
    Calls Tryd.prog 3 #[.agg #[.int .i64 u, .slice A ds.length c], .slice A' D.length c', .string s] w fun e w' => e = .returned (.bool true) ∧ Below w.heap.size w w' := by

  have hz := fun (W : World) (hW : Items W w.heap.size A ds) (hBW : w.heap.size ≤ W.heap.size) => szLayout_fit A c ds w.heap.size u 1048576 W hW hBW (by omega) (by omega)
  obtain ⟨q, hq⟩ : ∃ q, 1048576 - ds.length - itSize ds = q := ⟨_, rfl⟩
  have hqi : (((1048576 : Nat) : Int) - ds.length - itSize ds) = (q : Int) := by omega
  rw [hqi] at hz
  have hzd := fun (W : World) (hW : Deck W w.heap.size A' D) (hBW : w.heap.size ≤ W.heap.size) => szCards_small A' c' D q w.heap.size W hW hBW (by omega) (by omega)
  have hzq : (szTo D D.length : Int) ≤ q := by omega
  obtain ⟨t, ht⟩ : ∃ t, szTo D D.length = t := ⟨_, rfl⟩
  have hl : ds.length ≤ 1048576 := by omega
  have hs : ∀ d ∈ ds, d.name.size ≤ 1048576 := fun d hd => by
    obtain ⟨k, hk⟩ := List.getElem?_of_mem hd
    have := itSize_at ds k d hk
    omega
  have hlD : D.length ≤ 1048576 := by have := szTo_len D; omega
  have hxD : ∀ d ∈ D, d.xs.length ≤ 1048576 := fun d hd => by have := szTo_each D d hd; omega
  rw [ht] at hzd hzq
  have hge : ¬ ((q : Int) - (t : Int)) < 0 := by omega
  have htl := fun (W : World) (hW : Items W w.heap.size A ds) (hBW : w.heap.size ≤ W.heap.size) => toLayout_any A c ds w.heap.size u W hW hBW hl
  obtain ⟨n, hN⟩ : ∃ n, ds.length = n := ⟨_, rfl⟩
  obtain ⟨n', hN'⟩ : ∃ n', D.length = n' := ⟨_, rfl⟩
  have HTC : Hid (∀ W : World, w.heap.size ≤ W.heap.size → Deck W w.heap.size A' D → Calls Tryd.prog 9 #[.slice A' n' c'] W fun e w' => ∃ g E, holes E = holes D ∧ e = .returned (.slice (some ⟨g, 0, none⟩) n' n') ∧ W.heap.size ≤ g ∧ Below W.heap.size W w' ∧ OwnDeck w' g E n') := fun W hW hD => by
    have := toCards_any A' c' D w.heap.size W hD hW (by omega) hxD
    rw [hN'] at this
    refine this.mono ?_
    rintro e w' ⟨he, E, hE, _, hb, ho⟩
    exact ⟨_, E, hE, he, Nat.le_refl _, hb, ho⟩
  obtain ⟨v1, hv1⟩ : ∃ v, totV u ds s (holes D) = v := ⟨_, rfl⟩
  obtain ⟨v2, hv2⟩ : ∃ v, totC u ds s (holes D) = v := ⟨_, rfl⟩
  have HSP : Hid (∀ (W : World) (g gd : Nat) (E : List CardV), IRow W g ds [] → holes E = holes D → OwnDeck W gd E n' → Calls Tryd.prog 7 #[.agg #[.int .i64 u, .slice (some ⟨g, 0, none⟩) n n], .slice (some ⟨gd, 0, none⟩) n' n', .string s] W fun e w' => e = .returned (.tuple #[.int .i64 v1, .int .i64 v2]) ∧ Below W.heap.size W w') := fun W g gd E hW hE hO => by
    have hEn : E.length = n' := (holes_length hE).trans hN'
    have hlE := holes_each hE hxD
    have := specTotal_any s u (some ⟨g, 0, none⟩) ds.length ds (some ⟨gd, 0, none⟩) n' E (g + 1) W.heap.size W hW.items (hO.deck' hEn) hW.lt (Nat.le_refl _) hl (by omega) hlE (caps_own hO hlE)
    rwa [hE, hv1, hv2, hEn, hN] at this
  have HIM : Hid (∀ (W : World) (g gd : Nat) (E : List CardV), Below w.heap.size w W → IRow W g ds [] → holes E = holes D → OwnDeck W gd E n' → Calls Tryd.prog 10 #[.agg #[.int .i64 u, .slice (some ⟨g, 0, none⟩) n n], .slice (some ⟨gd, 0, none⟩) n' n', .string s] W fun e w' => e = .returned (.tuple #[.int .i64 v1, .int .i64 v2]) ∧ Below W.heap.size W w') := fun W g gd E hb hW hE hO => by
    have hEn : E.length = n' := (holes_length hE).trans hN'
    have hlE := holes_each hE hxD
    have := implTotal_any s u (some ⟨g, 0, none⟩) ds.length ds (some ⟨gd, 0, none⟩) n' E (g + 1) W.heap.size W hW.items (hO.deck' hEn) hW.lt (Nat.le_refl _) hl (by omega) hlE (Nat.le_refl _) hs hs1 (caps_own hO hlE) (S.below hb)
    rwa [hE, hv1, hv2, hEn, hN] at this
  have HEC : Hid (∀ (W : World) (E F : List CardV) (g f : Nat), holes E = holes D → holes F = holes D → OwnDeck W g E n' → OwnDeck W f F n' → Calls Tryd.prog 12 #[.slice (some ⟨g, 0, none⟩) n' n', .slice (some ⟨f, 0, none⟩) n' n'] W fun e w' => e = .returned (.bool true) ∧ Below W.heap.size W w') := fun W E F g f hE hF hO hP => by
    have hEn : E.length = n' := (holes_length hE).trans hN'
    have hFn : F.length = n' := (holes_length hF).trans hN'
    have := eqCards_any (some ⟨g, 0, none⟩) (some ⟨f, 0, none⟩) n' n' E F W.heap.size W.heap.size W (hO.deck' hEn) (hP.deck' hFn) (Nat.le_refl _) (Nat.le_refl _) (by omega) (by omega) (holes_each hE hxD) (holes_each hF hxD)
    rw [hE, hF, hEn, hFn] at this
    simpa using this
  have he := fun (W : World) (g g' : Nat) (hW : IRow W g ds []) (hW' : IRow W g' ds []) => eqLayout_same (some ⟨g, 0, none⟩) (some ⟨g', 0, none⟩) ds.length ds.length u ds (g + 1) (g' + 1) W hW.items hW'.items hW.lt hW'.lt hl
  unfold GivesLay at htl
  have H := Lib.hid h
  have H' := Lib.hid h'
  have HZ := Lib.hid hz
  have HZD := Lib.hid hzd
  have HT := Lib.hid htl
  have HE := Lib.hid he
  have hq0 : ¬ (q : Int) < 0 := by omega
  rw [hN] at HZ HT HE ⊢
  rw [hN'] at HZD ⊢
  have hs2 : (s.size : Int) ≤ 1048576 := by omega
  clear hz hzd htl he h h' hfit hq hqi hzq hl hN hN' hs hs1 hlD hxD hv1 hv2 S ht
  go_enter Tryd.func3, Tryd.ntmps3
  go_wp2_with fail
  refine (HZ.out _ (H.out.alloc (Nat.le_refl _) _) (by simp)).mono ?_
  rintro e w1 ⟨rfl, hb⟩
  have B1 := Lib.hid (below_step (below_box w _) hb)
  have a1 := cell_kept (p := ⟨w.heap.size, 0, none⟩) (v := .int .i64 u) (by simp [go_sem]) hb
  have b1 := cell_kept (p := ⟨w.heap.size, 1, none⟩) (v := .slice A n c) (by simp [go_sem]) hb
  clear hb HZ
  go_wp2_with fail
  refine (HZD.out _ (H'.out.below B1.out) B1.out.size).mono ?_
  rintro e w1' ⟨rfl, hb⟩
  have B1' := Lib.hid (below_step B1.out hb)
  have a1' := cell_kept a1 hb
  have b1' := cell_kept b1 hb
  clear hb HZD B1 a1 b1
  go_wp2_with fail
  refine (HT.out _ (H.out.below B1'.out) B1'.out.size).mono ?_
  rintro e w2 ⟨g2, rfl, hg2, hb, hrow⟩
  have B2 := Lib.hid (below_step B1'.out hb)
  have a2 := cell_kept a1' hb
  have b2 := cell_kept b1' hb
  have R2 := Lib.hid hrow
  clear hb hrow B1' a1' b1' hg2
  go_wp2_with fail
  refine (HTC.out _ B2.out.size (H'.out.below B2.out)).mono ?_
  rintro e w3 ⟨d3, E3, hE3, rfl, _, hb, ho⟩
  have B3 := Lib.hid (below_step B2.out hb)
  have a3 := cell_kept a2 hb
  have b3 := cell_kept b2 hb
  have R3 := Lib.hid (R2.out.later hb)
  have O3 := Lib.hid ho
  have HE3 := Lib.hid hE3
  clear hb ho hE3 B2 a2 b2 R2
  go_wp2_with fail
  refine (HSP.out _ g2 d3 E3 R3.out HE3.out O3.out).mono ?_
  rintro e w4 ⟨rfl, hb⟩
  have B4 := Lib.hid (below_step B3.out hb)
  have a4 := cell_kept a3 hb
  have b4 := cell_kept b3 hb
  clear hb B3 a3 b3 R3 O3 HE3
  go_wp2_with fail
  refine (HT.out _ (H.out.below B4.out) B4.out.size).mono ?_
  rintro e w5 ⟨g5, rfl, hg5, hb, hrow⟩
  have B5 := Lib.hid (below_step B4.out hb)
  have a5 := cell_kept a4 hb
  have b5 := cell_kept b4 hb
  have R5 := Lib.hid hrow
  clear hb hrow B4 a4 b4 hg5
  have hb := below_box w5 (.cells #[.int .i64 u, .slice (some ⟨g5, 0, none⟩) n n] 32)
  have B6 := Lib.hid (below_step B5.out hb)
  have a6 := cell_kept a5 hb
  have b6 := cell_kept b5 hb
  have R6 := Lib.hid (R5.out.later hb)
  have x6 : (w5.alloc (.cells #[.int .i64 u, .slice (some ⟨g5, 0, none⟩) n n] 32)).cell? ⟨w5.heap.size, 0, none⟩ = some (.int .i64 u) := by simp [go_sem]
  have y6 : (w5.alloc (.cells #[.int .i64 u, .slice (some ⟨g5, 0, none⟩) n n] 32)).cell? ⟨w5.heap.size, 1, none⟩ = some (.slice (some ⟨g5, 0, none⟩) n n) := by simp [go_sem]
  clear hb B5 a5 b5 R5
  go_wp2_with fail
  refine (HTC.out _ B6.out.size (H'.out.below B6.out)).mono ?_
  rintro e w7 ⟨d7, E7, hE7, rfl, _, hb, ho⟩
  have B7 := Lib.hid (below_step B6.out hb)
  have a7 := cell_kept a6 hb
  have b7 := cell_kept b6 hb
  have x7 := cell_kept x6 hb
  have y7 := cell_kept y6 hb
  have R7 := Lib.hid (R6.out.later hb)
  have O7 := Lib.hid ho
  have HE7 := Lib.hid hE7
  clear hb ho hE7 B6 a6 b6 x6 y6 R6
  go_wp2_with fail
  refine (HIM.out _ g5 d7 E7 B7.out R7.out HE7.out O7.out).mono ?_
  rintro e w8 ⟨rfl, hb⟩
  have B8 := Lib.hid (below_step B7.out hb)
  have a8 := cell_kept a7 hb
  have b8 := cell_kept b7 hb
  have x8 := cell_kept x7 hb
  have y8 := cell_kept y7 hb
  have R8 := Lib.hid (R7.out.later hb)
  have O8 := Lib.hid (O7.out.later hb)
  clear hb B7 a7 b7 x7 y7 R7 O7
  go_wp2
  go_region_held3 (fun W => W.cell? ⟨w.heap.size, 0, none⟩ = some (.int .i64 u) ∧ W.cell? ⟨w.heap.size, 1, none⟩ = some (.slice A n c) ∧ W.cell? ⟨w5.heap.size, 0, none⟩ = some (.int .i64 u) ∧ W.cell? ⟨w5.heap.size, 1, none⟩ = some (.slice (some ⟨g5, 0, none⟩) n n))
    (first | exact ⟨a8, b8, x8, y8⟩ | exact ⟨a9, b9, x9, y9⟩ | exact ⟨a10, b10, x10, y10⟩)
    (first
      | (go_at_call 8
         refine (HT.out _ ?_ ?_).mono ?_
         · exact H.out.below B8.out.drew
         · exact B8.out.drew.size
         rintro e w9 ⟨ge, rfl, hge, hb, hrow⟩
         have B9 := Lib.hid (below_step B8.out.drew hb)
         have a9 := cell_kept (w := w8.drew) a8 hb
         have b9 := cell_kept (w := w8.drew) b8 hb
         have x9 := cell_kept (w := w8.drew) x8 hb
         have y9 := cell_kept (w := w8.drew) y8 hb
         have R9 := Lib.hid (R8.out.drew.later hb)
         have O9 := Lib.hid (O8.out.drew.later hb)
         have T9 := Lib.hid hrow
         clear hb hrow hge)
      | (go_at_call 11
         refine (HE.out _ g5 ge ?_ ?_).mono ?_
         · exact R9.out
         · exact T9.out
         rintro e w10 ⟨rfl, hb⟩
         have B10 := Lib.hid (below_step B9.out hb)
         have a10 := cell_kept a9 hb
         have b10 := cell_kept b9 hb
         have x10 := cell_kept x9 hb
         have y10 := cell_kept y9 hb
         have O10 := Lib.hid (O9.out.later hb)
         clear hb))
  go_wp2_with fail
  refine (HTC.out _ B10.out.size (H'.out.below B10.out)).mono ?_
  rintro e w11 ⟨d11, E11, hE11, rfl, _, hb, ho⟩
  have B11 := Lib.hid (below_step B10.out hb)
  have O11 := Lib.hid (O10.out.later hb)
  have P11 := Lib.hid ho
  have HE11 := Lib.hid hE11
  clear hb ho hE11
  go_wp2_with fail
  refine (HEC.out _ E7 E11 d7 d11 HE7.out HE11.out O11.out P11.out).mono ?_
  rintro e w12 ⟨rfl, hb⟩
  have B12 := Lib.hid (below_step B11.out hb)
  clear hb
  go_wp2
  go_ret
  exact ⟨rfl, B12.out⟩

theorem gL : Tryd.prog.globalNamed "loop.example/g01012/impl.errLong" = some 1 := by kernel_rfl
theorem gLT : (Tryd.prog.globals[1]?).map (·.type) = some 72 := by kernel_rfl
theorem gF : Tryd.prog.globalNamed "loop.example/g01012/impl.errForeign" = some 3 := by kernel_rfl
theorem gFT : (Tryd.prog.globals[3]?).map (·.type) = some 72 := by kernel_rfl
theorem gM : Tryd.prog.globalNamed "loop.example/g01012/impl.errNoMeaning" = some 2 := by kernel_rfl
theorem gMT : (Tryd.prog.globals[2]?).map (·.type) = some 72 := by kernel_rfl
theorem star : "*" ++ "errors.errorString" = "*errors.errorString" := by decide
theorem rowE (u : TypeId) (h : Tryd.prog.typeName? 3 u = some "*errors.errorString") : u = 172 :=
  typeName_ptr_named (nm := "errors.errorString") (by rw [star]; kernel_rfl) (by kernel_rfl) (by decide) u (by rw [star]; exact h)
theorem cellsE : Tryd.prog.cellsOf 195 = 1 := by kernel_rfl
theorem cellsS : Tryd.prog.cellsOf 9 = 1 := by kernel_rfl

/-- What the row's list gives: three sentinels. -/
theorem sents_of {W : World} (h : laidMetH Tryd.prog Rows.fnExactItemTotalRow.laid W) : ∃ aL aF aM, Sents W aL aF aM := by
  obtain ⟨a0, a1, a2, c0, c1, c2, t0, t1, t2, h0, h1, h2, n01, n02, n12, b0, b1, b2⟩ := laid_three (show laidMet Tryd.prog Rows.fnExactItemTotalRow.laid W from h) gL gLT gF gFT gM gMT Tryd.underlying72 rowE Tryd.underlying172 Tryd.underlying195 rfl rfl Tryd.underlying9 cellsE cellsS
  exact ⟨a0, a1, a2, ⟨by simpa using World.var?_cell gL h0 0, c0, t0, b0⟩, ⟨by simpa using World.var?_cell gF h1 0, c1, t1, b1⟩, ⟨by simpa using World.var?_cell gM h2 0, c2, t2, b2⟩, n01, n02, n12⟩


theorem walk (u : Int) (A : Option Addr) (c : Nat) (ds : List It) {w : World} (h : Items w w.heap.size A ds) (hn : ds.length ≤ 9223372036854775807) (hs : ∀ d ∈ ds, d.name.size ≤ 9223372036854775807) (A' : Option Addr) (c' : Nat) (D : List CardV) (h' : Deck w w.heap.size A' D) (hl' : D.length ≤ 9223372036854775807 ∧ ∀ d ∈ D, d.xs.length ≤ 9223372036854775807) (s : ByteArray) (_ : s.size ≤ maxLen) (W : World) (e1 : w = W) (hL : laidMetH Tryd.prog Rows.fnExactItemTotalRow.laid W) :
    Calls Tryd.prog 3 #[.agg #[.int .i64 u, .slice A ds.length c], .slice A' D.length c', .string s] W fun e w' => e = .returned (.bool true) ∧ Below W.heap.size W w' := by
  subst e1
  obtain ⟨aL, aF, aM, hS⟩ := sents_of hL
  by_cases h0 : (1048576 : Int) < s.size
  · exact walk_long A c ds.length u A' c' D.length s w h0
  · by_cases h1 : 1048576 < ds.length + itSize ds
    · exact walk_big A c u ds A' c' D.length s w h hn hs (by omega) h1
    · by_cases h2 : 1048576 < ds.length + itSize ds + szTo D D.length
      · exact walk_wide A c u ds A' c' D s w h h' (by omega) (by omega) hl'.1 hl'.2 h2
      · exact walk_small A c u ds A' c' D s w h h' (by omega) (by omega) hS

/-- The door's own heap meets the condition: three closed facts. -/
theorem door_met (os : Os) (args : Array Value) : laidMetH Tryd.prog Rows.fnExactItemTotalRow.laid ((World.doorLaid Tryd.prog 4000 os).forCall (fun _ _ => 0) ⟨#[], args, []⟩).memory :=
  laidMetH_of_parts3 (fuel := 8) (laidMet_of_run' 8 (by kernel_rfl) (by kernel_rfl)) (by kernel_rfl) (by kernel_rfl)

set_option maxRecDepth 100000 in
theorem lifted (os : Os) (started : os.Started) (H : Type) (enc : TypeId × Value → H) :
    ReturnsInHanded {} Tryd.checked os 3 .any (fun w args => (Rows.fnExactItemTotalSpec.pre enc Tryd.prog Tryd.f3 [] false w args ∧ laidMetH Tryd.prog Rows.fnExactItemTotalRow.laid w) ∧ sizedMet enc Tryd.prog Tryd.f3 (OpenSpec.ofChange Rows.fnExactItemTotalSpec) false w args)
      (Rows.fnExactItemTotalSpec.post enc Tryd.prog Tryd.f3 false true false false) := by
  refine returnsInHanded_of_change_and (C := Tryd.checked) (X := fun w _ => laidMetH Tryd.prog Rows.fnExactItemTotalRow.laid w) (fun _ _ _ hh h => h.of_heap hh) own started (by kernel_rfl) Tryd.func3
    (ChangeSpec.witness_shaped (enc := enc) (C := Tryd.checked) (os := os) (X := fun w _ => laidMetH Tryd.prog Rows.fnExactItemTotalRow.laid w) false (World.doorLaid Tryd.prog 4000 os) #[.agg #[.int .i64 0, .slice none 0 0], .slice none 0 0, .string ByteArray.empty] 8 rfl (World.shaped_of_RefB (by kernel_rfl) (by kernel_rfl)) (by kernel_rfl) (by kernel_rfl) (by kernel_rfl) (door_met os _)) ?_
  intro W base args ds gs before hval0 hW _ _ hL _
  have hval : ∀ (j : Nat) t v, Tryd.f3.params[j]? = some t → args[j]? = some v → Value.okWide Tryd.prog W .any base t v := hval0
  have hW' := hW
  obtain ⟨p, q, hA0, hV, rfl, _, _⟩ := hW
  have hA : DataW.TrodAll enc Tryd.prog W 0 (fun _ => true) true Tryd.f3.params.toList args.toList ds p := hA0
  rw [Tryd.params3] at hA hval
  obtain ⟨v0, vs0, d0, ds0, p0, q0, hargs, rfl, rfl, h0, r0⟩ := trodAll_cons hA
  obtain ⟨v1, vs1, d1, ds1, p1, q1, rfl, rfl, rfl, h1, r1⟩ := trodAll_cons r0
  obtain ⟨v2, vs2, d2, ds2, p2, q2, rfl, rfl, rfl, h2, r2⟩ := trodAll_cons r1
  obtain ⟨rfl, rfl, rfl⟩ := trodAll_nil r2
  obtain rfl : args = #[v0, v1, v2] := by cases args; simp_all
  obtain ⟨g1, g2, g3, rfl⟩ : ∃ g1 g2 g3, gs = [g1, g2, g3] := by
    clear hL hW' hA hval
    match gs, hV with
    | [], h => exact h.elim
    | [_], ⟨_, _, _, _, _, _, _, _, _, _, h, _⟩ => exact h.elim
    | [_, _], ⟨_, _, _, _, _, _, _, _, _, _, ⟨_, _, _, _, _, _, _, _, _, _, h, _⟩, _⟩ => exact h.elim
    | [g1, g2, g3], _ => exact ⟨g1, g2, g3, rfl⟩
    | _ :: _ :: _ :: _ :: _, ⟨_, _, _, _, _, _, _, _, _, _, ⟨_, _, _, _, _, _, _, _, _, _, ⟨_, _, _, _, _, _, _, _, _, _, h, _⟩, _⟩, _⟩ => exact h.elim
  obtain ⟨u0, A0, c0, ds0', rfl, wu0, i0, l0, z0⟩ := open_layout (hval 0 24 v0 rfl rfl) h0
  obtain ⟨A1, c1, D1, rfl, i1, l1⟩ := open_deck (hval 1 25 v1 rfl rfl) h1
  obtain ⟨s2, rfl, rfl, rfl, hs2⟩ := open_string Tryd.underlying9 (hval 2 9 v2 rfl rfl) h2
  refine (walk u0 A0 c0 ds0' i0 l0 z0 A1 c1 D1 i1 l1 s2 hs2 W rfl hL).mono fun e W' ⟨he, hb⟩ => ?_
  subst he
  have hread : ∀ t ∈ Tryd.f3.params.toList, Tryd.prog.readableRec t = true ∧ t < Tryd.prog.types.size := by
    intro t ht
    rw [Tryd.params3] at ht
    have ht' : t = 24 ∨ t = 25 ∨ t = 9 := by simpa using ht
    rcases ht' with rfl | rfl | rfl <;> exact ⟨by kernel_rfl, of_decide_eq_true (by kernel_rfl)⟩
  have hlt := fun x hx => hW'.lt x (List.mem_append_left q hx)
  refine ⟨_, rfl, _, [g1, g2, g3], _, [], _, q, hW', ?_, args_stay hread hA0 (fun x hx => hb.same (hlt x hx)) (fun x hx => by simpa using hlt x hx), ?_, ?_, fun h => by cases h⟩
  · exact trodAll_mk1 (shut_bool Tryd.underlying4 true)
  · exact Below.trodVars laidOut hb (by kernel_rfl) hV
  · exact World.keptBut_mono (fun x hx => ⟨hx, by rcases List.mem_append.1 hx with h' | h' <;> first | exact Or.inr (Or.inl h') | exact Or.inr (Or.inr h') | exact Or.inr (Or.inr (by simpa using h'))⟩) (hb.frame (· ∈ _))

theorem said : Rows.FnExactItemTotalSaid :=
  OpenClaim.holds_of_wide 3 Tryd.f3 rfl rfl rfl rfl rfl rfl rfl ⟨rfl, rfl, rfl, rfl, rfl⟩ rfl rfl rfl rfl rfl (by kernel_rfl) Tryd.func3 (by kernel_rfl)
    (of_decide_eq_true (by kernel_rfl)) (by unfold Func.isWrapper; first | (rw [if_pos (by decide +kernel)]; kernel_rfl) | (rw [if_neg (by decide +kernel)]; exact ⟨rfl, rfl⟩))
    (fun os started H enc _ => lifted os started H enc)

/-- No parameter wants a stand-in; the program's own looks are as the card says. -/
theorem plain (f : FuncId) (fn : Func) (hf : Tryd.pinned.checked.prog.funcNamed "loop.example/g01012/laws.FnExactItemTotal" = some f) (hfn : Tryd.pinned.checked.prog.funcs[f]? = some fn) :
    Rows.fnExactItemTotalCard.stood.looks = Tryd.pinned.checked.prog.looks [] ∧ ∀ (j : Nat) t, fn.params[j]? = some t → Tryd.pinned.checked.prog.wantsStandIn t = false := by
  obtain rfl : f = 3 := Option.some.inj ((show Tryd.prog.funcNamed "loop.example/g01012/laws.FnExactItemTotal" = some 3 by kernel_rfl).symm.trans hf) |>.symm
  obtain rfl : fn = Tryd.f3 := (Option.some.inj (Tryd.func3.symm.trans hfn)).symm
  refine ⟨by kernel_rfl, fun j t ht => ?_⟩
  rw [Tryd.params3] at ht
  have hm : t ∈ [24, 25, 9] := by simpa using Array.mem_of_getElem? ht
  have hall : ([24, 25, 9].all fun u => !Tryd.prog.wantsStandIn u) = true := by kernel_rfl
  exact (show Tryd.prog.wantsStandIn t = false by simpa using List.all_eq_true.1 hall t hm)

theorem proved : Rows.FnExactItemTotalCardSaid :=
  Claim7.holds_tied_plain_at .later [] _ _ _ _ said (fun _ h => by cases h) (by kernel_rfl) (fun _ h => by cases h) fnExactItemTotal_row_tie rfl ⟨rfl, rfl⟩ (by kernel_rfl) rfl plain (by kernel_rfl)
end Go.Proofs.YtmdgpkiicjmfhaaDoor.fnExactItemTotal
