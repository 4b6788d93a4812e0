/- spec.CounterText and impl.CounterText give the digits of a counter, the highest one first, for every counter of at most 1048576 digits: contracts. Condition: the table of powers of ten lies in its variable. -/
import Derived.Test.YtkiphejkgpfjjaaDoorCntBack
import Derived.Test.YtkiphejkgpfjjaaDoorFormat
import Derived.Test.YtkiphejkgpfjjaaDoorOwnMem
import Derived.Shelf.Strconv.AppendIntPublic10
import Derived.Lib.AppendIntMem
import Derived.Lib.OthersKept
import Derived.Laws.IdiomStrings
import Derived.Laws.AppendOwn
namespace Go.Proofs.YtkiphejkgpfjjaaDoor
open Go.ChangeShapes Go.WideShapes Go.ChangeAt Go.RowKit

attribute [local go_sem] Oper.semAt_some

/-- the byte of a digit -/
def dgB (x : Int) : UInt8 := UInt8.ofNat (48 + x.toNat)
/-- the bytes of the digits that have come, by their rounds -/
def foldT (xs : List Int) (n : Nat) (pre : List Nat) : List UInt8 := pre.map fun t => dgB (xs[n - 1 - t]?.getD 0)
/-- the bytes of a counter's text -/
def textK (xs : List Int) : List UInt8 := foldT xs xs.length (List.range xs.length)
theorem foldT_snoc (xs : List Int) (n : Nat) (pre : List Nat) (t : Nat) : foldT xs n (pre ++ [t]) = foldT xs n pre ++ [dgB (xs[n - 1 - t]?.getD 0)] := by simp [foldT]
theorem foldT_length (xs : List Int) (n : Nat) (pre : List Nat) : (foldT xs n pre).length = pre.length := by simp [foldT]
theorem itoa_digit {d : Int} (h : 0 ≤ d ∧ d ≤ 9) : Lib.itoa d = [dgB d] := by
  have h1 : ¬ d < 0 := by omega
  rw [Lib.itoa, if_neg h1, Lib.decDigits_one (by omega)]
  rfl
/-- the text that is told -/
def textA (xs : List Int) : ByteArray := if okK xs = true then ⟨(textK xs).toArray⟩ else ⟨#[]⟩

theorem info_u8K : (Tryd.prog.info? 5).map (fun i => (i.zero, i.size, i.bytes)) = some (some (.int .u8 0), 1, 1) := by kernel_rfl
theorem own_convK {w : World} {base : Nat} {v : Value} {l : List UInt8} (h : w.ownsRow base 5 1 v l.length (Lib.byteCells l)) (h0 : 0 < l.length) :
    (convert 110 9 v).run Tryd.prog w = .ok (.string ⟨l.toArray⟩) w := by
  rcases h.2 with ⟨_, hz⟩ | ⟨g, cap, cur, rfl, hb, hg, hr⟩
  · omega
  · refine run_convert_bytes_back w 110 9 5 ⟨g, 0, none⟩ cap l Tryd.underlying110 Tryd.underlying5 Tryd.underlying9 (fun j hj => ?_)
    have := h.cells (g := g) rfl j (.int .u8 l[j].toNat) (by simp [Lib.byteCells, hj])
    simpa [Addr.add] using this

set_option maxRecDepth 100000 in
set_option maxHeartbeats 2000000 in
theorem l11Text_any (A : Option Addr) (c : Nat) (xs : List Int) (B p o : Nat) (w : World) (hp : w.cell? ⟨p, o, none⟩ = some (.slice A xs.length c)) (h : Ints w B A xs) (hB : B ≤ w.heap.size) (hv : wheelsB xs = true) (h1 : 1 ≤ xs.length) (hn : xs.length ≤ 12) :
    Calls Tryd.prog 51 #[.pointer (some ⟨p, o, none⟩)] w fun e w' => e = .returned (.string ⟨(textK xs).toArray⟩) ∧ Below w.heap.size w w' := by
  obtain ⟨i0, hi0, hz0, hz1, hz2⟩ := info_parts info_u8K
  obtain ⟨n, hN⟩ : ∃ n, xs.length = n := ⟨_, rfl⟩
  obtain ⟨r, hr⟩ : ∃ r : ByteArray, (⟨(textK xs).toArray⟩ : ByteArray) = r := ⟨_, rfl⟩
  have hall : textK xs = foldT xs n (List.range n) := by rw [textK, hN]
  rw [hr]
  rw [hN] at hn hp h1
  have H := Lib.hid h
  have HN := Lib.hid hN
  have HV := Lib.hid hv
  have HR : Hid (r = ⟨(foldT xs n (List.range n)).toArray⟩) := by show _ = _; rw [← hr, hall]
  have w1 : IntKind.i64.wrap ((n : Int) - 1) = (n : Int) - 1 := IntWalk.i64_in _ (by omega)
  have p1 := cell_kept hp (below_box w (.cells #[] 5))
  have HP := Lib.hid hp
  have HBw := Lib.hid hB
  clear h hN hv hr hall hp hB
  go_enter Tryd.func51, Tryd.ntmps51
  go_wp2
  clear w1 p1
  go_loopw [3, 4] (fun v i wr => ∃ t : Nat, ∃ vv : Value, t ≤ n ∧ i = .int .i64 ((n : Int) - 1 - t) ∧ vv = v ∧ Hid (wr.ownsRow w.heap.size 5 1 v (foldT xs n (List.range t)).length (Lib.byteCells (foldT xs n (List.range t)))) ∧ Hid (Below w.heap.size w wr)) (fun _ i _ => (intOf i + 1).toNat)
  case atStart =>
    refine ⟨0, _, Nat.zero_le _, by simp, rfl, ?_, below_box w _⟩
    exact ⟨rfl, Or.inr ⟨w.heap.size, 0, #[], rfl, Nat.le_refl _, heap_alloc_new w _, Nat.le_refl _, Nat.zero_le _, rfl, rfl⟩⟩
  case round =>
    obtain ⟨t, vv, ht, rfl, rfl, HW, HB⟩ := hrel
    have hwr : w.heap.size ≤ wr.heap.size := HB.out.size
    have hfl := foldT_length xs n (List.range t)
    rw [List.length_range] at hfl
    by_cases hlt : t < n
    · obtain ⟨k, hk⟩ : ∃ k : Nat, n - 1 - t = k := ⟨_, rfl⟩
      have hki : (n : Int) - 1 - (t : Int) = (k : Int) := by omega
      have hx : k < xs.length := by rw [HN.out]; omega
      obtain ⟨b, off, rfl, hb, hcell⟩ := (H.out.below (HB.out.mono HBw.out)) (by omega)
      have x0 := hcell k hx
      have hd := wheels_at HV.out k
      have hst := foldT_snoc xs n (List.range t) t
      rw [← List.range_succ, hk] at hst
      have q0 := cell_kept HP.out HB.out
      obtain ⟨x, hxx⟩ : ∃ x, xs[k]?.getD 0 = x := ⟨_, rfl⟩
      rw [hxx] at x0 hd hst
      have w2 : IntKind.i64.wrap (48 + x) = 48 + x := IntWalk.i64_in _ (by omega)
      have w3 : IntKind.u8.wrap (48 + x) = 48 + x := IntWalk.u8_in _ (by omega)
      have w4 : IntKind.i64.wrap ((k : Int) - 1) = (k : Int) - 1 := IntWalk.i64_in _ (by omega)
      have hdg : ((dgB x).toNat : Int) = 48 + x := by unfold dgB; rw [UInt8.toNat_ofNat']; omega
      have j0 : (0 : Int) ≤ (k : Int) := Int.natCast_nonneg _
      have j1 : (k : Int) < (n : Int) := by omega
      have HST := Lib.hid hst
      have HDG := Lib.hid hdg
      have HOW := HW.out
      rw [hfl] at HOW
      have HOWN := Lib.hid HOW
      have HFL := Lib.hid hfl
      have HKT : Hid ((k : Int) - 1 = (n : Int) - 1 - ((t + 1 : Nat) : Int)) := by show _ = _; omega
      rw [hki]
      clear hcell hxx hst hd hx hk hki hdg HOW hfl
      go_wp2_with (at_builtin; refine wpList_append_own _ rfl _ _ 110 rfl w.heap.size 5 i0 (.int .u8 0) 1 1 Tryd.underlying110 hi0 hz0 hz1 hz2 rfl (by decide) _ _ _ rfl (HOWN.out.alloc _) ⟨wr.heap.size, 0, none⟩ 1 1 [.int .u8 (48 + x)] rfl rfl ?c1 ?c2 ?c3 ?c4 ?c5 ?_; rotate_left 5; intro v' w9 hown hgrow _; have HO9 := Lib.hid hown; have HB9 := Lib.hid (below_append HB.out hgrow HOWN.out hwr (Nat.le_refl _)); clear hown hgrow)
      case c1 =>
        intro j u hj
        match j, hj with
        | 0, hj => simp at hj; subst hj; simp [Addr.add]
      case c2 => intro u hu; simp at hu; subst hu; rfl
      case c3 => unfold maxLen; omega
      case c4 => omega
      case c5 => first | omega | (simp; omega)
      go_roundw
      case rel =>
        refine ⟨t + 1, _, by omega, by rw [HKT.out], rfl, ?_, HB9.out⟩
        show World.ownsRow _ _ _ _ _ _ _
        rw [HST.out, List.length_append, HFL.out]
        have e : Lib.byteCells (foldT xs n (List.range t) ++ [dgB x]) = Lib.byteCells (foldT xs n (List.range t)) ++ [.int .u8 (48 + x)] := by simp [Lib.byteCells, HDG.out]
        rw [e]
        exact HO9.out
      case measure => first | (simp [intOf]; done) | (simp [intOf]; omega)
    · obtain rfl : t = n := by omega
      have hki : (t : Int) - 1 - (t : Int) = -1 := by omega
      have hconv := own_convK HW.out (by rw [hfl]; omega)
      rw [← HR.out] at hconv
      rw [hki]
      clear hfl hki
      go_wp2
      go_ret
      exact ⟨rfl, HB.out⟩

theorem specText_any (A : Option Addr) (c : Nat) (xs : List Int) (B : Nat) (w : World) (h : Ints w B A xs) (hB : B ≤ w.heap.size) (hn : xs.length ≤ 1048576) :
    Calls Tryd.prog 26 #[.agg #[.slice A xs.length c]] w fun e w' => e = .returned (.string (textA xs)) ∧ Below w.heap.size w w' := by
  have e1 := below_box w (.cells #[.slice A xs.length c] 24)
  have hc := l11Ok_any A c xs B w.heap.size 0 (w.alloc (.cells #[.slice A xs.length c] 24)) (by simp [go_sem]) (h.below (e1.mono hB)) hn
  cases hv : okK xs
  · rw [hv] at hc
    have ha : textA xs = ⟨#[]⟩ := by simp [textA, hv]
    rw [ha]
    have HC := Lib.hid hc
    have E1 := Lib.hid e1
    clear hc e1 h hv ha
    go_enter Tryd.func26, Tryd.ntmps26
    go_wp2_with (go_at_call 50; refine HC.out.mono ?_; rintro e w1 ⟨rfl, rfl⟩)
    go_ret
    exact ⟨rfl, E1.out⟩
  · rw [hv] at hc
    obtain ⟨hw, h1, h12⟩ := okK_parts hv
    have ha : textA xs = ⟨(textK xs).toArray⟩ := by simp [textA, hv]
    have hvl := l11Text_any A c xs B w.heap.size 0 (w.alloc (.cells #[.slice A xs.length c] 24)) (by simp [go_sem]) (h.below (e1.mono hB)) (Nat.le_trans hB e1.size) hw h1 h12
    rw [ha]
    obtain ⟨r, hr⟩ : ∃ r : ByteArray, (⟨(textK xs).toArray⟩ : ByteArray) = r := ⟨_, rfl⟩
    rw [hr] at hvl ⊢
    have HC := Lib.hid hc
    have HVL := Lib.hid hvl
    have E1 := Lib.hid e1
    clear hc hvl e1 h hv hr hw h1 h12 ha
    go_enter Tryd.func26, Tryd.ntmps26
    go_wp2_with (first | (go_at_call 50; refine HC.out.mono ?_; rintro e w1 ⟨rfl, rfl⟩) | (go_at_call 51; refine HVL.out.mono ?_; rintro e w1 ⟨rfl, hb⟩; have HB := Lib.hid (below_step E1.out hb); clear hb))
    go_ret
    exact ⟨rfl, HB.out⟩

set_option maxRecDepth 100000 in
set_option maxHeartbeats 4000000 in
theorem regText_any (xs : List Int) (w : World) (hv : wheelsB xs = true) (h1 : 1 ≤ xs.length) (hn : xs.length ≤ 12) (hP : Pow10 w) :
    Calls Tryd.prog 54 #[.agg (regV (reg12 xs) xs.length)] w fun e w' => e = .returned (.string ⟨(textK xs).toArray⟩) ∧ Below w.heap.size w w' := by
  obtain ⟨n, hN⟩ : ∃ n, xs.length = n := ⟨_, rfl⟩
  obtain ⟨r, hr⟩ : ∃ r : ByteArray, (⟨(textK xs).toArray⟩ : ByteArray) = r := ⟨_, rfl⟩
  have HRR : Hid (r = ⟨(foldT xs n (List.range n)).toArray⟩) := by show _ = _; rw [← hr, textK, hN]
  rw [hr]
  rw [hN] at hn h1 ⊢
  clear hr
  obtain ⟨w1, hW1⟩ : ∃ W, w.alloc (.cells (regV (reg12 xs) n) 51) = W := ⟨_, rfl⟩
  have hl12 : (reg12 xs).length = 12 := reg12_length (by omega)
  have R1a := RegRow.new w (reg12 xs) n
  have e1 := below_box w (.cells (regV (reg12 xs) n) 51)
  have hs1 : w1.heap.size = w.heap.size + 1 := by rw [← hW1]; simp
  rw [hW1] at R1a e1
  have bN := Boxed.new w1 110 (.slice none 0 0)
  have p12 := (R1a.later (below_box w1 (.cells #[.slice none 0 0] 110))).count hl12
  have HC : Hid (∀ k, k < n → w1.cell? ⟨w.heap.size, k, none⟩ = some (.int .i8 (xs[k]?.getD 0))) := fun k hk => by
    rw [R1a.cell (by rw [hl12]; omega), reg12_get k (by rw [hN]; exact hk)]
  have HT : Hid (∀ W, Below (w.heap.size + 1) w1 W → Lib.TabBelow Tryd.prog (w.heap.size + 2) W "internal/strconv.uint64pow10" .u64 Lib.pow10Tab) := fun W hW w' h' => hP.below (e1.trans ((hW.trans (h'.mono (by omega))).mono (by omega)))
  have HN := Lib.hid hN
  have HV := Lib.hid hv
  have E1 := Lib.hid e1
  have h12i : (n : Int) ≤ 12 := by omega
  clear hl12 R1a e1 hN hv hP
  refine (callsIn_wide (n := 6)).1 ?_
  refine callsIn_of_wp_marks Tryd.func54 rfl trivial ?_ rfl
  simp only [Tryd.ntmps54, List.size_toArray, List.length_cons, List.length_nil, Nat.reduceAdd, Nat.reduceSub, Array.replicate_succ, Array.replicate_zero, List.push_toArray, List.append_toArray, List.nil_append, List.cons_append]
  gi_wp2_with (first
      | (refine ⟨trivial, ?_⟩; gi_at_call 66; refine (callsIn_wide.2 (backward_any _ _ _ _)).mono ?_; rintro e w2 ⟨rfl, rfl⟩))
  have bS := Boxed.new (w1.alloc (.cells #[.slice none 0 0] 110)) 109 (.slice (some ⟨w.heap.size, 0, none⟩) n 12)
  have bN2 := bN.alloc (.cells #[.slice (some ⟨w.heap.size, 0, none⟩) n 12] 109)
  have hb0 : Below w1.heap.size w1 ((w1.alloc (.cells #[.slice none 0 0] 110)).alloc (.cells #[.slice (some ⟨w.heap.size, 0, none⟩) n 12] 109)) := (below_box w1 _).alloc (by simp) _
  have hsz : ((w1.alloc (.cells #[.slice none 0 0] 110)).alloc (.cells #[.slice (some ⟨w.heap.size, 0, none⟩) n 12] 109)).heap.size = w.heap.size + 3 := by simp; omega
  rw [World.size_alloc, hs1] at bS
  rw [hs1] at bN2 hb0
  clear bN p12
  generalize ((w1.alloc (.cells #[.slice none 0 0] 110)).alloc (.cells #[.slice (some ⟨w.heap.size, 0, none⟩) n 12] 109)) = W0 at *
  have hst := back_stops (n₀ := w.heap.size + 1) HN.out hn (by omega) HC.out W0 hb0 (by omega) (w.heap.size + 1 + 1) bS
  refine wpIn_rangeFunc_ownF rfl (by omega) (gf := 79) (lb := #[.pointer (some ⟨w.heap.size + 1 + 1, 0, none⟩)]) rfl trivial (enters_of Tryd.func79 (by kernel_rfl) rfl) hst kpI_t (kpI_b (by omega) (by omega)) (Below.refl _ _) (fun _ => rfl)
    (fun pre W => (∃ v, Boxed W (w.heap.size + 1) 110 v ∧ W.ownsRow (w.heap.size + 2) 5 1 v (foldT xs n pre).length (Lib.byteCells (foldT xs n pre)) ∧ True) ∧ Below (w.heap.size + 1) w1 W ∧ Boxed W (w.heap.size + 1 + 1) 109 (.slice (some ⟨w.heap.size, 0, none⟩) n 12))
    (fun _ _ _ => False)
    (OwnFrom.and (Own.from (holdsRow_own (w.heap.size + 2) (w.heap.size + 1) 110 5 1 (fun pre => (foldT xs n pre).length) (fun pre => Lib.byteCells (foldT xs n pre)) (fun _ _ => True)) _) (OwnFrom.and (ownFrom_below (by omega) (by omega)) (Own.from (boxed_own _ _ (fun _ => .slice (some ⟨w.heap.size, 0, none⟩) n 12)) _)))
    (fun _ _ _ _ _ hs _ _ => hs)
    ⟨⟨_, bN2, World.ownsRow_nil _ _ _ _, trivial⟩, hb0, bS⟩
    (fun x => { tmps := #[.agg (regV (reg12 xs) n), .pointer (some ⟨w.heap.size, 0, none⟩), .string ⟨#[]⟩, .pointer (some ⟨w.heap.size + 1, 0, none⟩), undef, .int .i8 (xs[n - 1 - x]?.getD 0), .pointer (some ⟨w.heap.size, 0, none⟩), .pointer (some ⟨w.heap.size, 12, none⟩), .int .i64 n, .slice (some ⟨w.heap.size, 0, none⟩) n 12, .func (.func 79) #[] #[.pointer (some ⟨w.heap.size + 1 + 1, 0, none⟩)], .int .i64 ((n : Int) - 1 - x), .int .i8 (xs[n - 1 - x]?.getD 0), undef, undef, undef, undef, undef, undef], defers := [] }) ?assign ?body ?done ?stop
  case assign =>
    intro l x W K hK
    simp only [backE]
    gi_wp2
    exact hK
  case body =>
    rintro l pre x W ⟨⟨v, hv, hrow, _⟩, hB, hX⟩ hlt
    have hc := hv.cell
    have hf := hv.frozen
    have hd := wheels_at HV.out (n - 1 - x)
    have hsn := Lib.hid (foldT_snoc xs n pre x)
    have hfl := foldT_length xs n pre
    have w8 : IntKind.i64.wrap (xs[n - 1 - x]?.getD 0) = xs[n - 1 - x]?.getD 0 := IntWalk.i64_in _ (by omega)
    have hap := Tryd.strconv_AppendInt_10 (w.heap.size + 2) (foldT xs n pre).length (xs[n - 1 - x]?.getD 0) (by omega) (by omega) v (Lib.byteCells (foldT xs n pre)) W hrow (by have := hX.lt; omega) (by omega) (HT.out W hB)
    rw [itoa_digit hd] at hap
    obtain ⟨d, hdd⟩ : ∃ d, xs[n - 1 - x]?.getD 0 = d := ⟨_, rfl⟩
    rw [hdd] at w8 hsn hap ⊢
    have HAP := Lib.hid hap
    have HXX := Lib.hid hX
    have HBB := Lib.hid hB
    have HVV := Lib.hid hv
    clear hst hd hdd hap hX hB hfl hrow
    gi_wp2_with (refine ⟨trivial, ?_⟩; gi_at_call 69; refine (CallsIn.inRound l (callsIn_wide.2 HAP.out)).mono ?_; rintro e w2 ⟨v', rfl, hown, hb2, hok⟩; obtain ⟨gq, cq, rfl⟩ := int_shape hown (by simp); have hv2 : Boxed w2 (w.heap.size + 1) 110 v := hok _ _ HVV.out (by simp) (fun c fz e => by cases e); have hc2 := hv2.cell; have hf2 := hv2.frozen; have HV2 := Lib.hid hv2; have HOW := Lib.hid hown; have HB2 := Lib.hid hb2; have HOK := Lib.hid hok; clear hown hb2 hok hv2 hc hf)
    have hX2 : Boxed w2 (w.heap.size + 1 + 1) 109 (.slice (some ⟨w.heap.size, 0, none⟩) n 12) := HOK.out _ _ HXX.out (by simp) (fun c fz e => by cases e)
    have hb3 : Below (w.heap.size + 1) W (w2.setCell ⟨w.heap.size + 1, 0, none⟩ (.slice (some ⟨gq, 0, none⟩) ((foldT xs n pre).length + [dgB d].length) cq)) := (HB2.out.mono (by omega)).setCell (by show w.heap.size + 1 ≤ w.heap.size + 1; omega) _
    refine ⟨KeepsOthers.trans ⟨HB2.out.size, fun k o hk ho => HOK.out k o hk (by simp) (fun c fz e => by subst e; cases ho)⟩ (KeepsOthers.setCell _ _ _), ⟨hb3, fun _ => hX2.other (by omega) _⟩, ⟨_, HV2.out.set _, ?_, trivial⟩, HBB.out.trans hb3, hX2.other (by omega) _⟩
    rw [hsn.out, List.length_append]
    have e : Lib.byteCells (foldT xs n pre ++ [dgB d]) = Lib.byteCells (foldT xs n pre) ++ Lib.byteCells [dgB d] := by simp [Lib.byteCells]
    rw [e]
    exact own_far HOW.out ⟨w.heap.size + 1, 0, none⟩ _ (by show w.heap.size + 1 < w.heap.size + 2; omega)
  case done =>
    rintro Dd ys W hD rfl ⟨⟨v, hv, hrow, _⟩, hB, hX⟩ hK
    have hc := hv.cell
    have hconv := fun (W' : World) (hW' : W'.ownsRow (w.heap.size + 2) 5 1 v (foldT xs n (List.range n)).length (Lib.byteCells (foldT xs n (List.range n)))) => own_convK hW' (by rw [foldT_length, List.length_range]; omega)
    have hcv := hconv W hrow
    rw [← HRR.out] at hcv
    have hb9 : Below (w.heap.size + 1) w1 (W.putObj Dd (.deferred none)) := hB.trans (belowK_b (w := W0) (by omega) W Dd _ _ hD hK rfl rfl)
    have HB9 := Lib.hid (E1.out.trans (hb9.mono (by omega)))
    have HKD := Lib.hid hK
    clear hst hv hX hB hK hb9 hrow hconv
    gi_wp2
    refine ⟨by simp, .inl ⟨_, _, rfl, run_takeDeferred HKD.out, ?_⟩⟩
    exact ⟨.string r, (by simp [results, Tryd.results54, go_sem]), rfl, HB9.out⟩
  case stop =>
    rintro Dd cc pre W _ _ h _
    exact h.elim

theorem implText_any (A : Option Addr) (c : Nat) (xs : List Int) (B : Nat) (w : World) (h : Ints w B A xs) (hB : B ≤ w.heap.size) (hn : xs.length ≤ 1048576) (hP : Pow10 w) :
    Calls Tryd.prog 27 #[.agg #[.slice A xs.length c]] w fun e w' => e = .returned (.string (textA xs)) ∧ Below w.heap.size w w' := by
  have e1 := below_box w (.cells #[.slice A xs.length c] 24)
  have hc := implValidCounter_any A c xs B (w.alloc (.cells #[.slice A xs.length c] 24)) (h.below (e1.mono hB)) (Nat.le_trans hB e1.size) hn
  have c0 : (w.alloc (.cells #[.slice A xs.length c] 24)).cell? ⟨w.heap.size, 0, none⟩ = some (.slice A xs.length c) := by simp [go_sem]
  cases hv : okK xs
  · rw [hv] at hc
    have ha : textA xs = ⟨#[]⟩ := by simp [textA, hv]
    rw [ha]
    have HC := Lib.hid hc
    have E1 := Lib.hid e1
    clear hc e1 h hv c0 ha
    go_enter Tryd.func27, Tryd.ntmps27
    go_wp2_with fail
    refine HC.out.mono ?_
    rintro e w1 ⟨rfl, hb⟩
    have B1 := Lib.hid (below_step E1.out hb)
    clear hb
    go_wp2
    go_ret
    exact ⟨rfl, B1.out⟩
  · rw [hv] at hc
    obtain ⟨hw, h1, h12⟩ := okK_parts hv
    have ha : textA xs = ⟨(textK xs).toArray⟩ := by simp [textA, hv]
    have hrg := fun W (hW : Below w.heap.size w W) => registerOf_any A c xs B W (h.below (hW.mono hB)) (Nat.le_trans hB hW.size) hw h12
    have hnm := fun W (hW : Below w.heap.size w W) => regText_any xs W hw h1 h12 (hP.below hW)
    unfold GivesReg at hrg
    rw [ha]
    obtain ⟨r, hr⟩ : ∃ r : ByteArray, (⟨(textK xs).toArray⟩ : ByteArray) = r := ⟨_, rfl⟩
    obtain ⟨v1, hv1⟩ : ∃ v, regV (reg12 xs) xs.length = v := ⟨_, rfl⟩
    rw [hv1] at hrg hnm
    rw [hr] at hnm ⊢
    have HC := Lib.hid hc
    have HRG := Lib.hid hrg
    have HNM := Lib.hid hnm
    have E1 := Lib.hid e1
    have C0 := Lib.hid c0
    clear hc hrg hnm e1 h hv hr hv1 hw h1 h12 c0 ha
    go_enter Tryd.func27, Tryd.ntmps27
    go_wp2_with fail
    refine HC.out.mono ?_
    rintro e w1 ⟨rfl, hb⟩
    have c1 := cell_kept C0.out hb
    have B1 := Lib.hid (below_step E1.out hb)
    clear hb
    go_wp2_with fail
    refine (HRG.out _ B1.out).mono ?_
    rintro e w2 ⟨rfl, hb⟩
    have B2 := Lib.hid (below_step B1.out hb)
    clear hb c1
    go_wp2_with fail
    refine (HNM.out _ B2.out).mono ?_
    rintro e w3 ⟨rfl, hb⟩
    have B3 := Lib.hid (below_step B2.out hb)
    clear hb
    go_wp2
    go_ret
    exact ⟨rfl, B3.out⟩

end Go.Proofs.YtkiphejkgpfjjaaDoor
