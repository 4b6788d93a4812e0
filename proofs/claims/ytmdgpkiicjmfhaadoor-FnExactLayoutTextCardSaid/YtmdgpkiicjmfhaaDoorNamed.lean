/- The place of an item by its name: contracts of spec.l04Find, spec.l04Ask, spec.ItemNamed and impl.ItemNamed. -/
import Derived.Test.YtmdgpkiicjmfhaaDoorLayoutV
namespace Go.Proofs.YtmdgpkiicjmfhaaDoor
open Go.ChangeShapes Go.WideShapes Go.ChangeAt Go.RowKit Go.Maps

/-- the place of the first of the first k items that has a name; -1 if none has it -/
def firstTo (ds : List It) (s : ByteArray) : Nat → Int
  | 0 => -1
  | k + 1 => if firstTo ds s k < 0 then (match ds[k]? with | some e => if e.name = s then (k : Int) else -1 | none => -1) else firstTo ds s k
theorem firstTo_hit {ds : List It} {s : ByteArray} {k : Nat} (h : 0 ≤ firstTo ds s k) : ∀ j, firstTo ds s (k + j) = firstTo ds s k
  | 0 => rfl
  | j + 1 => by
    have ih := firstTo_hit h j
    rw [← Nat.add_assoc, firstTo, ih, if_neg (by omega)]
theorem firstTo_all {ds : List It} {s : ByteArray} {k n : Nat} (h : 0 ≤ firstTo ds s k) (hk : k ≤ n) : firstTo ds s n = firstTo ds s k := by
  have := firstTo_hit h (n - k)
  rwa [Nat.add_sub_cancel' hk] at this
theorem firstTo_there {ds : List It} {s : ByteArray} {k : Nat} {d : It} (h : firstTo ds s k = -1) (hd : ds[k]? = some d) (hs : d.name = s) : firstTo ds s (k + 1) = k := by
  rw [firstTo, h, if_pos (by omega), hd]
  simp [hs]
theorem firstTo_other {ds : List It} {s : ByteArray} {k : Nat} {d : It} (h : firstTo ds s k = -1) (hd : ds[k]? = some d) (hs : d.name ≠ s) : firstTo ds s (k + 1) = -1 := by
  rw [firstTo, h, if_pos (by omega), hd]
  simp [hs]
theorem firstTo_cases (ds : List It) (s : ByteArray) : ∀ k, (firstTo ds s k = -1 ∧ nameTo ds s k = false) ∨ (∃ j : Nat, j < k ∧ firstTo ds s k = j ∧ nameTo ds s k = true)
  | 0 => Or.inl ⟨rfl, rfl⟩
  | k + 1 => by
    rcases firstTo_cases ds s k with ⟨h1, h2⟩ | ⟨j, hj, h1, h2⟩
    · cases hd : ds[k]? with
      | none => exact Or.inl ⟨by rw [firstTo, h1, if_pos (by omega), hd], by rw [nameTo, h2, hd]; rfl⟩
      | some d =>
        by_cases hs : d.name = s
        · exact Or.inr ⟨k, by omega, firstTo_there h1 hd hs, by rw [nameTo, hd]; simp [hs]⟩
        · exact Or.inl ⟨firstTo_other h1 hd hs, by rw [nameTo, h2, hd]; simp [hs]⟩
    · exact Or.inr ⟨j, by omega, by rw [firstTo, h1, if_neg (by omega)], by rw [nameTo, h2, Bool.true_or]⟩
theorem freshTo_less {ds : List It} {k : Nat} (h : freshTo ds (k + 1) = true) : freshTo ds k = true := by
  rw [freshTo, Bool.and_eq_true] at h
  exact h.1
theorem placesD_at {H : Type} (ds : List It) (s : ByteArray) (z : DataW H) : ∀ k, freshTo ds k = true → nameTo ds s k = true → (placesD ds k : DataW H).atKey (keyOfName s) z = .lit (.int .i64 (firstTo ds s k))
  | 0, _, h => by cases h
  | k + 1, hf, hn => by
    have ih := placesD_at ds s z k (freshTo_less hf)
    cases hd : ds[k]? with
    | none =>
      rw [nameTo, hd, Bool.or_false] at hn
      rcases firstTo_cases ds s k with ⟨h1, h2⟩ | ⟨j, hj, h1, h2⟩
      · rw [h2] at hn
        cases hn
      · rw [placesD, hd, firstTo, if_neg (by omega)]
        exact ih hn
    | some d =>
      rw [placesD_step hd]
      by_cases hs : d.name = s
      · rw [freshTo, hd, Bool.and_eq_true] at hf
        have h2 := hf.2
        simp only [hs] at h2
        rcases firstTo_cases ds s k with ⟨h1, _⟩ | ⟨j, hj, h1, h3⟩
        · rw [firstTo_there h1 hd hs, hs, atKey_put_same (placesD_tidy ds k).isMap (by first | exact trivial | exact rfl)]
        · rw [h3] at h2
          cases h2
      · rw [nameTo, hd] at hn
        simp only [hs, decide_false, Bool.or_false] at hn
        rw [atKey_put_other (fun e => hs (key_eq e).symm), ih hn]
        rcases firstTo_cases ds s k with ⟨_, h2⟩ | ⟨j, hj, h1, _⟩
        · rw [h2] at hn
          cases hn
        · rw [firstTo, if_neg (by omega)]

/-- the code of asking for an item, and its place -/
def askC (u : Int) (ds : List It) (s : ByteArray) : Int := if layoutB u ds = true then (if nameTo ds s ds.length = true then 0 else 3) else 1
def askV (u : Int) (ds : List It) (s : ByteArray) : Int := if layoutB u ds = true then (if nameTo ds s ds.length = true then firstTo ds s ds.length else 0) else 0

theorem l04Find_any (s : ByteArray) (_u : Int) (A : Option Addr) (c : Nat) (ds : List It) (B p o : Nat) (w : World) (hp1 : w.cell? ⟨p, o + 1, none⟩ = some (.slice A ds.length c)) (h : Items w B A ds) (hB : B ≤ w.heap.size) (hn : ds.length ≤ 1048576) :
    Calls Tryd.prog 36 #[.pointer (some ⟨p, o, none⟩), .string s] w fun e w' => e = .returned (.int .i64 (firstTo ds s ds.length)) ∧ Below w.heap.size w w' := by
  obtain ⟨n, hN⟩ : ∃ n, ds.length = n := ⟨_, rfl⟩
  obtain ⟨v, hv⟩ : ∃ v, firstTo ds s n = v := ⟨_, rfl⟩
  rw [hN] at hn hp1 ⊢
  rw [hv]
  have H := Lib.hid h
  have HN := Lib.hid hN
  have HV := Lib.hid hv
  clear h hN hv
  go_enter Tryd.func36, Tryd.ntmps36
  go_wp2
  go_loopw [5] (fun x wr => ∃ k : Nat, k ≤ n ∧ x = .int .i64 k ∧ Hid (firstTo ds s k = -1) ∧ Hid (Below w.heap.size w wr)) (fun x _ => n - (intOf x).toNat)
  case atStart => exact ⟨0, Nat.zero_le _, rfl, rfl, Below.refl _ _⟩
  case round =>
    obtain ⟨k, hk, rfl, HM, HB⟩ := hrel
    have c1 := cell_kept hp1 HB.out
    by_cases hlt : k < n
    · obtain ⟨d, hd⟩ : ∃ d, ds[k]? = some d := ⟨ds[k]'(by rw [HN.out]; exact hlt), List.getElem?_eq_getElem _⟩
      obtain ⟨b1, off, rfl, hb, e0, e1, e2, e3⟩ := (H.out.below (HB.out.mono hB)).at_ hd
      have hk0 : (0 : Int) ≤ (k : Int) := Int.natCast_nonneg _
      have hk1 : (k : Int) < (n : Int) := by omega
      by_cases hs : d.name = s
      · have hf := firstTo_there HM.out hd hs
        have hw := firstTo_all (n := n) (by rw [hf]; omega) (Nat.succ_le_of_lt hlt)
        obtain rfl : v = (k : Int) := by rw [← HV.out, hw, hf]
        rw [hs] at e0
        clear hf hw hd hs
        go_wp2
        go_ret
        exact ⟨rfl, HB.out⟩
      · have HF := Lib.hid (firstTo_other HM.out hd hs)
        have hne := bytes_ne hs
        clear hd hs
        go_wp2
        go_roundw
        case rel => exact ⟨k + 1, by omega, by go_num, HF.out, HB.out⟩
        case measure => simp [intOf]; omega
    · have hk1 : ¬ (k : Int) < (n : Int) := by omega
      obtain rfl : k = n := by omega
      obtain rfl : v = -1 := by rw [← HV.out, HM.out]
      go_wp2
      go_ret
      exact ⟨rfl, HB.out⟩

theorem zeroI (w : World) : (zeroValue 2).run Tryd.prog w = .ok (.int .i64 0) w := by kernel_rfl
theorem layoutB_fresh {u : Int} {ds : List It} (h : layoutB u ds = true) : freshTo ds ds.length = true := by
  rw [layoutB_eq, sizeTo_eq ds ds.length (Nat.le_refl _)] at h
  simp only [Bool.and_eq_true] at h
  exact h.2.2.2

set_option maxRecDepth 100000 in
set_option maxHeartbeats 1000000 in
theorem implNamed_any (s : ByteArray) (u : Int) (A : Option Addr) (c : Nat) (ds : List It) (B : Nat) (w : World) (h : Items w B A ds) (hB : B ≤ w.heap.size) (hn : ds.length ≤ 1048576) (hc : ds.length ≤ c) (hs : ∀ d ∈ ds, d.name.size ≤ 1048576) (hs1 : s.size ≤ 1048576) :
    Calls Tryd.prog 41 #[.agg #[.int .i64 u, .slice A ds.length c], .string s] w fun e w' => e = .returned (.tuple #[.int .i64 (askV u ds s), .int .i64 (askC u ds s)]) ∧ Below w.heap.size w w' := by
  have B0 := Lib.hid (below_box w (.cells #[.int .i64 u, .slice A ds.length c] 32))
  have x0 : (w.alloc (.cells #[.int .i64 u, .slice A ds.length c] 32)).cell? ⟨w.heap.size, 0, none⟩ = some (.int .i64 u) := by simp [go_sem]
  have x1 : (w.alloc (.cells #[.int .i64 u, .slice A ds.length c] 32)).cell? ⟨w.heap.size, 1, none⟩ = some (.slice A ds.length c) := by simp [go_sem]
  have HO := Lib.hid (implValidL_any u A c ds B _ (h.alloc hB (.cells #[.int .i64 u, .slice A ds.length c] 32)) (Nat.le_trans hB B0.out.size) hn hc hs)
  have HP := Lib.hid (fun (W : World) (hb : Below w.heap.size w W) => placesIn_any (H := Unit) u A c ds B W (h.below (hb.mono hB)) (Nat.le_trans hB hb.size) hn hs)
  have hkey := nameKey hs1
  have hhas := placesD_has (H := Unit) ds s ds.length
  have hat := placesD_at (H := Unit) ds s (.lit (.int .i64 0)) ds.length
  unfold GivesPlaces at HP
  unfold askV askC
  cases hv : layoutB u ds
  · rw [hv] at HO
    simp only [Bool.false_eq_true, if_false]
    obtain ⟨n, hN⟩ : ∃ n, ds.length = n := ⟨_, rfl⟩
    rw [hN] at HO B0 x0 x1 ⊢
    clear HP h hv hhas hat hN hs
    go_enter Tryd.func41, Tryd.ntmps41
    go_wp2_with fail
    refine HO.out.mono ?_
    rintro e w1 ⟨rfl, hb⟩
    have HB := Lib.hid (below_step B0.out hb)
    clear hb
    go_wp2
    go_ret2
    exact ⟨rfl, HB.out⟩
  · rw [hv] at HO
    simp only [if_true]
    have hat := hat (layoutB_fresh hv)
    obtain ⟨r, hr⟩ : ∃ r, nameTo ds s ds.length = r := ⟨_, rfl⟩
    obtain ⟨f, hf⟩ : ∃ f, firstTo ds s ds.length = f := ⟨_, rfl⟩
    rw [hr] at hhas hat ⊢
    rw [hf] at hat ⊢
    obtain ⟨n, hN⟩ : ∃ n, ds.length = n := ⟨_, rfl⟩
    rw [hN] at HO B0 x0 x1 HP hhas hat ⊢
    obtain ⟨D, hD⟩ : ∃ D, (placesD ds n : DataW Unit) = D := ⟨_, rfl⟩
    rw [hD] at HP hhas hat
    cases r
    · simp only [Bool.false_eq_true, if_false]
      clear h hv hN hs hr hf hD hat
      go_enter Tryd.func41, Tryd.ntmps41
      go_wp2_with fail
      refine HO.out.mono ?_
      rintro e w1 ⟨rfl, hb⟩
      have HB := Lib.hid (below_step B0.out hb)
      have y0 := cell_kept x0 hb
      have y1 := cell_kept x1 hb
      clear hb x0 x1 HO
      go_wp2_with fail
      refine (HP.out _ HB.out).mono ?_
      rintro e w2 ⟨mb, rfl, hmb, hb, hown⟩
      have HB2 := Lib.hid (below_step HB.out hb)
      clear hb hmb HP y0 y1
      go_wp2_with (at_lookup; refine wpList_lookup_own_ok_int _ rfl _ _ 106 rfl 9 2 .i64 keyLaw Tryd.underlying106 Tryd.underlying2 (zeroI _) mb n D rfl hown _ _ rfl hkey ?_; intro cv hcv _; rw [hhas])
      go_ret2
      exact ⟨rfl, HB2.out⟩
    · simp only [if_true]
      have HAT := Lib.hid (hat rfl)
      clear h hv hN hs hr hf hD hat
      go_enter Tryd.func41, Tryd.ntmps41
      go_wp2_with fail
      refine HO.out.mono ?_
      rintro e w1 ⟨rfl, hb⟩
      have HB := Lib.hid (below_step B0.out hb)
      have y0 := cell_kept x0 hb
      have y1 := cell_kept x1 hb
      clear hb x0 x1 HO
      go_wp2_with fail
      refine (HP.out _ HB.out).mono ?_
      rintro e w2 ⟨mb, rfl, hmb, hb, hown⟩
      have HB2 := Lib.hid (below_step HB.out hb)
      clear hb hmb HP y0 y1
      go_wp2_with (at_lookup; refine wpList_lookup_own_ok_int _ rfl _ _ 106 rfl 9 2 .i64 keyLaw Tryd.underlying106 Tryd.underlying2 (zeroI _) mb n D rfl hown _ _ rfl hkey ?_; intro cv hcv _; rw [hhas])
      rw [HAT.out] at hcv
      obtain rfl : f = cv := by injection hcv with hcv; injection hcv
      go_ret2
      exact ⟨rfl, HB2.out⟩
end Go.Proofs.YtmdgpkiicjmfhaaDoor
