/- spec.PunchByProgram and impl.PunchByProgram give the card that is punched, or the code, for every text of at most 1048576 bytes, every card of at most 1048576 columns and every keys of at most 1048576 bytes: contracts (conditions: the tables of unicode/utf8 and the errors lie in memory). -/
import Derived.Test.YtjlgfgekiekenaaDoorSpecPunch
import Derived.Test.YtjlgfgekiekenaaDoorPunchKeys
import Derived.Test.YtjlgfgekiekenaaDoorCheckProg
import Derived.Test.YtjlgfgekiekenaaDoorSent2
namespace Go.Proofs.YtjlgfgekiekenaaDoor
open Go.ChangeShapes Go.WideShapes Go.ChangeAt Go.RowKit

/-! impl.keyCode -/
theorem equalIn_nil_iface {P : Program} (w : World) (d : Nat) (t : TypeId) (h : P.isIface t = true) (u : TypeId) (x : Value) : (Op.equalIn (d + 1) t .nilIface (.iface u x)).run P w = .ok false w := by
  obtain ⟨ms, hu⟩ := underlying_of_isIface h
  rw [Op.equalIn]
  simp [run_underlying hu]
theorem eql_nil_iface {P : Program} (w : World) (t : TypeId) (h : P.isIface t = true) (u : TypeId) (x : Value) : (binOp .eql t .nilIface (.iface u x)).run P w = .ok (.bool false) w := by
  simp only [binOp]
  simp [Op.equal, Op.maxDepth, equalIn_nil_iface w 9999 t h u x]
set_option maxRecDepth 100000 in
theorem is_nil (a : Addr) (w : World) :
    Calls Tryd.prog 75 #[.nilIface, .iface 182 (.pointer (some a))] w fun e w' => e = .returned (.bool false) ∧ w = w' := by
  have hn : ∀ (w : World), (binOp .eql 64 .nilIface (.iface 182 (.pointer (some a)))).run Tryd.prog w = .ok (.bool false) w := fun w => eql_nil_iface w 64 (by kernel_rfl) _ _
  go_enter Tryd.func75, Tryd.ntmps75
  go_wp2
  go_ret
  exact ⟨rfl, rfl⟩

/-- The errors of keys and of texts, in memory, all different. -/
structure PunchErrs (w : World) (aC aS aF aL : Addr) : Prop where
  keys : KeyErrs w aC aS aF
  two : Sents2 w aL aF
  cs : aC ≠ aS
  cf : aC ≠ aF
  sf : aS ≠ aF
theorem PunchErrs.below {w w' : World} {aC aS aF aL : Addr} (h : PunchErrs w aC aS aF aL) (hb : Below w.heap.size w w') : PunchErrs w' aC aS aF aL := ⟨h.keys.below hb, h.two.below hb, h.cs, h.cf, h.sf⟩

theorem keyCode_nil {aC aS aF aL : Addr} (w : World) (S : PunchErrs w aC aS aF aL) :
    Calls Tryd.prog 47 #[.nilIface] w fun e w' => e = .returned (.int .i64 0) ∧ w = w' := by
  obtain ⟨hC, _⟩ := S.keys.count
  obtain ⟨hS, _⟩ := S.keys.stuck
  have H1 := Lib.hid (is_nil aC w)
  have H2 := Lib.hid (is_nil aS w)
  have H3 := Lib.hid (codeFor_nil w)
  clear S
  go_enter Tryd.func47, Tryd.ntmps47
  go_wp2_with (first | (go_at_call 75; (first | (with_reducible refine H1.out.mono ?_) | (with_reducible refine H2.out.mono ?_)); rintro e w' ⟨rfl, rfl⟩) | (go_at_call 76; refine H3.out.mono ?_; rintro e w' ⟨rfl, rfl⟩))
  go_ret
  exact ⟨rfl, rfl⟩
theorem keyCode_count {aC aS aF aL : Addr} (w : World) (S : PunchErrs w aC aS aF aL) :
    Calls Tryd.prog 47 #[errV aC] w fun e w' => e = .returned (.int .i64 5) ∧ w = w' := by
  obtain ⟨hC, _⟩ := S.keys.count
  have H1 := Lib.hid (is_same aC w)
  unfold errV
  clear S
  go_enter Tryd.func47, Tryd.ntmps47
  go_wp2_with (go_at_call 75; (with_reducible refine H1.out.mono ?_); rintro e w' ⟨rfl, rfl⟩)
  go_ret
  exact ⟨rfl, rfl⟩
theorem keyCode_stuck {aC aS aF aL : Addr} (w : World) (S : PunchErrs w aC aS aF aL) :
    Calls Tryd.prog 47 #[errV aS] w fun e w' => e = .returned (.int .i64 10) ∧ w = w' := by
  obtain ⟨hC, cC, tC, rC⟩ := S.keys.count
  obtain ⟨hS, cS, tS, rS⟩ := S.keys.stuck
  have H1 := Lib.hid (is_other aS aC cS cC tS tC w S.cs.symm rS rC)
  have H2 := Lib.hid (is_same aS w)
  unfold errV
  clear S rC rS
  go_enter Tryd.func47, Tryd.ntmps47
  go_wp2_with (go_at_call 75; (first | (with_reducible refine H1.out.mono ?_) | (with_reducible refine H2.out.mono ?_)); rintro e w' ⟨rfl, rfl⟩)
  go_ret
  exact ⟨rfl, rfl⟩
theorem keyCode_foreign {aC aS aF aL : Addr} (w : World) (S : PunchErrs w aC aS aF aL) :
    Calls Tryd.prog 47 #[errV aF] w fun e w' => e = .returned (.int .i64 7) ∧ w = w' := by
  obtain ⟨hC, cC, tC, rC⟩ := S.keys.count
  obtain ⟨hS, cS, tS, rS⟩ := S.keys.stuck
  obtain ⟨hF, cF, tF, rF⟩ := S.keys.foreign
  have H1 := Lib.hid (is_other aF aC cF cC tF tC w S.cf.symm rF rC)
  have H2 := Lib.hid (is_other aF aS cF cS tF tS w S.sf.symm rF rS)
  have H3 := Lib.hid (codeFor_foreign2 w S.two)
  unfold errV
  clear S rC rS rF
  go_enter Tryd.func47, Tryd.ntmps47
  go_wp2_with (first | (go_at_call 75; (first | (with_reducible refine H1.out.mono ?_) | (with_reducible refine H2.out.mono ?_)); rintro e w' ⟨rfl, rfl⟩) | (go_at_call 76; refine H3.out.mono ?_; rintro e w' ⟨rfl, rfl⟩))
  go_ret
  exact ⟨rfl, rfl⟩

/-! the two functions -/
def pbC (s : ByteArray) (bs : List Int) (K : ByteArray) : Nat := if cardC s bs = 0 then keysC s K else cardC s bs
theorem cardC_zero {s : ByteArray} {bs : List Int} (h : cardC s bs = 0) : progB s = true ∧ okB bs = true ∧ bs.length = s.size := by
  unfold cardC at h
  by_cases a : progB s = true
  · rw [if_pos a] at h
    by_cases b : okB bs = true
    · rw [if_pos b] at h
      by_cases d : bs.length = s.size
      · exact ⟨a, b, d⟩
      · rw [if_neg d] at h; cases h
    · rw [if_neg b] at h; cases h
  · rw [if_neg a] at h; cases h
theorem chkC_one (s : ByteArray) (A : Option Addr) (c : Nat) (bs : List Int) : chkC s [⟨A, c, bs⟩] = cardC s bs := by
  simp [chkC, cardC, okAll, wideAll]
theorem deck_one (w : World) (A : Option Addr) (c : Nat) (bs : List Int) (B g : Nat) (h : Ints w B A bs) (hB : B ≤ g) (hc : w.cell? ⟨g, 0, none⟩ = some (.slice A bs.length c)) : Deck w (g + 1) (some ⟨g, 0, none⟩) [⟨A, c, bs⟩] := fun _ =>
  ⟨g, 0, rfl, by omega, fun i d hi => by
    match i, hi with
    | 0, hi =>
      injection hi with hi
      subst hi
      exact ⟨hc, h.more (by omega)⟩⟩
theorem keysC_zero {s K : ByteArray} (h : keysC s K = 0) : K.size = keysTo s s.size ∧ badC s K s.size = 0 := by
  unfold keysC at h
  by_cases e : K.size = keysTo s s.size
  · rw [if_pos e] at h; exact ⟨e, h⟩
  · rw [if_neg e] at h; cases h

set_option maxHeartbeats 1000000 in
theorem specPunchBy_bad (A : Option Addr) (c : Nat) (s K : ByteArray) (bs : List Int) (B : Nat) (hs : s.size ≤ 1048576) (hK : K.size ≤ 1048576) (w : World) (h : Ints w B A bs) (hB : B ≤ w.heap.size) (hn : bs.length ≤ 1048576) (e : pbC s bs K ≠ 0) :
    Calls Tryd.prog 13 #[.string s, .agg #[.slice A bs.length c], .string K] w (GivesCode (pbC s bs K) w) := by
  have ho := l05Code_any s hs A c bs B w.heap.size 0 ((w.alloc (.cells #[.slice A bs.length c] 29)).alloc (.cells #[.slice none 0 0] 29)) (by simp) ((h.alloc hB _).alloc (by simp; omega) _) hn
  have hk := fun W => l05Check_any s K hs hK W
  by_cases h1 : cardC s bs = 0
  · have e1 : pbC s bs K = keysC s K := by rw [pbC, if_pos h1]
    rw [e1] at e ⊢
    obtain ⟨a, ha⟩ : ∃ a, keysC s K = a := ⟨_, rfl⟩
    rw [ha] at e hk ⊢
    rw [h1] at ho
    have HO := Lib.hid ho
    have HK2 := Lib.hid hk
    have hne : ((a : Int) != 0) = true := by rw [bne_iff_ne]; omega
    clear ho hk h1 e1 ha h e
    go_enter Tryd.func13, Tryd.ntmps13
    go_wp2_with (first | (go_at_call 41; refine HO.out.mono ?_; rintro e w' ⟨rfl, rfl⟩) | (go_at_call 42; refine (HK2.out _).mono ?_; rintro e w' ⟨rfl, rfl⟩))
    exact bodyPost_ret (v := .tuple #[.agg #[.slice none 0 0], .int .i64 a]) (by simp [results, Tryd.results13, go_sem]) rfl ⟨rfl, ((below_box w _).alloc (by simp) _)⟩
  · have e1 : pbC s bs K = cardC s bs := by rw [pbC, if_neg h1]
    rw [e1] at e ⊢
    obtain ⟨a, ha⟩ : ∃ a, cardC s bs = a := ⟨_, rfl⟩
    rw [ha] at e ho ⊢
    have HO := Lib.hid ho
    have hne : ((a : Int) != 0) = true := by rw [bne_iff_ne]; omega
    have hne2 : ((a : Int) == 0) = false := by rw [beq_eq_false_iff_ne]; omega
    clear ho hk h1 e1 ha h e
    go_enter Tryd.func13, Tryd.ntmps13
    go_wp2_with (go_at_call 41; refine HO.out.mono ?_; rintro e w' ⟨rfl, rfl⟩)
    exact bodyPost_ret (v := .tuple #[.agg #[.slice none 0 0], .int .i64 a]) (by simp [results, Tryd.results13, go_sem]) rfl ⟨rfl, ((below_box w _).alloc (by simp) _)⟩

set_option maxHeartbeats 1000000 in
theorem specPunchBy_good (A : Option Addr) (c : Nat) (s K : ByteArray) (bs : List Int) (B : Nat) (hs : s.size ≤ 1048576) (hK : K.size ≤ 1048576) (w : World) (h : Ints w B A bs) (hB : B ≤ w.heap.size) (hn : bs.length ≤ 1048576) (e : pbC s bs K = 0) :
    Calls Tryd.prog 13 #[.string s, .agg #[.slice A bs.length c], .string K] w (GivesCard (punL s bs K s.size) w) := by
  have hi2 := (h.alloc hB (.cells #[.slice A bs.length c] 29)).alloc (by simp; omega) (.cells #[.slice none 0 0] 29)
  have ho := l05Code_any s hs A c bs B w.heap.size 0 ((w.alloc (.cells #[.slice A bs.length c] 29)).alloc (.cells #[.slice none 0 0] 29)) (by simp) hi2 hn
  have hk := fun W => l05Check_any s K hs hK W
  have h1 : cardC s bs = 0 := by
    unfold pbC at e
    by_cases a : cardC s bs = 0
    · exact a
    · rw [if_neg a] at e; exact absurd e a
  have h2 : keysC s K = 0 := by rw [pbC, if_pos h1] at e; exact e
  obtain ⟨p1, p2, p3⟩ := cardC_zero h1
  obtain ⟨k1, k2⟩ := keysC_zero h2
  have hpu := l05Punch_any s K A c B w.heap.size 0 bs p1 hK k1 ((w.alloc (.cells #[.slice A bs.length c] 29)).alloc (.cells #[.slice none 0 0] 29)) (by simp) hi2 (by simp; omega) p3
  rw [h1] at ho
  rw [h2] at hk
  obtain ⟨zs, hz⟩ : ∃ zs, punL s bs K s.size = zs := ⟨_, rfl⟩
  rw [hz] at hpu ⊢
  have HO := Lib.hid ho
  have HK2 := Lib.hid hk
  have HP := Lib.hid hpu
  clear ho hk hpu h hi2 h1 h2 p1 p2 p3 k1 k2 e hz
  go_enter Tryd.func13, Tryd.ntmps13
  go_wp2_with (first | (go_at_call 41; refine HO.out.mono ?_; rintro e w' ⟨rfl, rfl⟩) | (go_at_call 42; refine (HK2.out _).mono ?_; rintro e w' ⟨rfl, rfl⟩))
  refine HP.out.mono ?_
  rintro e w2 ⟨g, cap, ex, rfl, hg, hb2, hr⟩
  have B2 := Lib.hid (below_step ((below_box w (.cells #[.slice A bs.length c] 29)).alloc (by simp) (.cells #[.slice none 0 0] 29)) hb2)
  have c2 := cell_kept (p := ⟨w.heap.size + 1, 0, none⟩) (v := .slice none 0 0) (by simp) hb2
  have f2 : w2.frozen? ⟨w.heap.size + 1, 0, none⟩ = false := by rw [hb2.frozen (by simp)]; simp
  have hg' : w.heap.size + 1 < g := by simp at hg; omega
  have HR := Lib.hid hr
  have c3 : (w2.setCell ⟨w.heap.size + 1, 0, none⟩ (.slice (some ⟨g, 0, none⟩) zs.length cap)).cell? ⟨w.heap.size + 1, 0, none⟩ = some (.slice (some ⟨g, 0, none⟩) zs.length cap) := World.cell?_setCell_same _ _ _ c2
  clear hb2 hr hg HP HO
  go_wp2
  refine bodyPost_ret (v := .tuple #[.agg #[.slice (some ⟨g, 0, none⟩) zs.length cap], .int .i64 0]) (by simp [results, Tryd.results13, go_sem, c3]) rfl ⟨g, cap, ex, rfl, by omega, ?_, ?_⟩
  · exact B2.out.setCell (by simp) _
  · exact HR.out.far (by simp; omega) _

set_option maxHeartbeats 1000000 in
theorem implPunchBy_bad (A : Option Addr) (c : Nat) (s K : ByteArray) (bs : List Int) (B : Nat) (hs : s.size ≤ 1048576) (hK : K.size ≤ 1048576) (w : World) (h : Ints w B A bs) (hB : B ≤ w.heap.size) (hn : bs.length ≤ 1048576) (hT : Utf8In w) {aC aS aF aL : Addr} (S : PunchErrs w aC aS aF aL) (e : pbC s bs K ≠ 0) :
    Calls Tryd.prog 15 #[.string s, .agg #[.slice A bs.length c], .string K] w (GivesCode (pbC s bs K) w) := by
  have b0 := ((below_box w (.cells #[.slice A bs.length c] 29)).alloc (by simp) (.cells #[.slice none 0 0] 29)).alloc (by simp; omega) (.cells #[.slice A bs.length c] 29)
  have hck := checkProgram_any s (some ⟨w.heap.size + 1 + 1, 0, none⟩) 1 [⟨A, c, bs⟩] (w.heap.size + 1 + 1 + 1) (((w.alloc (.cells #[.slice A bs.length c] 29)).alloc (.cells #[.slice none 0 0] 29)).alloc (.cells #[.slice A bs.length c] 29)) (deck_one _ A c bs B (w.heap.size + 1 + 1) (h.below (b0.mono hB)) (by omega) (by simp [go_sem])) (by simp) (by simp) (by simpa using hn) hs
  rw [chkC_one] at hck
  have hck' : Calls Tryd.prog 45 #[.string s, .slice (some ⟨w.heap.size + 1 + 1, 0, none⟩) 1 1] (((w.alloc (.cells #[.slice A bs.length c] 29)).alloc (.cells #[.slice none 0 0] 29)).alloc (.cells #[.slice A bs.length c] 29)) fun e w' => e = .returned (.int .i64 (cardC s bs)) ∧ Below (((w.alloc (.cells #[.slice A bs.length c] 29)).alloc (.cells #[.slice none 0 0] 29)).alloc (.cells #[.slice A bs.length c] 29)).heap.size (((w.alloc (.cells #[.slice A bs.length c] 29)).alloc (.cells #[.slice none 0 0] 29)).alloc (.cells #[.slice A bs.length c] 29)) w' := hck
  have B0 := Lib.hid b0
  have H0 := Lib.hid h
  have HS := Lib.hid S
  have HT := Lib.hid hT
  clear hck b0 S hT
  by_cases h1 : cardC s bs = 0
  · obtain ⟨p1, p2, p3⟩ := cardC_zero h1
    have e1 : pbC s bs K = keysC s K := by rw [pbC, if_pos h1]
    rw [e1] at e ⊢
    rw [h1] at hck'
    have HC := Lib.hid hck'
    obtain ⟨a, ha⟩ : ∃ a, keysC s K = a := ⟨_, rfl⟩
    rw [ha] at e ⊢
    clear hck' h1 e1
    have hpk : ∀ W, Below w.heap.size w W → Calls Tryd.prog 46 #[.string s, .slice A bs.length c, .string K] W fun e w' => (a = 5 ∧ e = .returned (.tuple #[.slice none 0 0, errV aC]) ∨ a = 7 ∧ e = .returned (.tuple #[.slice none 0 0, errV aF]) ∨ a = 10 ∧ e = .returned (.tuple #[.slice none 0 0, errV aS])) ∧ Below W.heap.size W w' := fun W hW => by
      by_cases hk : K.size = keysTo s s.size
      · have ek : a = badC s K s.size := by rw [← ha, keysC, if_pos hk]
        refine (punchKeys_any s K A c B bs p1 hK hk W (H0.out.below (hW.mono hB)) (Nat.le_trans hB hW.size) p3 (HT.out.below hW) (HS.out.keys.below hW)).mono ?_
        rintro e' w' ⟨hb, hh⟩
        refine ⟨?_, hb⟩
        rcases hh with ⟨h0, _⟩ | ⟨h7, he⟩ | ⟨h10, he⟩
        · rw [← ek] at h0; exact absurd h0 e
        · exact Or.inr (Or.inl ⟨by rw [ek, h7], he⟩)
        · exact Or.inr (Or.inr ⟨by rw [ek, h10], he⟩)
      · have ek : a = 5 := by rw [← ha, keysC, if_neg hk]
        exact (punchKeys_count s K _ hs hK p1 hk W (HT.out.below hW) (HS.out.keys.below hW)).mono fun e' w' hh => ⟨Or.inl ⟨ek, hh.1⟩, hh.2⟩
    have HPK := Lib.hid hpk
    clear hpk p1 p2 p3 h ha e
    go_enter Tryd.func15, Tryd.ntmps15
    go_wp2_with fail
    refine HC.out.mono ?_
    rintro e w1 ⟨rfl, hb1⟩
    have B1 := Lib.hid (below_step B0.out hb1)
    have c0 := cell_kept (p := ⟨w.heap.size, 0, none⟩) (v := .slice A bs.length c) (by simp [go_sem]) hb1
    have c1 := cell_kept (p := ⟨w.heap.size + 1, 0, none⟩) (v := .slice none 0 0) (by simp [go_sem]) hb1
    have f1 : w1.frozen? ⟨w.heap.size + 1, 0, none⟩ = false := by rw [hb1.frozen (by simp)]; simp [go_sem]
    clear hb1 HC
    go_wp2_with fail
    refine (HPK.out _ B1.out).mono ?_
    rintro e w2 ⟨hres, hb2⟩
    have B2 := Lib.hid (below_step B1.out hb2)
    have d1 := cell_kept c1 hb2
    have g1 : w2.frozen? ⟨w.heap.size + 1, 0, none⟩ = false := by rw [hb2.frozen (World.block_lt_of_cell? _ _ c1)]; exact f1
    have S2 := Lib.hid (HS.out.below B2.out)
    have hkc5 := Lib.hid (keyCode_count w2 S2.out)
    have hkc7 := Lib.hid (keyCode_foreign w2 S2.out)
    have hkc10 := Lib.hid (keyCode_stuck w2 S2.out)
    unfold errV at hres hkc5 hkc7 hkc10
    clear hb2 c0 c1 f1 HPK
    rcases hres with ⟨rfl, rfl⟩ | ⟨rfl, rfl⟩ | ⟨rfl, rfl⟩
    · go_wp2_with (go_at_call 47; refine hkc5.out.mono ?_; rintro e w' ⟨rfl, rfl⟩)
      exact bodyPost_ret (v := .tuple #[.agg #[.slice none 0 0], .int .i64 5]) (by simp [results, Tryd.results15, go_sem, d1]) rfl ⟨rfl, B2.out.setCell (by simp) _⟩
    · go_wp2_with (go_at_call 47; refine hkc7.out.mono ?_; rintro e w' ⟨rfl, rfl⟩)
      exact bodyPost_ret (v := .tuple #[.agg #[.slice none 0 0], .int .i64 7]) (by simp [results, Tryd.results15, go_sem, d1]) rfl ⟨rfl, B2.out.setCell (by simp) _⟩
    · go_wp2_with (go_at_call 47; refine hkc10.out.mono ?_; rintro e w' ⟨rfl, rfl⟩)
      exact bodyPost_ret (v := .tuple #[.agg #[.slice none 0 0], .int .i64 10]) (by simp [results, Tryd.results15, go_sem, d1]) rfl ⟨rfl, B2.out.setCell (by simp) _⟩
  · have e1 : pbC s bs K = cardC s bs := by rw [pbC, if_neg h1]
    rw [e1] at e ⊢
    obtain ⟨a, ha⟩ : ∃ a, cardC s bs = a := ⟨_, rfl⟩
    rw [ha] at e hck' ⊢
    have HC := Lib.hid hck'
    have hne : ((a : Int) != 0) = true := by rw [bne_iff_ne]; omega
    clear hck' h1 e1 ha h e
    go_enter Tryd.func15, Tryd.ntmps15
    go_wp2_with fail
    refine HC.out.mono ?_
    rintro e w1 ⟨rfl, hb1⟩
    have B1 := Lib.hid (below_step B0.out hb1)
    have c0 := cell_kept (p := ⟨w.heap.size, 0, none⟩) (v := .slice A bs.length c) (by simp [go_sem]) hb1
    have c1 := cell_kept (p := ⟨w.heap.size + 1, 0, none⟩) (v := .slice none 0 0) (by simp [go_sem]) hb1
    have f1 : w1.frozen? ⟨w.heap.size + 1, 0, none⟩ = false := by rw [hb1.frozen (by simp)]; simp [go_sem]
    clear hb1 HC
    go_wp2
    exact bodyPost_ret (v := .tuple #[.agg #[.slice none 0 0], .int .i64 a]) (by simp [results, Tryd.results15, go_sem, c1]) rfl ⟨rfl, B1.out.setCell (by simp) _⟩

set_option maxHeartbeats 1000000 in
theorem implPunchBy_good (A : Option Addr) (c : Nat) (s K : ByteArray) (bs : List Int) (B : Nat) (hs : s.size ≤ 1048576) (hK : K.size ≤ 1048576) (w : World) (h : Ints w B A bs) (hB : B ≤ w.heap.size) (hn : bs.length ≤ 1048576) (hT : Utf8In w) {aC aS aF aL : Addr} (S : PunchErrs w aC aS aF aL) (e : pbC s bs K = 0) :
    Calls Tryd.prog 15 #[.string s, .agg #[.slice A bs.length c], .string K] w (GivesCard (punL s bs K s.size) w) := by
  have b0 := ((below_box w (.cells #[.slice A bs.length c] 29)).alloc (by simp) (.cells #[.slice none 0 0] 29)).alloc (by simp; omega) (.cells #[.slice A bs.length c] 29)
  have hck := checkProgram_any s (some ⟨w.heap.size + 1 + 1, 0, none⟩) 1 [⟨A, c, bs⟩] (w.heap.size + 1 + 1 + 1) (((w.alloc (.cells #[.slice A bs.length c] 29)).alloc (.cells #[.slice none 0 0] 29)).alloc (.cells #[.slice A bs.length c] 29)) (deck_one _ A c bs B (w.heap.size + 1 + 1) (h.below (b0.mono hB)) (by omega) (by simp [go_sem])) (by simp) (by simp) (by simpa using hn) hs
  rw [chkC_one] at hck
  have hck' : Calls Tryd.prog 45 #[.string s, .slice (some ⟨w.heap.size + 1 + 1, 0, none⟩) 1 1] (((w.alloc (.cells #[.slice A bs.length c] 29)).alloc (.cells #[.slice none 0 0] 29)).alloc (.cells #[.slice A bs.length c] 29)) fun e w' => e = .returned (.int .i64 (cardC s bs)) ∧ Below (((w.alloc (.cells #[.slice A bs.length c] 29)).alloc (.cells #[.slice none 0 0] 29)).alloc (.cells #[.slice A bs.length c] 29)).heap.size (((w.alloc (.cells #[.slice A bs.length c] 29)).alloc (.cells #[.slice none 0 0] 29)).alloc (.cells #[.slice A bs.length c] 29)) w' := hck
  have h1 : cardC s bs = 0 := by
    unfold pbC at e
    by_cases a : cardC s bs = 0
    · exact a
    · rw [if_neg a] at e; exact absurd e a
  have h2 : keysC s K = 0 := by rw [pbC, if_pos h1] at e; exact e
  obtain ⟨p1, p2, p3⟩ := cardC_zero h1
  obtain ⟨k1, k2⟩ := keysC_zero h2
  rw [h1] at hck'
  have HC := Lib.hid hck'
  have B0 := Lib.hid b0
  have HS := Lib.hid S
  have hpk := fun W (hW : Below w.heap.size w W) => punchKeys_any s K A c B bs p1 hK k1 W (h.below (hW.mono hB)) (Nat.le_trans hB hW.size) p3 (hT.below hW) (S.keys.below hW)
  have HPK := Lib.hid hpk
  have K2 := Lib.hid k2
  have hlen := Lib.hid (punL_length s bs K s.size)
  clear hck hck' hpk b0 S hT h1 h2 p1 p2 p3 k1 k2 e h
  go_enter Tryd.func15, Tryd.ntmps15
  go_wp2_with fail
  refine HC.out.mono ?_
  rintro e w1 ⟨rfl, hb1⟩
  have B1 := Lib.hid (below_step B0.out hb1)
  have c0 := cell_kept (p := ⟨w.heap.size, 0, none⟩) (v := .slice A bs.length c) (by simp [go_sem]) hb1
  have c1 := cell_kept (p := ⟨w.heap.size + 1, 0, none⟩) (v := .slice none 0 0) (by simp [go_sem]) hb1
  have f1 : w1.frozen? ⟨w.heap.size + 1, 0, none⟩ = false := by rw [hb1.frozen (by simp)]; simp [go_sem]
  clear hb1 HC
  go_wp2_with fail
  refine (HPK.out _ B1.out).mono ?_
  rintro e w2 ⟨hb2, hres⟩
  obtain ⟨g, cap, ex, rfl, hg, hr⟩ : ∃ g cap ex, e = .returned (.tuple #[.slice (some ⟨g, 0, none⟩) s.size cap, .nilIface]) ∧ w1.heap.size ≤ g ∧ Row w2 g (punL s bs K s.size) ex := by
    rcases hres with ⟨_, hh⟩ | ⟨h7, _⟩ | ⟨h10, _⟩
    · exact hh
    · rw [K2.out] at h7; cases h7
    · rw [K2.out] at h10; cases h10
  have B2 := Lib.hid (below_step B1.out hb2)
  have d1 := cell_kept c1 hb2
  have g1 : w2.frozen? ⟨w.heap.size + 1, 0, none⟩ = false := by rw [hb2.frozen (World.block_lt_of_cell? _ _ c1)]; exact f1
  have hg' : w.heap.size + 1 < g := Nat.lt_of_lt_of_le (World.block_lt_of_cell? _ _ c1) hg
  have HKC := Lib.hid (keyCode_nil w2 (HS.out.below B2.out))
  have HR := Lib.hid hr
  have c3 : (w2.setCell ⟨w.heap.size + 1, 0, none⟩ (.slice (some ⟨g, 0, none⟩) s.size cap)).cell? ⟨w.heap.size + 1, 0, none⟩ = some (.slice (some ⟨g, 0, none⟩) s.size cap) := World.cell?_setCell_same _ _ _ d1
  clear hb2 hres hr hg c0 c1 f1 HPK
  go_wp2_with (go_at_call 47; refine HKC.out.mono ?_; rintro e w' ⟨rfl, rfl⟩)
  refine bodyPost_ret (v := .tuple #[.agg #[.slice (some ⟨g, 0, none⟩) s.size cap], .int .i64 0]) (by simp [results, Tryd.results15, go_sem, c3]) rfl ⟨g, cap, ex, by rw [hlen.out], by omega, ?_, ?_⟩
  · exact B2.out.setCell (by simp) _
  · exact HR.out.far (by simp; omega) _
end Go.Proofs.YtjlgfgekiekenaaDoor
