/- Laws of chapter 15 on people. -/
import Derived.Test.YtjgohakiodcjmaaSS
import Derived.Test.YtjgohakiodcjmaaPG
import Derived.Test.YtjgohakiodcjmaaDP
import Derived.Test.YtjgohakiodcjmaaS9
import Derived.Test.YtjgohakiodcjmaaID2
import Derived.Test.YtjgohakiodcjmaaSD
import Derived.Test.YtjgohakiodcjmaaIM12
import Derived.Test.YtjgohakiodcjmaaTLA
set_option maxRecDepth 100000
namespace Go.Proofs.Ytjgohakiodcjmaa
open Go.RowKit
/-- People handed back, and whether it was told. -/
def OutPT (m : List Pn) (t : Bool) (w : World) (e : Ending) (w' : World) : Prop := ∃ v, e = .returned (.tuple #[v, .bool t]) ∧ IsP w' v m ∧ Below w.heap.size w w'
theorem Told.out {m : List Pn} {t : Bool} {w w' : World} {e : Ending} (h : Told m t w e w') : OutPT m t w e w' := by
  obtain ⟨A, c, rfl, h1, h2, h3, h4⟩ := h
  exact ⟨_, rfl, ⟨A, c, rfl, h2, h3, h1⟩, h4⟩
theorem iWith_yes (W : World) (l : List Pn) (v : Value) (hv : IsP W v l) (i : Int) (k : Nat) (hi : i = k) (hk : k < l.length) (hok : okL l = true) (w : World) (hb : Below W.heap.size W w) :
    Calls Try.prog 19 #[v, .int .i64 i] w (OutPT (less1 l k) true w) := by
  obtain ⟨A, c, rfl, h1, h2, h3⟩ := hv.below hb
  exact (yes_at l _ rfl A c k i hi hk w h3 hok _ rfl).mono fun e w' h => h.out
theorem iWith_no (W : World) (l : List Pn) (v : Value) (hv : IsP W v l) (i : Int) (h : okL l = false ∨ i < 0 ∨ (l.length : Int) ≤ i) (w : World) (hb : Below W.heap.size W w) :
    Calls Try.prog 19 #[v, .int .i64 i] w (OutPT [] false w) := by
  obtain ⟨A, c, rfl, h1, h2, h3⟩ := hv.below hb
  exact (no_at l _ rfl A c i w h3 (Nat.le_trans h1 h2) h _ rfl).mono fun e w' h => h.out
theorem sWith_yes (W : World) (l : List Pn) (v : Value) (hv : IsP W v l) (i : Int) (k : Nat) (hi : i = k) (hk : k < l.length) (hok : okL l = true) (w : World) (hb : Below W.heap.size W w) :
    Calls Try.prog 20 #[v, .int .i64 i] w (OutPT (less1 l k) true w) := by
  obtain ⟨A, c, rfl, h1, h2, h3⟩ := hv.below hb
  exact (sYes_at l _ rfl A c k i hi hk h1 w h3 hok _ rfl).mono fun e w' h => h.out
theorem sWith_no (W : World) (l : List Pn) (v : Value) (hv : IsP W v l) (i : Int) (h : okL l = false ∨ i < 0 ∨ (l.length : Int) ≤ i) (w : World) (hb : Below W.heap.size W w) :
    Calls Try.prog 20 #[v, .int .i64 i] w (OutPT [] false w) := by
  obtain ⟨A, c, rfl, h1, h2, h3⟩ := hv.below hb
  exact (sNo_at l _ rfl A c i w h3 (Nat.le_trans h1 h2) h _ rfl).mono fun e w' h => h.out
theorem iPV_is (W : World) (l : List Pn) (v : Value) (hv : IsP W v l) (g : Bool) (hg : okL l = g) (w : World) (hb : Below W.heap.size W w) :
    Calls Try.prog 30 #[v] w (Back (.bool g) W) := by
  obtain ⟨A, c, rfl, h1, h2, h3⟩ := hv.below hb
  rw [← hg]
  exact (valid_any l A c w h3 (Nat.le_trans h1 h2)).mono fun e w' h => ⟨h.1, hb.trans (h.2.mono hb.size)⟩
set_option maxHeartbeats 1000000 in
theorem dDiffSame_any (A : Option Addr) (n c : Nat) (hnc : n ≤ c) (hn : n ≤ maxLen) (w : World) (hb : Bytes w w.heap.size A n) :
    Calls Try.prog 24 #[.slice A n c] w (DrawnPP w) := by
  go_enter Try.func24, Try.ntmps24
  go_wp2_with fail
  refine (dDiffPeople_any A n c hnc hn w hb).mono ?_
  rintro e w' ⟨v, a, v2, b, rfl, h1, h2, h3, h4, h5⟩
  go_wp2
  go_ret2
  exact ⟨v, a, v2, b, rfl, h1, h2, h3, h4, h5⟩
theorem wrap_less (x y : Nat) (hx : x ≤ 1000) (hy : y ≤ 1000) : wrap64 ((x : Int) - (y : Int)) = (x : Int) - (y : Int) := by unfold wrap64; omega
set_option maxHeartbeats 4000000 in
theorem w_DiffPeople (A : Option Addr) (n c : Nat) (hnc : n ≤ c) (hn : n ≤ maxLen) (w : World) (hb : Bytes w w.heap.size A n) :
    Calls Try.prog 3 #[.slice A n c] w fun e w' => e = .returned (.bool true) ∧ Below w.heap.size w w' := by
  have hn2 := hn
  unfold maxLen at hn2
  rcases (show 1048576 < n ∨ ¬ 1048576 < n by omega) with hbig | hbig
  · go_enter Try.func3, Try.ntmps3
    go_wp2
    go_ret
    exact ⟨rfl, Below.refl _ _⟩
  · go_enter Try.func3, Try.ntmps3
    go_wp2_with fail
    refine (dDiffPeople_any A n c hnc hn _ hb).mono ?_
    rintro e W ⟨v, a, v2, b, rfl, hv, hu, hla, hlb, hbW⟩
    have HV := Lib.hid hv
    have HU := Lib.hid hu
    have HB := Lib.hid hbW
    clear hv hu hbW
    obtain ⟨A0, c0, hv0, _, _, _⟩ := id HV.out
    obtain ⟨A1, c1, hv1, _, _, _⟩ := id HU.out
    obtain ⟨x, hx⟩ : ∃ x, a.length = x := ⟨_, rfl⟩
    obtain ⟨y, hy⟩ : ∃ y, b.length = y := ⟨_, rfl⟩
    have HLA := Lib.hid hx
    have HLB := Lib.hid hy
    rw [hx] at hv0 hla
    rw [hy] at hv1 hlb
    subst hv0 hv1
    clear hx hy
    obtain ⟨g, hg⟩ : ∃ g, dppl a b = g := ⟨_, rfl⟩
    have HG := Lib.hid hg
    clear hg
    go_wp2_with fail
    refine (iDPpl_is W a _ HV.out b _ HU.out g HG.out _ (Below.refl _ _)).mono ?_
    rintro e w1 ⟨rfl, b1⟩
    go_wp2_with fail
    refine (sDPpl_is W a _ HV.out b _ HU.out g HG.out _ b1).mono ?_
    rintro e w2 ⟨rfl, b2⟩
    clear b1
    cases g
    · go_wp2
      go_ret
      exact ⟨rfl, HB.out.trans (b2.mono HB.out.size)⟩
    obtain ⟨ha, hb3, hc3⟩ := dppl_parts HG.out
    have O1 := Lib.hid ha
    have O2 := Lib.hid hb3
    have T1 := Lib.hid (show tabI a = tabOf a by rw [tabI, if_pos ha])
    have T2 := Lib.hid (show tabI b = tabOf b by rw [tabI, if_pos hb3])
    have X1 := Lib.hid (dok_iff.2 (dok_tabs ha hb3 hc3))
    have X2 := Lib.hid (diffI_yes X1.out)
    have XZ := Lib.hid (show ttot (diffT (tabOf a) (tabOf b)) = (x : Int) - (y : Int) by rw [tot_tabs HG.out, HLA.out, HLB.out])
    have L1 := Lib.hid (show a.length ≤ 1048576 by rw [HLA.out]; omega)
    have L2 := Lib.hid (show b.length ≤ 1048576 by rw [HLB.out]; omega)
    have hwr := wrap_less x y (by omega) (by omega)
    clear ha hb3 hc3
    go_wp2_with fail
    refine (iTabOf_is W a _ HV.out (tabOf a) true T1.out O1.out L1.out _ b2).mono ?_
    rintro e w3 ⟨v3, rfl, ho3, h3⟩
    have b3 := b2.trans (h3.mono b2.size)
    have HX := Lib.hid ho3.is
    replace HV := Lib.hid (HV.out.below b3)
    replace HU := Lib.hid (HU.out.below b3)
    replace HB := Lib.hid (HB.out.trans (b3.mono HB.out.size))
    clear ho3 h3 b3
    have b3 := Below.refl w3.heap.size w3
    go_wp2_with fail
    refine (iTabOf_is w3 b _ HU.out (tabOf b) true T2.out O2.out L2.out _ b3).mono ?_
    rintro e w4 ⟨v4, rfl, ho4, h4⟩
    have b4 := b3.trans (h4.mono b3.size)
    have HY := Lib.hid ho4.is
    replace HV := Lib.hid (HV.out.below b4)
    replace HU := Lib.hid (HU.out.below b4)
    replace HX := Lib.hid (HX.out.below b4)
    replace HB := Lib.hid (HB.out.trans (b4.mono HB.out.size))
    clear ho4 h4 b4
    have b4 := Below.refl w4.heap.size w4
    go_wp2_with fail
    refine (iDiff_is w4 (tabOf a) _ HX.out (tabOf b) _ HY.out _ true X2.out X1.out _ b4).mono ?_
    rintro e w5 ⟨v5, rfl, ho5, h5⟩
    have b5 := b4.trans (h5.mono b4.size)
    have HZA := Lib.hid ho5.is
    replace HV := Lib.hid (HV.out.below b5)
    replace HU := Lib.hid (HU.out.below b5)
    replace HX := Lib.hid (HX.out.below b5)
    replace HY := Lib.hid (HY.out.below b5)
    replace HB := Lib.hid (HB.out.trans (b5.mono HB.out.size))
    clear ho5 h5 b5
    have b5 := Below.refl w5.heap.size w5
    go_wp2_with fail
    refine (iTotal_is w5 (diffT (tabOf a) (tabOf b)) _ HZA.out _ XZ.out _ b5).mono ?_
    rintro e w6 ⟨rfl, b6⟩
    go_wp2
    go_ret
    exact ⟨by first | rfl | exact retb (by simp) | exact retb (by simp; omega), HB.out.trans (b6.mono HB.out.size)⟩
set_option maxHeartbeats 4000000 in
theorem w_DiffPeopleOne (A : Option Addr) (n c : Nat) (hnc : n ≤ c) (hn : n ≤ maxLen) (w : World) (hb : Bytes w w.heap.size A n) :
    Calls Try.prog 4 #[.slice A n c] w fun e w' => e = .returned (.bool true) ∧ Below w.heap.size w w' := by
  have hn2 := hn
  unfold maxLen at hn2
  rcases (show 1048576 < n ∨ ¬ 1048576 < n by omega) with hbig | hbig
  · go_enter Try.func4, Try.ntmps4
    go_wp2
    go_ret
    exact ⟨rfl, Below.refl _ _⟩
  · go_enter Try.func4, Try.ntmps4
    go_wp2_with fail
    refine (drawWithout_any A n c hnc hn _ hb).mono ?_
    rintro e W ⟨l, A0, c0, k, rfl, hrow, hl8, hlc, hcm, _, _, _, hbW⟩
    have HV := Lib.hid (show IsP W (.slice A0 l.length c0) l from ⟨A0, c0, rfl, hlc, hcm, hrow⟩)
    have HB := Lib.hid hbW
    have HL := Lib.hid (show l.length ≤ 1048576 by omega)
    have HL2 := Lib.hid (show ∀ z, (less1 l z).length ≤ 1000000 from fun z => by simp [less1]; omega)
    have b0 := Below.refl W.heap.size W
    obtain ⟨y, hy⟩ : ∃ y, l.length = y := ⟨_, rfl⟩
    have HY := Lib.hid hy
    have hyy := yes_or_no l k
    rw [hy] at HV hyy ⊢
    clear hrow hlc hcm hbW hl8 hy
    rcases hyy with ⟨hok, z, rfl, hz⟩ | hno
    rotate_left
    · have HNO := Lib.hid (show okL l = false ∨ k < 0 ∨ (l.length : Int) ≤ k by rw [HY.out]; exact hno)
      clear hno
      go_wp2_with fail
      refine (iWith_no W l _ HV.out k HNO.out _ b0).mono ?_
      rintro e w1 ⟨v1, rfl, ho1, h1⟩
      have b1 := b0.trans (h1.mono b0.size)
      have HX := Lib.hid ho1
      replace HV := Lib.hid (HV.out.below b1)
      replace HB := Lib.hid (HB.out.trans (b1.mono HB.out.size))
      clear ho1 h1 b1
      have b1 := Below.refl w1.heap.size w1
      go_wp2_with fail
      refine (sWith_no w1 l _ HV.out k HNO.out _ b1).mono ?_
      rintro e w2 ⟨v2, rfl, ho2, h2⟩
      have b2 := b1.trans (h2.mono b1.size)
      have HZ := Lib.hid ho2
      replace HV := Lib.hid (HV.out.below b2)
      replace HX := Lib.hid (HX.out.below b2)
      replace HB := Lib.hid (HB.out.trans (b2.mono HB.out.size))
      clear ho2 h2 b2
      have b2 := Below.refl w2.heap.size w2
      go_wp2_with fail
      refine (sameP_is w2 [] _ _ (by simp) HX.out HZ.out _ b2).mono ?_
      rintro e w3 ⟨rfl, b3⟩
      go_wp2_with fail
      refine (sameP_is w2 [] _ _ (by simp) HX.out HZ.out _ b3).mono ?_
      rintro e w4 ⟨rfl, b4⟩
      go_wp2
      go_ret
      exact ⟨by first | rfl | exact retb (by simp) | exact retb (by simp; omega), HB.out.trans (b4.mono HB.out.size)⟩
    have hzl : z < l.length := by rw [HY.out]; exact hz
    have HZL := Lib.hid hzl
    have O1 := Lib.hid hok
    have O2 := Lib.hid (less1_ok hzl hok)
    have T1 := Lib.hid (show tabI l = tabOf l by rw [tabI, if_pos hok])
    have T2 := Lib.hid (show tabI (less1 l z) = tabOf (less1 l z) by rw [tabI, if_pos O2.out])
    have D1 := Lib.hid (less1_dppl hzl hok)
    have R1 := Lib.hid (one_risk hzl hok)
    have L2 := Lib.hid (show (less1 l z).length ≤ 1048576 from Nat.le_trans (HL2.out z) (by omega))
    clear hzl hok
    go_wp2_with fail
    refine (iWith_yes W l _ HV.out z z rfl HZL.out O1.out _ b0).mono ?_
    rintro e w1 ⟨v1, rfl, ho1, h1⟩
    have b1 := b0.trans (h1.mono b0.size)
    have HX := Lib.hid ho1
    replace HV := Lib.hid (HV.out.below b1)
    replace HB := Lib.hid (HB.out.trans (b1.mono HB.out.size))
    clear ho1 h1 b1
    have b1 := Below.refl w1.heap.size w1
    go_wp2_with fail
    refine (sWith_yes w1 l _ HV.out z z rfl HZL.out O1.out _ b1).mono ?_
    rintro e w2 ⟨v2, rfl, ho2, h2⟩
    have b2 := b1.trans (h2.mono b1.size)
    have HZ := Lib.hid ho2
    replace HV := Lib.hid (HV.out.below b2)
    replace HX := Lib.hid (HX.out.below b2)
    replace HB := Lib.hid (HB.out.trans (b2.mono HB.out.size))
    clear ho2 h2 b2
    have b2 := Below.refl w2.heap.size w2
    go_wp2_with fail
    refine (sameP_is w2 (less1 l z) _ _ (HL2.out z) HX.out HZ.out _ b2).mono ?_
    rintro e w3 ⟨rfl, b3⟩
    go_wp2_with fail
    refine (iTabOf_is w2 l _ HV.out (tabOf l) true T1.out O1.out HL.out _ b3).mono ?_
    rintro e w4 ⟨v4, rfl, ho4, h4⟩
    have b4 := b3.trans (h4.mono b3.size)
    have HT1 := Lib.hid ho4.is
    replace HV := Lib.hid (HV.out.below b4)
    replace HX := Lib.hid (HX.out.below b4)
    replace HZ := Lib.hid (HZ.out.below b4)
    replace HB := Lib.hid (HB.out.trans (b4.mono HB.out.size))
    clear ho4 h4 b4
    have b4 := Below.refl w4.heap.size w4
    go_wp2_with fail
    refine (iTabOf_is w4 (less1 l z) _ HX.out (tabOf (less1 l z)) true T2.out O2.out L2.out _ b4).mono ?_
    rintro e w5 ⟨v5, rfl, ho5, h5⟩
    have b5 := b4.trans (h5.mono b4.size)
    have HT2 := Lib.hid ho5.is
    replace HV := Lib.hid (HV.out.below b5)
    replace HX := Lib.hid (HX.out.below b5)
    replace HZ := Lib.hid (HZ.out.below b5)
    replace HT1 := Lib.hid (HT1.out.below b5)
    replace HB := Lib.hid (HB.out.trans (b5.mono HB.out.size))
    clear ho5 h5 b5
    have b5 := Below.refl w5.heap.size w5
    go_wp2_with fail
    refine (iDPpl_is w5 l _ HV.out (less1 l z) _ HX.out true D1.out _ b5).mono ?_
    rintro e w6 ⟨rfl, b6⟩
    go_wp2_with fail
    refine (iRisk_is w5 (tabOf l) _ HT1.out (tabOf (less1 l z)) _ HT2.out 2 1 R1.out _ b6).mono ?_
    rintro e w7 ⟨rfl, b7⟩
    go_wp2
    go_ret
    exact ⟨by first | rfl | exact retb (by simp) | exact retb (by simp; omega), HB.out.trans (b7.mono HB.out.size)⟩
set_option maxHeartbeats 4000000 in
theorem w_DiffSame (A : Option Addr) (n c : Nat) (hnc : n ≤ c) (hn : n ≤ maxLen) (w : World) (hb : Bytes w w.heap.size A n) :
    Calls Try.prog 6 #[.slice A n c] w fun e w' => e = .returned (.bool true) ∧ Below w.heap.size w w' := by
  have hn2 := hn
  unfold maxLen at hn2
  rcases (show 1048576 < n ∨ ¬ 1048576 < n by omega) with hbig | hbig
  · go_enter Try.func6, Try.ntmps6
    go_wp2
    go_ret
    exact ⟨rfl, Below.refl _ _⟩
  · go_enter Try.func6, Try.ntmps6
    go_wp2_with fail
    refine (dDiffSame_any A n c hnc hn _ hb).mono ?_
    rintro e W ⟨v, a, v2, b, rfl, hv, hu, hla, hlb, hbW⟩
    have HV := Lib.hid hv
    have HU := Lib.hid hu
    have HB := Lib.hid hbW
    clear hv hu hbW
    obtain ⟨A0, c0, hv0, _, _, _⟩ := id HV.out
    obtain ⟨A1, c1, hv1, _, _, _⟩ := id HU.out
    obtain ⟨x, hx⟩ : ∃ x, a.length = x := ⟨_, rfl⟩
    obtain ⟨y, hy⟩ : ∃ y, b.length = y := ⟨_, rfl⟩
    have HLA := Lib.hid hx
    have HLB := Lib.hid hy
    rw [hx] at hv0 hla
    rw [hy] at hv1 hlb
    subst hv0 hv1
    clear hx hy
    obtain ⟨g, hg⟩ : ∃ g, dsame a b = g := ⟨_, rfl⟩
    have HG := Lib.hid hg
    clear hg
    go_wp2_with fail
    refine (iDSame_is W a _ HV.out b _ HU.out g HG.out _ (Below.refl _ _)).mono ?_
    rintro e w1 ⟨rfl, b1⟩
    go_wp2_with fail
    refine (sDSame_is W a _ HV.out b _ HU.out g HG.out _ b1).mono ?_
    rintro e w2 ⟨rfl, b2⟩
    clear b1
    by_cases hg0 : g < 0
    · go_wp2
      go_ret
      exact ⟨rfl, HB.out.trans (b2.mono HB.out.size)⟩
    obtain ⟨ha, hb3, hgs⟩ := dsame_ok (a := a) (b := b) (by rw [HG.out]; exact hg0)
    rw [HG.out] at hgs
    have O1 := Lib.hid ha
    have O2 := Lib.hid hb3
    have HGS := Lib.hid hgs
    have D1 := Lib.hid (show dsame b a = g by rw [dsame_comm, HG.out])
    have D2 := Lib.hid (show dppl a b = (g == (y : Int)) by
      rw [dppl_as ha hb3, HLB.out, hgs, Bool.eq_iff_iff]; simp; omega)
    have D3 := Lib.hid (show dsame a a = (x : Int) by rw [dsame_self ha, HLA.out])
    have hgx : g ≤ (x : Int) := by
      have := smN_le2 b a
      rw [HLA.out] at this
      rw [hgs]; exact Int.ofNat_le.2 this
    have hgy : g ≤ (y : Int) := by
      have := smN_le b a
      rw [HLB.out] at this
      rw [hgs]; exact Int.ofNat_le.2 this
    clear ha hb3 hgs
    go_wp2_with fail
    refine (iDSame_is W b _ HU.out a _ HV.out g D1.out _ b2).mono ?_
    rintro e w3 ⟨rfl, b3⟩
    go_wp2_with fail
    refine (iDPpl_is W a _ HV.out b _ HU.out (g == (y : Int)) D2.out _ b3).mono ?_
    rintro e w4 ⟨rfl, b4⟩
    go_wp2_with fail
    refine (iDSame_is W a _ HV.out a _ HV.out (x : Int) D3.out _ b4).mono ?_
    rintro e w5 ⟨rfl, b5⟩
    go_wp2
    go_ret
    exact ⟨by first | rfl | exact retb (by simp) | exact retb (by simp; omega), HB.out.trans (b5.mono HB.out.size)⟩
set_option maxHeartbeats 4000000 in
theorem w_DiffPeopleAll (A : Option Addr) (n c : Nat) (hnc : n ≤ c) (hn : n ≤ maxLen) (A2 : Option Addr) (m c2 : Nat) (_hmc : m ≤ c2) (hm : m ≤ maxLen) (w : World) (hb : Bytes w w.heap.size A n) (_hb2 : Bytes w w.heap.size A2 m) :
    Calls Try.prog 9 #[.slice A n c, .slice A2 m c2] w fun e w' => e = .returned (.bool true) ∧ Below w.heap.size w w' := by
  have hn2 := hn
  have hm2 := hm
  unfold maxLen at hn2 hm2
  rcases (show 1048576 < n ∨ (¬ 1048576 < n ∧ 1048576 < m) ∨ ¬ 1048576 < n ∧ ¬ 1048576 < m by omega) with hbig | ⟨hbig, hbig2⟩ | ⟨hbig, hbig2⟩
  · go_enter Try.func9, Try.ntmps9
    go_wp2
    go_ret
    exact ⟨rfl, Below.refl _ _⟩
  · go_enter Try.func9, Try.ntmps9
    go_wp2
    go_ret
    exact ⟨rfl, Below.refl _ _⟩
  · go_enter Try.func9, Try.ntmps9
    go_wp2_with fail
    refine (drawValid_any A n c hnc hn _ hb).mono ?_
    rintro e W ⟨l, A0, c0, rfl, hrow, hl41, hlc, hcm, hbW⟩
    have HV := Lib.hid (show IsP W (.slice A0 l.length c0) l from ⟨A0, c0, rfl, hlc, hcm, hrow⟩)
    have HB := Lib.hid hbW
    obtain ⟨y, hy⟩ : ∃ y, l.length = y := ⟨_, rfl⟩
    have HY := Lib.hid hy
    obtain ⟨g, hg⟩ : ∃ g, okL l = g := ⟨_, rfl⟩
    have HG := Lib.hid hg
    obtain ⟨k, hk, hky⟩ := modCutA m y
    have HK := Lib.hid hk
    have r1 := hrow.frontA (k := k)
    have HV2 := Lib.hid (show IsP W (.slice A0 k c0) (l.take k) from ⟨A0, c0, by rw [List.length_take, hy, Nat.min_eq_left hky], by rw [List.length_take]; omega, hcm, r1⟩)
    rw [hy] at HV hl41 hlc ⊢
    have hkc : k ≤ c0 := by omega
    have hkc2 : (k : Int) ≤ (c0 : Int) := by omega
    have hky2 : (k : Int) ≤ (y : Int) := by omega
    clear hrow hcm hbW hy hg hk r1
    go_wp2_with fail
    refine (iPV_is W l _ HV.out g HG.out _ (Below.refl _ _)).mono ?_
    rintro e w1 ⟨rfl, b1⟩
    go_wp2_with fail
    refine (sPV_is W l _ HV.out g HG.out _ b1).mono ?_
    rintro e w2 ⟨rfl, b2⟩
    clear b1
    cases g
    · go_wp2
      go_ret
      exact ⟨rfl, HB.out.trans (b2.mono HB.out.size)⟩
    have D1 := Lib.hid (show dppl l l = true from dppl_of HG.out HG.out fun _ => Nat.le_refl _)
    have D2 := Lib.hid (dppl_take HG.out k)
    have D3 := Lib.hid (show dppl (l.take k) l = ((k : Int) == (y : Int)) by
      rw [dppl_takeL HG.out (by rw [HY.out]; exact hky), HY.out, Bool.eq_iff_iff]; simp; omega)
    go_wp2_with fail
    rw [HK.out]
    refine (iDPpl_is W l _ HV.out l _ HV.out true D1.out _ b2).mono ?_
    rintro e w3 ⟨rfl, b3⟩
    go_wp2_with fail
    refine (iDPpl_is W l _ HV.out (l.take k) _ HV2.out true D2.out _ b3).mono ?_
    rintro e w4 ⟨rfl, b4⟩
    go_wp2_with fail
    refine (iDPpl_is W (l.take k) _ HV2.out l _ HV.out ((k : Int) == (y : Int)) D3.out _ b4).mono ?_
    rintro e w5 ⟨rfl, b5⟩
    go_wp2
    go_ret
    exact ⟨by first | rfl | exact retb (by simp) | exact retb (by simp; omega), HB.out.trans (b5.mono HB.out.size)⟩
end Go.Proofs.Ytjgohakiodcjmaa
