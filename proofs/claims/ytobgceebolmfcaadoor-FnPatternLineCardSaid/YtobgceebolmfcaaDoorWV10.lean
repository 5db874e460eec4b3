/- Laws of chapter 14: what has grown. -/
import Derived.Test.YtobgceebolmfcaaDoorVI14
import Derived.Test.YtobgceebolmfcaaDoorVSA
import Derived.Test.YtobgceebolmfcaaDoorVD
import Derived.Test.YtobgceebolmfcaaDoorWN0
import Derived.Test.YtobgceebolmfcaaDoorTLA
namespace Go.Proofs.YtobgceebolmfcaaDoor
open Go.RowKit
set_option maxRecDepth 100000 in
set_option maxHeartbeats 4000000 in
theorem w_PatternCostGrow (A : Option Addr) (n c : Nat) (hnc : n ≤ c) (hn : n ≤ maxLen) (w : World) (hb : Bytes w w.heap.size A n) (hT : TabW w) :
    Calls Tryd.prog 9 #[.slice A n c] w fun e w' => e = .returned (.bool true) ∧ Below w.heap.size w w' := by
  have hn2 := hn
  unfold maxLen at hn2
  rcases (show 1048576 < n ∨ ¬ 1048576 < n by omega) with hbig | hbig
  · go_enter Tryd.func9, Tryd.ntmps9
    go_wp2
    go_ret
    exact ⟨rfl, Below.refl _ _⟩
  · go_enter Tryd.func9, Tryd.ntmps9
    go_wp2_with fail
    refine (dPGrow_any A n c hnc hn _ hb).mono ?_
    rintro e W ⟨tv, fv, t, f, N, rfl, ht, hf, hl, hlr, hN, hbW⟩
    have HT := Lib.hid ht
    have HF := Lib.hid hf
    have HB := Lib.hid hbW
    have HTW := Lib.hid (hT.below hbW)
    obtain ⟨r, hr⟩ : ∃ r, growO t f N = r := ⟨_, rfl⟩
    have HR := Lib.hid hr
    have b0 := Below.refl W.heap.size W
    clear hb ht hf hbW hl hlr hr hn hT
    go_wp2_with fail
    refine (iGrow_is W t _ HT.out f _ HF.out N r HR.out W b0 HTW.out).mono ?_
    rintro e w1 ⟨v1, rfl, ho1, b1⟩
    go_wp2_with fail
    refine (sGrow_is w1 t _ (HT.out.below b1) f _ (HF.out.below b1) N r HR.out w1 (Below.refl _ _)).mono ?_
    rintro e w2 ⟨v2, rfl, ho2, h2⟩
    have b2 : Below W.heap.size W w2 := b1.trans (h2.mono b1.size)
    replace HT := Lib.hid (HT.out.below b2)
    replace HF := Lib.hid (HF.out.below b2)
    replace HTW := Lib.hid (HTW.out.below b2)
    replace HB := Lib.hid (HB.out.trans (b2.mono HB.out.size))
    have HD := Lib.hid ((ho1.below h2).is)
    have HE := Lib.hid ho2.is
    clear ho1 ho2 b1 h2 b2 b0
    cases r with
    | none =>
      have HD' := Lib.hid (show IsM w2 v1 [] from HD.out)
      have HE' := Lib.hid (show IsM w2 v2 [] from HE.out)
      have b0 := Below.refl w2.heap.size w2
      clear HD HE
      simp only [Option.isSome]
      go_wp2_with fail
      refine (lMask_is w2 [] v1 HD'.out v2 HE'.out _ b0).mono ?_
      rintro e w3 ⟨rfl, b3⟩
      go_wp2_with fail
      refine (lMask_is w2 [] v1 HD'.out v2 HE'.out _ b3).mono ?_
      rintro e w4 ⟨rfl, b4⟩
      go_wp2
      go_ret
      exact ⟨rfl, HB.out.trans (b4.mono HB.out.size)⟩
    | some x =>
      replace HD := Lib.hid (show IsM w2 v1 x from HD.out)
      replace HE := Lib.hid (show IsM w2 v2 x from HE.out)
      have b0 := Below.refl w2.heap.size w2
      simp only [Option.isSome]
      go_wp2_with fail
      refine (lMask_is w2 x v1 HD.out v2 HE.out _ b0).mono ?_
      rintro e w3 ⟨rfl, b3⟩
      clear HE b0
      obtain ⟨h3, hz, hxk, hmore⟩ := grow_some HR.out
      obtain ⟨hfk, _, hN0, hN9⟩ := pOk3_iff.1 h3
      have htb := mk_tab hfk
      have HFK := Lib.hid hfk
      have HXK := Lib.hid hxk
      have HTB := Lib.hid htb
      have HZ := Lib.hid hz
      have HMO := Lib.hid hmore
      have HTA := Lib.hid (tab_iff.2 htb)
      clear h3 hz hxk hmore hfk
      obtain ⟨hc1, hc2⟩ := grow_cost HR.out
      obtain ⟨x1, hx1⟩ : ∃ z, costN t f = z := ⟨_, rfl⟩
      obtain ⟨x2, hx2⟩ : ∃ z, costN t x = z := ⟨_, rfl⟩
      obtain ⟨x3, hx3⟩ : ∃ z, tsum t = z := ⟨_, rfl⟩
      rw [hx1, hx2] at hc1
      rw [hx2, hx3] at hc2
      have X1 := Lib.hid hx1
      have X2 := Lib.hid hx2
      have X3 := Lib.hid (show ttot t = x3 by rw [ttot, if_pos HTA.out, hx3])
      clear hx1 hx2 hx3 htb
      go_wp2_with fail
      refine (iCost_is w2 t _ HT.out x _ HD.out x2 X2.out _ b3 HTW.out).mono ?_
      rintro e w4 ⟨rfl, b4⟩
      go_wp2_with fail
      refine (iCost_is w2 t _ HT.out f _ HF.out x1 X1.out _ b4 HTW.out).mono ?_
      rintro e w5 ⟨rfl, b5⟩
      go_wp2_with fail
      refine (iCost_is w2 t _ HT.out x _ HD.out x2 X2.out _ b5 HTW.out).mono ?_
      rintro e w6 ⟨rfl, b6⟩
      go_wp2_with fail
      refine (iTotal_is w2 t _ HT.out x3 X3.out _ b6).mono ?_
      rintro e w7 ⟨rfl, b7⟩
      go_wp2
      go_ret
      exact ⟨by first | rfl | exact retb (by simp) | exact retb (by simp; omega), HB.out.trans (b7.mono HB.out.size)⟩
set_option maxRecDepth 100000 in
set_option maxHeartbeats 4000000 in
theorem w_PatternFail (A : Option Addr) (n c : Nat) (hnc : n ≤ c) (hn : n ≤ maxLen) (w : World) (hb : Bytes w w.heap.size A n) (hT : TabW w) :
    Calls Tryd.prog 8 #[.slice A n c] w fun e w' => e = .returned (.bool true) ∧ Below w.heap.size w w' := by
  have hn2 := hn
  unfold maxLen at hn2
  rcases (show 1048576 < n ∨ ¬ 1048576 < n by omega) with hbig | hbig
  · go_enter Tryd.func8, Tryd.ntmps8
    go_wp2
    go_ret
    exact ⟨rfl, Below.refl _ _⟩
  · go_enter Tryd.func8, Tryd.ntmps8
    go_wp2_with fail
    refine (dPGrow_any A n c hnc hn _ hb).mono ?_
    rintro e W ⟨tv, fv, t, f, N, rfl, ht, hf, hl, hlr, hN, hbW⟩
    have HT := Lib.hid ht
    have HF := Lib.hid hf
    have HB := Lib.hid hbW
    have HTW := Lib.hid (hT.below hbW)
    obtain ⟨r, hr⟩ : ∃ r, growO t f N = r := ⟨_, rfl⟩
    have HR := Lib.hid hr
    have b0 := Below.refl W.heap.size W
    clear hb ht hf hbW hl hlr hr hn hT
    go_wp2_with fail
    refine (iGrow_is W t _ HT.out f _ HF.out N r HR.out W b0 HTW.out).mono ?_
    rintro e w1 ⟨v1, rfl, ho1, b1⟩
    go_wp2_with fail
    refine (sGrow_is w1 t _ (HT.out.below b1) f _ (HF.out.below b1) N r HR.out w1 (Below.refl _ _)).mono ?_
    rintro e w2 ⟨v2, rfl, ho2, h2⟩
    have b2 : Below W.heap.size W w2 := b1.trans (h2.mono b1.size)
    replace HT := Lib.hid (HT.out.below b2)
    replace HF := Lib.hid (HF.out.below b2)
    replace HTW := Lib.hid (HTW.out.below b2)
    replace HB := Lib.hid (HB.out.trans (b2.mono HB.out.size))
    have HD := Lib.hid ((ho1.below h2).is)
    have HE := Lib.hid ho2.is
    clear ho1 ho2 b1 h2 b2 b0
    cases r with
    | none =>
      have HD' := Lib.hid (show IsM w2 v1 [] from HD.out)
      have HE' := Lib.hid (show IsM w2 v2 [] from HE.out)
      have b0 := Below.refl w2.heap.size w2
      clear HD HE
      simp only [Option.isSome]
      go_wp2_with fail
      refine (lMask_is w2 [] v1 HD'.out v2 HE'.out _ b0).mono ?_
      rintro e w3 ⟨rfl, b3⟩
      go_wp2_with fail
      refine (lMask_is w2 [] v1 HD'.out v2 HE'.out _ b3).mono ?_
      rintro e w4 ⟨rfl, b4⟩
      go_wp2
      go_ret
      exact ⟨rfl, HB.out.trans (b4.mono HB.out.size)⟩
    | some x =>
      replace HD := Lib.hid (show IsM w2 v1 x from HD.out)
      replace HE := Lib.hid (show IsM w2 v2 x from HE.out)
      have b0 := Below.refl w2.heap.size w2
      simp only [Option.isSome]
      go_wp2_with fail
      refine (lMask_is w2 x v1 HD.out v2 HE.out _ b0).mono ?_
      rintro e w3 ⟨rfl, b3⟩
      clear HE b0
      obtain ⟨h3, hz, hxk, hmore⟩ := grow_some HR.out
      obtain ⟨hfk, _, hN0, hN9⟩ := pOk3_iff.1 h3
      have htb := mk_tab hfk
      have HFK := Lib.hid hfk
      have HXK := Lib.hid hxk
      have HTB := Lib.hid htb
      have HZ := Lib.hid hz
      have HMO := Lib.hid hmore
      have HTA := Lib.hid (tab_iff.2 htb)
      clear h3 hz hxk hmore hfk
      have GA := Lib.hid (show decide (needN t f (allM t true) N = 0) = true by rw [decide_eq_true_eq]; exact grow_all HR.out)
      have L1 := Lib.hid (show t.length ≤ 1000 by have := htb.h4; omega)
      have L2 := Lib.hid (show wd t ≤ 1000 by have := htb.w4; omega)
      have L3 := Lib.hid htb.len
      clear htb
      go_wp2_with fail
      refine (lAll_is w2 t _ HT.out (wd t) L1.out L3.out L2.out true (allM t true) rfl _ b3).mono ?_
      rintro e w4 ⟨v4, rfl, ho4, h4⟩
      have b4 := b3.trans (h4.mono b3.size)
      have HA := Lib.hid ho4.is
      replace HTW := Lib.hid (HTW.out.below b4)
      replace HT := Lib.hid (HT.out.below b4)
      replace HF := Lib.hid (HF.out.below b4)
      replace HD := Lib.hid (HD.out.below b4)
      replace HB := Lib.hid (HB.out.trans (b4.mono HB.out.size))
      clear ho4 h4 b4
      have b4 := Below.refl w4.heap.size w4
      go_wp2_with fail
      refine (iOk_is w4 t _ HT.out f _ HF.out (allM t true) _ HA.out N true GA.out _ b4 HTW.out).mono ?_
      rintro e w5 ⟨rfl, b5⟩
      go_wp2_with fail
      refine (iMask_is w4 t _ HT.out x _ HD.out true HXK.out _ b5).mono ?_
      rintro e w6 ⟨rfl, b6⟩
      go_wp2
      go_ret
      exact ⟨by first | rfl | exact retb (by simp) | exact retb (by simp; omega), HB.out.trans (b6.mono HB.out.size)⟩
set_option maxRecDepth 100000 in
set_option maxHeartbeats 4000000 in
theorem w_PatternGrowNone (A : Option Addr) (n c : Nat) (hnc : n ≤ c) (hn : n ≤ maxLen) (w : World) (hb : Bytes w w.heap.size A n) (hT : TabW w) :
    Calls Tryd.prog 7 #[.slice A n c] w fun e w' => e = .returned (.bool true) ∧ Below w.heap.size w w' := by
  have hn2 := hn
  unfold maxLen at hn2
  rcases (show 1048576 < n ∨ ¬ 1048576 < n by omega) with hbig | hbig
  · go_enter Tryd.func7, Tryd.ntmps7
    go_wp2
    go_ret
    exact ⟨rfl, Below.refl _ _⟩
  · go_enter Tryd.func7, Tryd.ntmps7
    go_wp2_with fail
    refine (dPGrow_any A n c hnc hn _ hb).mono ?_
    rintro e W ⟨tv, fv, t, f, N, rfl, ht, hf, hl, hlr, hN, hbW⟩
    have HT := Lib.hid ht
    have HF := Lib.hid hf
    have HB := Lib.hid hbW
    have HTW := Lib.hid (hT.below hbW)
    obtain ⟨r, hr⟩ : ∃ r, growO t f N = r := ⟨_, rfl⟩
    have HR := Lib.hid hr
    have b0 := Below.refl W.heap.size W
    clear hb ht hf hbW hl hlr hr hn hT
    go_wp2_with fail
    refine (iGrow_is W t _ HT.out f _ HF.out N r HR.out W b0 HTW.out).mono ?_
    rintro e w1 ⟨v1, rfl, ho1, b1⟩
    go_wp2_with fail
    refine (sGrow_is w1 t _ (HT.out.below b1) f _ (HF.out.below b1) N r HR.out w1 (Below.refl _ _)).mono ?_
    rintro e w2 ⟨v2, rfl, ho2, h2⟩
    have b2 : Below W.heap.size W w2 := b1.trans (h2.mono b1.size)
    replace HT := Lib.hid (HT.out.below b2)
    replace HF := Lib.hid (HF.out.below b2)
    replace HTW := Lib.hid (HTW.out.below b2)
    replace HB := Lib.hid (HB.out.trans (b2.mono HB.out.size))
    have HD := Lib.hid ((ho1.below h2).is)
    have HE := Lib.hid ho2.is
    clear ho1 ho2 b1 h2 b2 b0
    cases r with
    | none =>
      have HD' := Lib.hid (show IsM w2 v1 [] from HD.out)
      have HE' := Lib.hid (show IsM w2 v2 [] from HE.out)
      have b0 := Below.refl w2.heap.size w2
      clear HD HE
      simp only [Option.isSome]
      go_wp2_with fail
      refine (lMask_is w2 [] v1 HD'.out v2 HE'.out _ b0).mono ?_
      rintro e w3 ⟨rfl, b3⟩
      go_wp2_with fail
      refine (lMask_is w2 [] v1 HD'.out v2 HE'.out _ b3).mono ?_
      rintro e w4 ⟨rfl, b4⟩
      go_wp2
      go_ret
      exact ⟨rfl, HB.out.trans (b4.mono HB.out.size)⟩
    | some x =>
      replace HD := Lib.hid (show IsM w2 v1 x from HD.out)
      replace HE := Lib.hid (show IsM w2 v2 x from HE.out)
      have b0 := Below.refl w2.heap.size w2
      simp only [Option.isSome]
      go_wp2_with fail
      refine (lMask_is w2 x v1 HD.out v2 HE.out _ b0).mono ?_
      rintro e w3 ⟨rfl, b3⟩
      clear HE b0
      obtain ⟨h3, hz, hxk, hmore⟩ := grow_some HR.out
      obtain ⟨hfk, _, hN0, hN9⟩ := pOk3_iff.1 h3
      have htb := mk_tab hfk
      have HFK := Lib.hid hfk
      have HXK := Lib.hid hxk
      have HTB := Lib.hid htb
      have HZ := Lib.hid hz
      have HMO := Lib.hid hmore
      have HTA := Lib.hid (tab_iff.2 htb)
      clear h3 hz hxk hmore hfk
      have G0 := Lib.hid (grow_zero (t := t) HFK.out)
      have G1 := Lib.hid (grow_bare htb hN0 hN9)
      have hmm := grow_many HR.out
      have hf9 : mmany f ≤ 1000000000 := by
        have h1 := (m_mask HFK.out).1
        have h2 := htb.h4
        have h3 := htb.w4
        have : (t.length : Int) * (wd t : Int) ≤ 4 * 4 := Int.mul_le_mul (by omega) (by omega) (by omega) (by omega)
        omega
      have hx9 : mmany x ≤ 1000000000 := by
        have h1 := (m_mask HXK.out).1
        have h2 := htb.h4
        have h3 := htb.w4
        have : (t.length : Int) * (wd t : Int) ≤ 4 * 4 := Int.mul_le_mul (by omega) (by omega) (by omega) (by omega)
        omega
      have ha0 : mmany (allM t false) = 0 := by
        have h1 := mmany_cnt2 (allM_ok htb false)
        rw [cnt2_zero.2 fun a b ha hb => allM_at false ha hb] at h1
        omega
      have F9 := Lib.hid hf9
      have X9 := Lib.hid hx9
      have A9 := Lib.hid (show mmany (allM t false) ≤ 1000000000 by rw [ha0]; omega)
      have A0 := Lib.hid (show ((mmany (allM t false) : Nat) : Int) = 0 by rw [ha0]; rfl)
      obtain ⟨x1, hx1⟩ : ∃ z : Int, ((mmany f : Nat) : Int) = z := ⟨_, rfl⟩
      obtain ⟨x2, hx2⟩ : ∃ z : Int, ((mmany x : Nat) : Int) = z := ⟨_, rfl⟩
      have hle : x1 ≤ x2 := by rw [← hx1, ← hx2]; exact Int.ofNat_le.2 hmm
      have X1 := Lib.hid hx1
      have X2 := Lib.hid hx2
      have L1 := Lib.hid (show t.length ≤ 1000 by have := htb.h4; omega)
      have L2 := Lib.hid (show wd t ≤ 1000 by have := htb.w4; omega)
      have L3 := Lib.hid htb.len
      clear htb hf9 hx9 ha0 hmm hx1 hx2
      go_wp2_with fail
      refine (iGrow_is w2 t _ HT.out f _ HF.out 0 (some f) G0.out _ b3 HTW.out).mono ?_
      rintro e w4 ⟨v4, rfl, ho4, h4⟩
      have b4 := b3.trans (h4.mono b3.size)
      have HP := Lib.hid ho4.is
      replace HTW := Lib.hid (HTW.out.below b4)
      replace HT := Lib.hid (HT.out.below b4)
      replace HF := Lib.hid (HF.out.below b4)
      replace HD := Lib.hid (HD.out.below b4)
      replace HB := Lib.hid (HB.out.trans (b4.mono HB.out.size))
      clear ho4 h4 b4
      have b4 := Below.refl w4.heap.size w4
      go_wp2_with fail
      refine (lAll_is w4 t _ HT.out (wd t) L1.out L3.out L2.out false (allM t false) rfl _ b4).mono ?_
      rintro e w5 ⟨v5, rfl, ho5, h5⟩
      have b5 := b4.trans (h5.mono b4.size)
      have HA := Lib.hid ho5.is
      replace HTW := Lib.hid (HTW.out.below b5)
      replace HT := Lib.hid (HT.out.below b5)
      replace HF := Lib.hid (HF.out.below b5)
      replace HD := Lib.hid (HD.out.below b5)
      replace HP := Lib.hid (HP.out.below b5)
      replace HB := Lib.hid (HB.out.trans (b5.mono HB.out.size))
      clear ho5 h5 b5
      have b5 := Below.refl w5.heap.size w5
      go_wp2_with fail
      refine (iGrow_is w5 t _ HT.out (allM t false) _ HA.out N (some (allM t false)) G1.out _ b5 HTW.out).mono ?_
      rintro e w6 ⟨v6, rfl, ho6, h6⟩
      have b6 := b5.trans (h6.mono b5.size)
      have HQ := Lib.hid ho6.is
      replace HTW := Lib.hid (HTW.out.below b6)
      replace HT := Lib.hid (HT.out.below b6)
      replace HF := Lib.hid (HF.out.below b6)
      replace HD := Lib.hid (HD.out.below b6)
      replace HP := Lib.hid (HP.out.below b6)
      replace HA := Lib.hid (HA.out.below b6)
      replace HB := Lib.hid (HB.out.trans (b6.mono HB.out.size))
      clear ho6 h6 b6
      have b6 := Below.refl w6.heap.size w6
      go_wp2_with fail
      refine (lMask_is w6 f _ HP.out _ HF.out _ b6).mono ?_
      rintro e w7 ⟨rfl, b7⟩
      go_wp2_with fail
      refine (iMaskMany_is w6 (allM t false) _ HQ.out A9.out 0 A0.out _ b7).mono ?_
      rintro e w8 ⟨rfl, b8⟩
      go_wp2_with fail
      refine (iMaskMany_is w6 x _ HD.out X9.out x2 X2.out _ b8).mono ?_
      rintro e w9 ⟨rfl, b9⟩
      go_wp2_with fail
      refine (iMaskMany_is w6 f _ HF.out F9.out x1 X1.out _ b9).mono ?_
      rintro e w10 ⟨rfl, b10⟩
      go_wp2
      go_ret
      exact ⟨by first | rfl | exact retb (by simp) | exact retb (by simp; omega), HB.out.trans (b10.mono HB.out.size)⟩
set_option maxRecDepth 100000 in
set_option maxHeartbeats 4000000 in
theorem w_PatternLine (A : Option Addr) (n c : Nat) (hnc : n ≤ c) (hn : n ≤ maxLen) (w : World) (hb : Bytes w w.heap.size A n) (hT : TabW w) :
    Calls Tryd.prog 10 #[.slice A n c] w fun e w' => e = .returned (.bool true) ∧ Below w.heap.size w w' := by
  have hn2 := hn
  unfold maxLen at hn2
  rcases (show 1048576 < n ∨ ¬ 1048576 < n by omega) with hbig | hbig
  · go_enter Tryd.func10, Tryd.ntmps10
    go_wp2
    go_ret
    exact ⟨rfl, Below.refl _ _⟩
  · go_enter Tryd.func10, Tryd.ntmps10
    go_wp2_with fail
    refine (dPGrow_any A n c hnc hn _ hb).mono ?_
    rintro e W ⟨tv, fv, t, f, N, rfl, ht, hf, hl, hlr, hN, hbW⟩
    have HT := Lib.hid ht
    have HF := Lib.hid hf
    have HB := Lib.hid hbW
    have HTW := Lib.hid (hT.below hbW)
    obtain ⟨r, hr⟩ : ∃ r, growO t f N = r := ⟨_, rfl⟩
    have HR := Lib.hid hr
    have b0 := Below.refl W.heap.size W
    clear hb ht hf hbW hl hlr hr hn hT
    go_wp2_with fail
    refine (iGrow_is W t _ HT.out f _ HF.out N r HR.out W b0 HTW.out).mono ?_
    rintro e w1 ⟨v1, rfl, ho1, b1⟩
    go_wp2_with fail
    refine (sGrow_is w1 t _ (HT.out.below b1) f _ (HF.out.below b1) N r HR.out w1 (Below.refl _ _)).mono ?_
    rintro e w2 ⟨v2, rfl, ho2, h2⟩
    have b2 : Below W.heap.size W w2 := b1.trans (h2.mono b1.size)
    replace HT := Lib.hid (HT.out.below b2)
    replace HF := Lib.hid (HF.out.below b2)
    replace HTW := Lib.hid (HTW.out.below b2)
    replace HB := Lib.hid (HB.out.trans (b2.mono HB.out.size))
    have HD := Lib.hid ((ho1.below h2).is)
    have HE := Lib.hid ho2.is
    clear ho1 ho2 b1 h2 b2 b0
    cases r with
    | none =>
      have HD' := Lib.hid (show IsM w2 v1 [] from HD.out)
      have HE' := Lib.hid (show IsM w2 v2 [] from HE.out)
      have b0 := Below.refl w2.heap.size w2
      clear HD HE
      simp only [Option.isSome]
      go_wp2_with fail
      refine (lMask_is w2 [] v1 HD'.out v2 HE'.out _ b0).mono ?_
      rintro e w3 ⟨rfl, b3⟩
      go_wp2_with fail
      refine (lMask_is w2 [] v1 HD'.out v2 HE'.out _ b3).mono ?_
      rintro e w4 ⟨rfl, b4⟩
      go_wp2
      go_ret
      exact ⟨rfl, HB.out.trans (b4.mono HB.out.size)⟩
    | some x =>
      replace HD := Lib.hid (show IsM w2 v1 x from HD.out)
      replace HE := Lib.hid (show IsM w2 v2 x from HE.out)
      have b0 := Below.refl w2.heap.size w2
      simp only [Option.isSome]
      go_wp2_with fail
      refine (lMask_is w2 x v1 HD.out v2 HE.out _ b0).mono ?_
      rintro e w3 ⟨rfl, b3⟩
      clear HE b0
      obtain ⟨h3, hz, hxk, hmore⟩ := grow_some HR.out
      obtain ⟨hfk, _, hN0, hN9⟩ := pOk3_iff.1 h3
      have htb := mk_tab hfk
      have HFK := Lib.hid hfk
      have HXK := Lib.hid hxk
      have HTB := Lib.hid htb
      have HZ := Lib.hid hz
      have HMO := Lib.hid hmore
      have HTA := Lib.hid (tab_iff.2 htb)
      clear h3 hz hxk hmore hfk
      have hli := grow_line HR.out
      have hf9 : mmany f ≤ 1000000000 := by
        have h1 := (m_mask HFK.out).1
        have h2 := htb.h4
        have h3 := htb.w4
        have : (t.length : Int) * (wd t : Int) ≤ 4 * 4 := Int.mul_le_mul (by omega) (by omega) (by omega) (by omega)
        omega
      have F9 := Lib.hid hf9
      obtain ⟨x1, hx1⟩ : ∃ z, mmany f = z := ⟨_, rfl⟩
      have X1 := Lib.hid (show ((mmany f : Nat) : Int) = (x1 : Int) by rw [hx1])
      rw [hx1] at hli
      obtain ⟨A0, c0, hv0, _, _, hr0⟩ := id HT.out
      obtain ⟨y, hy⟩ : ∃ y, t.length = y := ⟨_, rfl⟩
      obtain ⟨d, hd⟩ : ∃ d, wd t = d := ⟨_, rfl⟩
      obtain ⟨bb, o, Ai, ci, hA, hlb, e0, _, _, _⟩ := hr0.at_ 0 (by have := htb.h1; omega)
      rw [← wd_zero, hd] at e0
      rw [hy] at hv0
      rw [hy, hd] at hli
      have hy1 : 1 ≤ y ∧ 1 ≤ d := by rw [← hy, ← hd]; exact ⟨htb.h1, htb.w1⟩
      subst hA
      subst hv0
      have e3 := (b3.cell (p := ⟨bb, o, none⟩) hlb).trans e0
      have hy0 : (0 : Int) < (y : Int) := by omega
      have hy0n : 0 < y := by omega
      clear htb hf9 hx1 hy hd e0 hlb hr0
      by_cases hn0 : N = 0
      · have hnb : (N == 0) = true := by rw [hn0]; rfl
        go_wp2
        go_ret
        exact ⟨rfl, HB.out.trans (b3.mono HB.out.size)⟩
      have hnb : (N == 0) = false := by rw [beq_eq_false_iff_ne]; exact hn0
      by_cases hyy : 1 < y
      · have hyi : (1 : Int) < (y : Int) := by omega
        by_cases hdd : 1 < d
        · have hdi : (1 : Int) < (d : Int) := by omega
          go_wp2
          go_ret
          exact ⟨rfl, HB.out.trans (b3.mono HB.out.size)⟩
        · have hdi : decide ((1 : Int) < (d : Int)) = false := decide_eq_false (by omega)
          have hx0 : x1 = 0 := by omega
          go_wp2_with fail
          refine (iMaskMany_is w2 f _ HF.out F9.out x1 X1.out _ b3).mono ?_
          rintro e w4 ⟨rfl, b4⟩
          subst hx0
          go_wp2
          go_ret
          exact ⟨rfl, HB.out.trans (b4.mono HB.out.size)⟩
      · have hyi : decide ((1 : Int) < (y : Int)) = false := decide_eq_false (by omega)
        have hx0 : x1 = 0 := by omega
        go_wp2_with fail
        refine (iMaskMany_is w2 f _ HF.out F9.out x1 X1.out _ b3).mono ?_
        rintro e w4 ⟨rfl, b4⟩
        subst hx0
        go_wp2
        go_ret
        exact ⟨rfl, HB.out.trans (b4.mono HB.out.size)⟩
end Go.Proofs.YtobgceebolmfcaaDoor
