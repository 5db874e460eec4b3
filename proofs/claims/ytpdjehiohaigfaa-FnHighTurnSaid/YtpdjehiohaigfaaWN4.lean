/- A law of chapter 13: HighTurn. -/
import Derived.Test.YtpdjehiohaigfaaWN0
import Derived.Deep.RegionHeld3
namespace Go.Proofs.Ytpdjehiohaigfaa
open Go.RowKit
set_option maxRecDepth 100000 in
set_option maxHeartbeats 4000000 in
theorem w_HighTurn (A : Option Addr) (n c : Nat) (hnc : n ≤ c) (hn : n ≤ maxLen) (w : World) (hb : Bytes w w.heap.size A n) :
    Calls Try.prog 3 #[.slice A n c] w fun e w' => e = .returned (.bool true) ∧ Below w.heap.size w w' := by
  have hn2 := hn
  unfold maxLen at hn2
  rcases (show 1048576 < n ∨ ¬ 1048576 < n by omega) with hbig | hbig
  · go_enter Try.func3, Try.ntmps3
    go_wp2
    go_ret
    exact ⟨rfl, Below.refl _ _⟩
  · go_enter Try.func3, Try.ntmps3
    go_wp2_with fail
    refine (dBoundHigh_any A n c hnc hn _ hb).mono ?_
    rintro e W ⟨tv, uv, t, m, i, j, rfl, ht, hu, hl, hlr, hml, hmr, hbW⟩
    have HT := Lib.hid ht
    have HU := Lib.hid hu
    have HBW := Lib.hid hbW
    obtain ⟨g, hg⟩ : ∃ g, hiI t m i j = g := ⟨_, rfl⟩
    have HG := Lib.hid hg
    clear hb ht hu hbW hl hlr hml hmr hg hn
    go_wp2_with fail
    refine (iHigh_is W t _ HT.out m _ HU.out i j g HG.out _ (Below.refl _ _)).mono ?_
    rintro e w1 ⟨rfl, b1⟩
    go_wp2_with fail
    refine (sHigh_is W t _ HT.out m _ HU.out i j g HG.out _ b1).mono ?_
    rintro e w2 ⟨rfl, b2⟩
    by_cases hneg : g < 0
    · go_wp2
      go_ret
      exact ⟨rfl, HBW.out.trans (b2.mono HBW.out.size)⟩
    have hok : bOk t m i j = true := by
      cases e : bOk t m i j
      · exfalso; have h9 := HG.out; rw [hiI, if_neg (by simp [e])] at h9; omega
      · rfl
    obtain ⟨hmk, hi0, hiq, hj0, hjd⟩ := bOk_iff.1 hok
    obtain ⟨a, rfl⟩ := Int.eq_ofNat_of_zero_le hi0
    obtain ⟨b, rfl⟩ := Int.eq_ofNat_of_zero_le hj0
    obtain ⟨htb, hml, hmr⟩ := mk_parts.1 hmk
    have haq : a < t.length := by omega
    have hbd : b < wd t := by omega
    have HMK := Lib.hid hmk
    have HTB := Lib.hid htb
    have HAQ := Lib.hid haq
    have HBD := Lib.hid hbd
    have HML := Lib.hid (show m.length ≤ 1000 by have := htb.h4; omega)
    have HMR := Lib.hid (show ∀ r ∈ m, r.length ≤ 100000 from fun r hr => by have := hmr r hr; have := htb.w4; omega)
    have HTL := Lib.hid (show t.length ≤ 1000 by have := htb.h4; omega)
    have HTD := Lib.hid htb.len
    have HTD6 := Lib.hid (show wd t ≤ 1000 by have := htb.w4; omega)
    have HTR := Lib.hid (show ∀ r ∈ t, r.length ≤ 100000 from fun r hr => by have := htb.len r hr; have := htb.w4; omega)
    clear hok hi0 hj0 b1
    have HTK := Lib.hid (tab_iff.2 HTB.out)
    obtain ⟨g2, hg2⟩ : ∃ g, loI t m a b = g := ⟨_, rfl⟩
    have HG2 := Lib.hid hg2
    obtain ⟨e1, e2⟩ := m_highTurn hmk haq hbd
    rw [HG.out] at e1
    rw [hg2] at e2
    have HG3 := Lib.hid e1
    have HG4 := Lib.hid e2
    have HM1 := Lib.hid (show 1 ≤ m.length by have := htb.h1; omega)
    have HMR2 := Lib.hid hmr
    clear e1 e2 hg2 hmk hml hmr htb
    go_wp2_with fail
    refine (iTurn_is W t _ HT.out (turn t) true (by rw [turnI, if_pos HTK.out]) HTK.out _ b2).mono ?_
    rintro e w3 ⟨v3, rfl, ho3, h3⟩
    have b3 := below_step b2 h3
    have HX3 := Lib.hid ho3.is
    have HT3 := Lib.hid (HT.out.below b3)
    have HU3 := Lib.hid (HU.out.below b3)
    clear ho3 h3 b2
    have HBB := Lib.hid (show ∀ w', Below w3.heap.size w3 w' → Below w.heap.size w w' from fun w' h => HBW.out.trans ((below_step b3 h).mono HBW.out.size))
    go_wp2_with fail
    refine (lTurnM_is w3 m _ HU3.out (wd t) HM1.out HML.out HMR2.out HTD6.out (mturn m) rfl _ (Below.refl w3.heap.size w3)).mono ?_
    rintro e w4 ⟨v4, rfl, ho4, h4⟩
    have y0 := below_step (Below.refl w3.heap.size w3) h4
    have HV4 := Lib.hid ho4.is
    have HY4 := Lib.hid y0
    clear ho4 h4
    go_wp2_with fail
    refine (iHigh_is w4 (turn t) _ (HX3.out.below HY4.out) (mturn m) _ HV4.out b a g HG3.out _ (Below.refl _ _)).mono ?_
    rintro e x1 ⟨rfl, z1⟩
    have y1 := below_step y0 z1
    go_wp2_with fail
    refine (lTurnM_is w3 m _ HU3.out (wd t) HM1.out HML.out HMR2.out HTD6.out (mturn m) rfl _ y1).mono ?_
    rintro e w5 ⟨v5, rfl, ho5, h5⟩
    have y2 := below_step y1 h5
    have HV5 := Lib.hid ho5.is
    have HY5 := Lib.hid y2
    clear ho5 h5
    go_wp2_with fail
    refine (iLow_is w5 (turn t) _ (HX3.out.below HY5.out) (mturn m) _ HV5.out b a g2 HG4.out _ (Below.refl _ _)).mono ?_
    rintro e x3 ⟨rfl, z3⟩
    have y3 := below_step y2 z3
    go_wp2_with fail
    refine (iLow_is w3 t _ HT3.out m _ HU3.out a b g2 HG2.out _ y3).mono ?_
    rintro e x4 ⟨rfl, y4⟩
    go_wp2
    go_ret
    exact ⟨by first | rfl | exact retb (by simp) | exact retb (by simp; omega), HBB.out _ y4⟩
end Go.Proofs.Ytpdjehiohaigfaa
