/- A law of chapter 13: FitTurn. -/
import Derived.Test.YtpdjehiohaigfaaWN0
import Derived.Deep.RegionHeld3
import Derived.Test.YtpdjehiohaigfaaWL0
import Derived.Test.YtpdjehiohaigfaaTD8
import Derived.Test.YtpdjehiohaigfaaIV11
import Derived.Test.YtpdjehiohaigfaaSB6
namespace Go.Proofs.Ytpdjehiohaigfaa
open Go.RowKit
set_option maxRecDepth 100000 in
set_option maxHeartbeats 4000000 in
theorem w_FitTurn (A : Option Addr) (n c : Nat) (hnc : n ≤ c) (hn : n ≤ maxLen) (w : World) (hb : Bytes w w.heap.size A n) :
    Calls Try.prog 7 #[.slice A n c] w fun e w' => e = .returned (.bool true) ∧ Below w.heap.size w w' := by
  have hn2 := hn
  unfold maxLen at hn2
  rcases (show 1048576 < n ∨ ¬ 1048576 < n by omega) with hbig | hbig
  · go_enter Try.func7, Try.ntmps7
    go_wp2
    go_ret
    exact ⟨rfl, Below.refl _ _⟩
  · go_enter Try.func7, Try.ntmps7
    go_wp2_with fail
    refine (dFit_any A n c hnc hn _ hb).mono ?_
    rintro e W ⟨tv, uv, xv, t, m, x, rfl, ht, hu, hx, hl, hlr, hml, hmr, hxl, hxr, hbW⟩
    have HT := Lib.hid ht
    have HU := Lib.hid hu
    have HX := Lib.hid hx
    have HBW := Lib.hid hbW
    obtain ⟨g, hg⟩ : ∃ g, fitB t m x = g := ⟨_, rfl⟩
    have HG := Lib.hid hg
    clear hb ht hu hx hbW hl hlr hml hmr hg hn hxl hxr
    go_wp2_with fail
    refine (iFit_is W t _ HT.out m _ HU.out x _ HX.out g HG.out _ (Below.refl _ _)).mono ?_
    rintro e w1 ⟨rfl, b1⟩
    go_wp2_with fail
    refine (sFit_is W t _ HT.out m _ HU.out x _ HX.out g HG.out _ b1).mono ?_
    rintro e w2 ⟨rfl, b2⟩
    cases g
    · go_wp2
      go_ret
      exact ⟨rfl, HBW.out.trans (b2.mono HBW.out.size)⟩
    have hf := fitB_iff.1 HG.out
    have HFP := Lib.hid hf
    obtain ⟨hmk, hxl, hxr, hff⟩ := hf
    obtain ⟨htb, hml, hmr⟩ := mk_parts.1 hmk
    have HMK := Lib.hid hmk
    have HTB := Lib.hid htb
    have HTK := Lib.hid (tab_iff.2 htb)
    have HML := Lib.hid (show m.length ≤ 1000 by have := htb.h4; omega)
    have HMR := Lib.hid (show ∀ r ∈ m, r.length ≤ 100000 from fun r hr => by have := hmr r hr; have := htb.w4; omega)
    have HMR2 := Lib.hid hmr
    have HM1 := Lib.hid (show 1 ≤ m.length by have := htb.h1; omega)
    have HTL := Lib.hid (show t.length ≤ 1000 by have := htb.h4; omega)
    have HTD := Lib.hid htb.len
    have HTD6 := Lib.hid (show wd t ≤ 1000 by have := htb.w4; omega)
    have HTR := Lib.hid (show ∀ r ∈ t, r.length ≤ 100000 from fun r hr => by have := htb.len r hr; have := htb.w4; omega)
    clear b1 hff
    obtain ⟨gx, hgx⟩ : ∃ gx, tabOk x = gx := ⟨_, rfl⟩
    obtain ⟨tx, htx⟩ : ∃ tx, turnI x = tx := ⟨_, rfl⟩
    have HGX := Lib.hid hgx
    have HTX := Lib.hid htx
    obtain ⟨f1, f2⟩ := m_fitTurn HFP.out
    have HF2 := Lib.hid (fitB_iff.2 f2)
    have HF1 := Lib.hid (show gx = true → fitB (turn t) (mturn m) tx = true from fun h => by
      rw [← HTX.out, turnI, if_pos (by rw [HGX.out, h])]; exact fitB_iff.2 f1)
    clear hgx htx f1 f2 hmk hml hmr htb hxl hxr
    go_wp2_with fail
    refine (iTurn_is W t _ HT.out (turn t) true (by rw [turnI, if_pos HTK.out]) HTK.out _ b2).mono ?_
    rintro e w3 ⟨v3, rfl, ho3, h3⟩
    have b3 := below_step b2 h3
    have HA3 := Lib.hid ho3.is
    go_wp2_with fail
    refine (iTurn_is W x _ HX.out tx gx HTX.out HGX.out _ b3).mono ?_
    rintro e w4 ⟨v4, rfl, ho4, h4⟩
    have b4 := below_step b3 h4
    have HA4 := Lib.hid (HA3.out.below h4)
    have HC4 := Lib.hid ho4.is
    have HT4 := Lib.hid (HT.out.below b4)
    have HU4 := Lib.hid (HU.out.below b4)
    have HX4 := Lib.hid (HX.out.below b4)
    have HBB := Lib.hid (show ∀ w', Below w4.heap.size w4 w' → Below w.heap.size w w' from fun w' h => HBW.out.trans ((below_step b4 h).mono HBW.out.size))
    clear ho3 ho4 b3 b2 h3
    cases gx
    · go_wp2_with fail
      refine (lAll_is w4 t _ HT4.out (wd t) HTL.out HTD.out HTD6.out true (allM t true) rfl _ (Below.refl _ _)).mono ?_
      rintro e w6 ⟨v6, rfl, ho6, h6⟩
      have HV6 := Lib.hid ho6.is
      clear ho6
      go_wp2_with fail
      refine (iFit_is w6 t _ (HT4.out.below h6) (allM t true) _ HV6.out x _ (HX4.out.below h6) true HF2.out _ (Below.refl _ _)).mono ?_
      rintro e w7 ⟨rfl, h7⟩
      go_wp2
      go_ret
      exact ⟨by first | rfl | exact retb (by simp), HBB.out _ (below_step h6 h7)⟩
    have HF3 := Lib.hid (HF1.out rfl)
    go_wp2_with fail
    refine (lTurnM_is w4 m _ HU4.out (wd t) HM1.out HML.out HMR2.out HTD6.out (mturn m) rfl _ (Below.refl _ _)).mono ?_
    rintro e w5 ⟨v5, rfl, ho5, h5⟩
    have HV5 := Lib.hid ho5.is
    clear ho5
    go_wp2_with fail
    refine (iFit_is w5 (turn t) _ (HA4.out.below h5) (mturn m) _ HV5.out tx _ (HC4.out.below h5) true HF3.out _ (Below.refl _ _)).mono ?_
    rintro e w8 ⟨rfl, h8⟩
    have b8 := below_step h5 h8
    go_wp2_with fail
    refine (lAll_is w4 t _ HT4.out (wd t) HTL.out HTD.out HTD6.out true (allM t true) rfl _ b8).mono ?_
    rintro e w6 ⟨v6, rfl, ho6, h6⟩
    have b6 := below_step b8 h6
    have HV6 := Lib.hid ho6.is
    have HT6 := Lib.hid (HT4.out.below b6)
    have HX6 := Lib.hid (HX4.out.below b6)
    clear ho6
    go_wp2_with fail
    refine (iFit_is w6 t _ HT6.out (allM t true) _ HV6.out x _ HX6.out true HF2.out _ (Below.refl _ _)).mono ?_
    rintro e w7 ⟨rfl, h7⟩
    go_wp2
    go_ret
    exact ⟨by first | rfl | exact retb (by simp), HBB.out _ (below_step b6 h7)⟩
end Go.Proofs.Ytpdjehiohaigfaa
