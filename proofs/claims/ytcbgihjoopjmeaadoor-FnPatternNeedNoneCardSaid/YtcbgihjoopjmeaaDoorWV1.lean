/- Walks of chapter 14: no pattern. -/
import Derived.Test.YtcbgihjoopjmeaaDoorVIB
import Derived.Test.YtcbgihjoopjmeaaDoorVSA
import Derived.Test.YtcbgihjoopjmeaaDoorVD
import Derived.Test.YtcbgihjoopjmeaaDoorWN0
import Derived.Test.YtcbgihjoopjmeaaDoorRQ
import Derived.Deep.RegionHeld3
namespace Go.Proofs.YtcbgihjoopjmeaaDoor
open Go.RowKit
set_option maxRecDepth 100000 in
set_option maxHeartbeats 4000000 in
theorem w_PatternNeedNone (A : Option Addr) (n c : Nat) (hnc : n ≤ c) (hn : n ≤ maxLen) (w : World) (hb : Bytes w w.heap.size A n) (hT : TabW w) :
    Calls Tryd.prog 8 #[.slice A n c] w fun e w' => e = .returned (.bool true) ∧ Below w.heap.size w w' := by
  have hn2 := hn
  unfold maxLen at hn2
  rcases (show 1048576 < n ∨ ¬ 1048576 < n by omega) with hbig | hbig
  · go_enter Tryd.func8, Tryd.ntmps8
    go_wp2
    go_ret
    exact ⟨rfl, Below.refl _ _⟩
  · go_enter Tryd.func8, Tryd.ntmps8
    go_wp2_with fail
    refine (dPNeed_any A n c hnc hn _ hb).mono ?_
    rintro e W ⟨tv, fv, uv, t, f, m, N, rfl, ht, hf, hu, hl, hlr, hN, hbW⟩
    have HT := Lib.hid ht
    have HF := Lib.hid hf
    have HU := Lib.hid hu
    have HBW := Lib.hid hbW
    have HTW := Lib.hid (hT.below hbW)
    obtain ⟨g, hg⟩ : ∃ g, needN t f m N = g := ⟨_, rfl⟩
    have HG := Lib.hid hg
    clear hb ht hf hu hbW hl hlr hg hn hT
    go_wp2_with fail
    refine (iNeed_is W t _ HT.out f _ HF.out m _ HU.out N g HG.out _ (Below.refl _ _) HTW.out).mono ?_
    rintro e w1 ⟨rfl, b1⟩
    go_wp2_with fail
    refine (sNeed_is W t _ HT.out f _ HF.out m _ HU.out N g HG.out _ b1).mono ?_
    rintro e w2 ⟨rfl, b2⟩
    by_cases hneg : g < 0
    · go_wp2
      go_ret
      exact ⟨rfl, HBW.out.trans (b2.mono HBW.out.size)⟩
    have h3 : pOk3 t f m N = true := needN_ok.1 (by have := HG.out; omega)
    obtain ⟨hfk, hmk, hN0, hN9⟩ := pOk3_iff.1 h3
    have H3 := Lib.hid h3
    have HFK := Lib.hid hfk
    have HMK := Lib.hid hmk
    have htb := mk_tab hmk
    have HTB := Lib.hid htb
    have HFL := Lib.hid (show f.length ≤ 1000 by have := (mk_parts.1 hfk).2.1; have := htb.h4; omega)
    have HFR := Lib.hid (show ∀ r ∈ f, r.length ≤ 100000 from fun r hr => by have := (mk_parts.1 hfk).2.2 r hr; have := htb.w4; omega)
    have HML := Lib.hid (show m.length ≤ 1000 by have := (mk_parts.1 hmk).2.1; have := htb.h4; omega)
    have HMR := Lib.hid (show ∀ r ∈ m, r.length ≤ 100000 from fun r hr => by have := (mk_parts.1 hmk).2.2 r hr; have := htb.w4; omega)
    have HTL := Lib.hid (show t.length ≤ 1000 by have := htb.h4; omega)
    have HTD := Lib.hid htb.len
    have HTD6 := Lib.hid (show wd t ≤ 1000 by have := htb.w4; omega)
    have HTR := Lib.hid (show ∀ r ∈ t, r.length ≤ 100000 from fun r hr => by have := htb.len r hr; have := htb.w4; omega)
    clear b1
    go_wp2_with fail
    refine (lAll_is W t _ HT.out (wd t) HTL.out HTD.out HTD6.out false (allM t false) rfl _ b2).mono ?_
    rintro e x2 ⟨v4, rfl, ho4, h4⟩
    have HV4 := Lib.hid ho4.is
    have z2 := below_step b2 h4
    have HT4 := Lib.hid (HT.out.below z2)
    have HF4 := Lib.hid (HF.out.below z2)
    have HU4 := Lib.hid (HU.out.below z2)
    have HTW4 := Lib.hid (HTW.out.below z2)
    have HB4 := Lib.hid (HBW.out.trans (z2.mono HBW.out.size))
    obtain ⟨M, hM⟩ : ∃ M : Int, (mmany f : Int) = M := ⟨_, rfl⟩
    have HM := Lib.hid hM
    have HN0 := Lib.hid (need_none (n := N) hmk hN0 hN9)
    have HNB := Lib.hid ((need_bare (n := N) hfk hN0 hN9).trans hM)
    have H9 := Lib.hid (show mmany f ≤ 1000000000 by have e := mmany_cnt2 hfk; have b := cnt2_bd t.length (wd t) htb.h4 htb.w4 (hF f); omega)
    clear ho4 h3 hfk hmk htb b2 hM
    go_wp2_with fail
    refine (iNeed_is x2 t _ HT4.out (allM t false) _ HV4.out m _ HU4.out N 0 HN0.out _ (Below.refl _ _) HTW4.out).mono ?_
    rintro e y0 ⟨rfl, k0⟩
    go_wp2_with fail
    refine (iNeed_is x2 t _ HT4.out f _ HF4.out (allM t false) _ HV4.out N M HNB.out _ k0 HTW4.out).mono ?_
    rintro e y1 ⟨rfl, k1⟩
    go_wp2_with fail
    refine (iMaskMany_is x2 f _ HF4.out H9.out M HM.out _ k1).mono ?_
    rintro e y2 ⟨rfl, k2⟩
    go_wp2
    go_ret
    exact ⟨by first | rfl | exact retb (by simp) | exact retb (by simp; omega), HB4.out.trans (k2.mono HB4.out.size)⟩
end Go.Proofs.YtcbgihjoopjmeaaDoor
