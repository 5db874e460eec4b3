/- Laws of chapter 15 on tables. -/
import Derived.Test.YtkdffgcmnanniaaID2
import Derived.Test.YtkdffgcmnanniaaSD
import Derived.Test.YtkdffgcmnanniaaDT
import Derived.Test.YtkdffgcmnanniaaTLA
import Derived.Test.YtkdffgcmnanniaaA4
import Derived.Test.YtkdffgcmnanniaaIM11
set_option maxRecDepth 100000
namespace Go.Proofs.Ytkdffgcmnanniaa
open Go.RowKit
set_option maxHeartbeats 4000000 in
theorem w_DiffTwice (A : Option Addr) (n c : Nat) (hnc : n ≤ c) (hn : n ≤ maxLen) (w : World) (hb : Bytes w w.heap.size A n) :
    Calls Try.prog 4 #[.slice A n c] w fun e w' => e = .returned (.bool true) ∧ Below w.heap.size w w' := by
  have hn2 := hn
  unfold maxLen at hn2
  rcases (show 1048576 < n ∨ ¬ 1048576 < n by omega) with hbig | hbig
  · go_enter Try.func4, Try.ntmps4
    go_wp2
    go_ret
    exact ⟨rfl, Below.refl _ _⟩
  · go_enter Try.func4, Try.ntmps4
    go_wp2_with fail
    refine (dDiffTable_any A n c hnc hn _ hb).mono ?_
    rintro e W ⟨v, t, v2, u, rfl, hv, hu, _, _, hbW⟩
    have HV := Lib.hid hv
    have HU := Lib.hid hu
    obtain ⟨g, hg⟩ : ∃ g, diffOk t u = g := ⟨_, rfl⟩
    obtain ⟨m, hm⟩ : ∃ m, diffI t u = m := ⟨_, rfl⟩
    have HG := Lib.hid hg
    have HM := Lib.hid hm
    clear hv hu hg hm
    go_wp2_with fail
    refine (iDiff_is W t _ HV.out u _ HU.out m g HM.out HG.out _ (Below.refl _ _)).mono ?_
    rintro e w1 ⟨v1, rfl, ho1, b1⟩
    replace HV := Lib.hid (HV.out.below b1)
    replace HU := Lib.hid (HU.out.below b1)
    go_wp2_with fail
    refine (sDiff_is w1 t _ HV.out u _ HU.out m g HM.out HG.out _ (Below.refl _ _)).mono ?_
    rintro e w2 ⟨v9, rfl, ho2, b2⟩
    have HD := Lib.hid ((ho1.below b2).is)
    have HE := Lib.hid ho2.is
    replace HV := Lib.hid (HV.out.below b2)
    replace HU := Lib.hid (HU.out.below b2)
    have HB := Lib.hid (hbW.trans ((b1.trans (b2.mono b1.size)).mono hbW.size))
    clear ho1 ho2 b1 b2 hbW
    go_wp2_with fail
    refine (lRows_is w2 m v1 HD.out v9 HE.out _ (Below.refl _ _)).mono ?_
    rintro e w3 ⟨rfl, b3⟩
    cases g
    · go_wp2_with fail
      refine (lRows_is w2 m v1 HD.out v9 HE.out _ b3).mono ?_
      rintro e w4 ⟨rfl, b4⟩
      go_wp2
      go_ret
      exact ⟨rfl, HB.out.trans (b4.mono HB.out.size)⟩
    have hd := dok_iff.1 HG.out
    have hm : m = diffT t u := by rw [← HM.out, diffI_yes HG.out]
    subst hm
    have HDK := Lib.hid hd
    have HTT := Lib.hid (tab_iff.2 hd.ht)
    have HTU := Lib.hid (tab_iff.2 hd.hu)
    have HTD := Lib.hid (tab_iff.2 hd.d)
    clear HM HE
    obtain ⟨h1, h2⟩ := diff_twice hd
    have HX1 := Lib.hid (dok_iff.2 h1)
    have HX2 := Lib.hid (show diffI t (diffT t u) = u by rw [diffI_yes HX1.out, h2])
    clear hd h1 h2
    go_wp2_with fail
    refine (iDiff_is w2 t _ HV.out (diffT t u) _ HD.out u true HX2.out HX1.out _ b3).mono ?_
    rintro e w4 ⟨v4, rfl, ho4, h4⟩
    have b4 := b3.trans (h4.mono b3.size)
    have HX := Lib.hid ho4.is
    replace HV := Lib.hid (HV.out.below b4)
    replace HU := Lib.hid (HU.out.below b4)
    replace HD := Lib.hid (HD.out.below b4)
    replace HB := Lib.hid (HB.out.trans (b4.mono HB.out.size))
    clear ho4 h4 b4
    have b4 := Below.refl w4.heap.size w4
    go_wp2_with fail
    refine (lRows_is w4 u _ HX.out _ HU.out _ b4).mono ?_
    rintro e w5 ⟨rfl, b5⟩
    go_wp2
    go_ret
    exact ⟨by first | rfl | exact retb (by simp) | exact retb (by simp; omega), HB.out.trans (b5.mono HB.out.size)⟩
set_option maxHeartbeats 4000000 in
theorem w_DiffTurn (A : Option Addr) (n c : Nat) (hnc : n ≤ c) (hn : n ≤ maxLen) (w : World) (hb : Bytes w w.heap.size A n) :
    Calls Try.prog 6 #[.slice A n c] w fun e w' => e = .returned (.bool true) ∧ Below w.heap.size w w' := by
  have hn2 := hn
  unfold maxLen at hn2
  rcases (show 1048576 < n ∨ ¬ 1048576 < n by omega) with hbig | hbig
  · go_enter Try.func6, Try.ntmps6
    go_wp2
    go_ret
    exact ⟨rfl, Below.refl _ _⟩
  · go_enter Try.func6, Try.ntmps6
    go_wp2_with fail
    refine (dDiffTable_any A n c hnc hn _ hb).mono ?_
    rintro e W ⟨v, t, v2, u, rfl, hv, hu, _, _, hbW⟩
    have HV := Lib.hid hv
    have HU := Lib.hid hu
    obtain ⟨g, hg⟩ : ∃ g, diffOk t u = g := ⟨_, rfl⟩
    obtain ⟨m, hm⟩ : ∃ m, diffI t u = m := ⟨_, rfl⟩
    have HG := Lib.hid hg
    have HM := Lib.hid hm
    clear hv hu hg hm
    go_wp2_with fail
    refine (iDiff_is W t _ HV.out u _ HU.out m g HM.out HG.out _ (Below.refl _ _)).mono ?_
    rintro e w1 ⟨v1, rfl, ho1, b1⟩
    replace HV := Lib.hid (HV.out.below b1)
    replace HU := Lib.hid (HU.out.below b1)
    go_wp2_with fail
    refine (sDiff_is w1 t _ HV.out u _ HU.out m g HM.out HG.out _ (Below.refl _ _)).mono ?_
    rintro e w2 ⟨v9, rfl, ho2, b2⟩
    have HD := Lib.hid ((ho1.below b2).is)
    have HE := Lib.hid ho2.is
    replace HV := Lib.hid (HV.out.below b2)
    replace HU := Lib.hid (HU.out.below b2)
    have HB := Lib.hid (hbW.trans ((b1.trans (b2.mono b1.size)).mono hbW.size))
    clear ho1 ho2 b1 b2 hbW
    go_wp2_with fail
    refine (lRows_is w2 m v1 HD.out v9 HE.out _ (Below.refl _ _)).mono ?_
    rintro e w3 ⟨rfl, b3⟩
    cases g
    · go_wp2_with fail
      refine (lRows_is w2 m v1 HD.out v9 HE.out _ b3).mono ?_
      rintro e w4 ⟨rfl, b4⟩
      go_wp2
      go_ret
      exact ⟨rfl, HB.out.trans (b4.mono HB.out.size)⟩
    have hd := dok_iff.1 HG.out
    have hm : m = diffT t u := by rw [← HM.out, diffI_yes HG.out]
    subst hm
    have HDK := Lib.hid hd
    have HTT := Lib.hid (tab_iff.2 hd.ht)
    have HTU := Lib.hid (tab_iff.2 hd.hu)
    have HTD := Lib.hid (tab_iff.2 hd.d)
    clear HM HE
    obtain ⟨h1, h2⟩ := diff_turn hd
    have HX1 := Lib.hid (dok_iff.2 h1)
    have HX2 := Lib.hid (show diffI (turn t) (turn u) = turn (diffT t u) by rw [diffI_yes HX1.out, h2])
    have T1 := Lib.hid (show turnI t = turn t by rw [turnI, if_pos HTT.out])
    have T2 := Lib.hid (show turnI u = turn u by rw [turnI, if_pos HTU.out])
    have T3 := Lib.hid (show turnI (diffT t u) = turn (diffT t u) by rw [turnI, if_pos HTD.out])
    obtain ⟨z, hz⟩ : ∃ z, riskI t u 3 = z := ⟨_, rfl⟩
    have HZ := Lib.hid hz
    have HZ2 := Lib.hid (show riskI (turn t) (turn u) 3 = z by rw [risk_turn hd, hz])
    clear hd h1 h2 hz
    go_wp2_with fail
    refine (iTurn_is w2 t _ HV.out (turn t) true T1.out HTT.out _ b3).mono ?_
    rintro e w4 ⟨v4, rfl, ho4, h4⟩
    have b4 := b3.trans (h4.mono b3.size)
    have HX := Lib.hid ho4.is
    replace HV := Lib.hid (HV.out.below b4)
    replace HU := Lib.hid (HU.out.below b4)
    replace HD := Lib.hid (HD.out.below b4)
    replace HB := Lib.hid (HB.out.trans (b4.mono HB.out.size))
    clear ho4 h4 b4
    have b4 := Below.refl w4.heap.size w4
    go_wp2_with fail
    refine (iTurn_is w4 u _ HU.out (turn u) true T2.out HTU.out _ b4).mono ?_
    rintro e w5 ⟨v5, rfl, ho5, h5⟩
    have b5 := b4.trans (h5.mono b4.size)
    have HY := Lib.hid ho5.is
    replace HV := Lib.hid (HV.out.below b5)
    replace HU := Lib.hid (HU.out.below b5)
    replace HD := Lib.hid (HD.out.below b5)
    replace HX := Lib.hid (HX.out.below b5)
    replace HB := Lib.hid (HB.out.trans (b5.mono HB.out.size))
    clear ho5 h5 b5
    have b5 := Below.refl w5.heap.size w5
    go_wp2_with fail
    refine (iDiff_is w5 (turn t) _ HX.out (turn u) _ HY.out (turn (diffT t u)) true HX2.out HX1.out _ b5).mono ?_
    rintro e w6 ⟨v6, rfl, ho6, h6⟩
    have b6 := b5.trans (h6.mono b5.size)
    have HZA := Lib.hid ho6.is
    replace HV := Lib.hid (HV.out.below b6)
    replace HU := Lib.hid (HU.out.below b6)
    replace HD := Lib.hid (HD.out.below b6)
    replace HX := Lib.hid (HX.out.below b6)
    replace HY := Lib.hid (HY.out.below b6)
    replace HB := Lib.hid (HB.out.trans (b6.mono HB.out.size))
    clear ho6 h6 b6
    have b6 := Below.refl w6.heap.size w6
    go_wp2_with fail
    refine (iTurn_is w6 (diffT t u) _ HD.out (turn (diffT t u)) true T3.out HTD.out _ b6).mono ?_
    rintro e w7 ⟨v7, rfl, ho7, h7⟩
    have b7 := b6.trans (h7.mono b6.size)
    have HW := Lib.hid ho7.is
    replace HV := Lib.hid (HV.out.below b7)
    replace HU := Lib.hid (HU.out.below b7)
    replace HD := Lib.hid (HD.out.below b7)
    replace HX := Lib.hid (HX.out.below b7)
    replace HY := Lib.hid (HY.out.below b7)
    replace HZA := Lib.hid (HZA.out.below b7)
    replace HB := Lib.hid (HB.out.trans (b7.mono HB.out.size))
    clear ho7 h7 b7
    have b7 := Below.refl w7.heap.size w7
    go_wp2_with fail
    refine (lRows_is w7 (turn (diffT t u)) _ HZA.out _ HW.out _ b7).mono ?_
    rintro e w8 ⟨rfl, b8⟩
    go_wp2_with fail
    refine (iRisk_is w7 (turn t) _ HX.out (turn u) _ HY.out 3 z HZ2.out _ b8).mono ?_
    rintro e w9 ⟨rfl, b9⟩
    go_wp2_with fail
    refine (iRisk_is w7 t _ HV.out u _ HU.out 3 z HZ.out _ b9).mono ?_
    rintro e w10 ⟨rfl, b10⟩
    go_wp2
    go_ret
    exact ⟨by first | rfl | exact retb (by simp) | exact retb (by simp; omega), HB.out.trans (b10.mono HB.out.size)⟩
set_option maxHeartbeats 4000000 in
theorem w_DiffFold (A : Option Addr) (n c : Nat) (hnc : n ≤ c) (hn : n ≤ maxLen) (w : World) (hb : Bytes w w.heap.size A n) :
    Calls Try.prog 7 #[.slice A n c] w fun e w' => e = .returned (.bool true) ∧ Below w.heap.size w w' := by
  have hn2 := hn
  unfold maxLen at hn2
  rcases (show 1048576 < n ∨ ¬ 1048576 < n by omega) with hbig | hbig
  · go_enter Try.func7, Try.ntmps7
    go_wp2
    go_ret
    exact ⟨rfl, Below.refl _ _⟩
  · go_enter Try.func7, Try.ntmps7
    go_wp2_with fail
    refine (dDiffTable_any A n c hnc hn _ hb).mono ?_
    rintro e W ⟨v, t, v2, u, rfl, hv, hu, _, _, hbW⟩
    have HV := Lib.hid hv
    have HU := Lib.hid hu
    obtain ⟨g, hg⟩ : ∃ g, diffOk t u = g := ⟨_, rfl⟩
    obtain ⟨m, hm⟩ : ∃ m, diffI t u = m := ⟨_, rfl⟩
    have HG := Lib.hid hg
    have HM := Lib.hid hm
    clear hv hu hg hm
    go_wp2_with fail
    refine (iDiff_is W t _ HV.out u _ HU.out m g HM.out HG.out _ (Below.refl _ _)).mono ?_
    rintro e w1 ⟨v1, rfl, ho1, b1⟩
    replace HV := Lib.hid (HV.out.below b1)
    replace HU := Lib.hid (HU.out.below b1)
    go_wp2_with fail
    refine (sDiff_is w1 t _ HV.out u _ HU.out m g HM.out HG.out _ (Below.refl _ _)).mono ?_
    rintro e w2 ⟨v9, rfl, ho2, b2⟩
    have HD := Lib.hid ((ho1.below b2).is)
    have HE := Lib.hid ho2.is
    replace HV := Lib.hid (HV.out.below b2)
    replace HU := Lib.hid (HU.out.below b2)
    have HB := Lib.hid (hbW.trans ((b1.trans (b2.mono b1.size)).mono hbW.size))
    clear ho1 ho2 b1 b2 hbW
    go_wp2_with fail
    refine (lRows_is w2 m v1 HD.out v9 HE.out _ (Below.refl _ _)).mono ?_
    rintro e w3 ⟨rfl, b3⟩
    cases g
    · go_wp2_with fail
      refine (lRows_is w2 m v1 HD.out v9 HE.out _ b3).mono ?_
      rintro e w4 ⟨rfl, b4⟩
      go_wp2
      go_ret
      exact ⟨rfl, HB.out.trans (b4.mono HB.out.size)⟩
    have hd := dok_iff.1 HG.out
    have hm : m = diffT t u := by rw [← HM.out, diffI_yes HG.out]
    subst hm
    have HDK := Lib.hid hd
    have HTT := Lib.hid (tab_iff.2 hd.ht)
    have HTU := Lib.hid (tab_iff.2 hd.hu)
    have HTD := Lib.hid (tab_iff.2 hd.d)
    clear HM HE
    obtain ⟨p, hp⟩ : ∃ p, foldOk t 0 1 = p := ⟨_, rfl⟩
    obtain ⟨r, hr⟩ : ∃ r, foldOk u 0 1 = r := ⟨_, rfl⟩
    have HP := Lib.hid hp
    have HR := Lib.hid hr
    clear hd hp hr
    go_wp2_with fail
    refine (iFold_is w2 t _ HV.out 0 1 _ p rfl HP.out _ b3).mono ?_
    rintro e w4 ⟨v4, rfl, ho4, h4⟩
    have b4 := b3.trans (h4.mono b3.size)
    have HX := Lib.hid ho4.is
    replace HV := Lib.hid (HV.out.below b4)
    replace HU := Lib.hid (HU.out.below b4)
    replace HD := Lib.hid (HD.out.below b4)
    replace HB := Lib.hid (HB.out.trans (b4.mono HB.out.size))
    clear ho4 h4 b4
    have b4 := Below.refl w4.heap.size w4
    go_wp2_with fail
    refine (iFold_is w4 u _ HU.out 0 1 _ r rfl HR.out _ b4).mono ?_
    rintro e w5 ⟨v5, rfl, ho5, h5⟩
    have b5 := b4.trans (h5.mono b4.size)
    have HY := Lib.hid ho5.is
    replace HV := Lib.hid (HV.out.below b5)
    replace HU := Lib.hid (HU.out.below b5)
    replace HD := Lib.hid (HD.out.below b5)
    replace HX := Lib.hid (HX.out.below b5)
    replace HB := Lib.hid (HB.out.trans (b5.mono HB.out.size))
    clear ho5 h5 b5
    have b5 := Below.refl w5.heap.size w5
    rcases (show (p = true ∧ r = true) ∨ p = false ∨ (p = true ∧ r = false) by cases p <;> cases r <;> simp) with ⟨rfl, rfl⟩ | rfl | ⟨rfl, rfl⟩
    · have hd := HDK.out
      obtain ⟨h1, h2, h3⟩ := diff_fold hd HP.out HR.out
      have e1 : foldI t 0 1 = foldT t 0 1 := by rw [foldI, if_pos HP.out]; rfl
      have e2 : foldI u 0 1 = foldT u 0 1 := by rw [foldI, if_pos HR.out]; rfl
      have e3 : foldI (diffT t u) 0 1 = foldT (diffT t u) 0 1 := by rw [foldI, if_pos h2]; rfl
      rw [e1] at HX
      rw [e2] at HY
      have HX1 := Lib.hid (dok_iff.2 h1)
      have HX2 := Lib.hid (show diffI (foldT t 0 1) (foldT u 0 1) = foldT (diffT t u) 0 1 by rw [diffI_yes HX1.out, h3])
      have HX3 := Lib.hid e3
      have HX4 := Lib.hid h2
      clear hd h1 h2 h3 e1 e2 e3
      go_wp2_with fail
      refine (iDiff_is w5 (foldT t 0 1) _ HX.out (foldT u 0 1) _ HY.out _ true HX2.out HX1.out _ b5).mono ?_
      rintro e w6 ⟨v6, rfl, ho6, h6⟩
      have b6 := b5.trans (h6.mono b5.size)
      have HZA := Lib.hid ho6.is
      replace HV := Lib.hid (HV.out.below b6)
      replace HU := Lib.hid (HU.out.below b6)
      replace HD := Lib.hid (HD.out.below b6)
      replace HX := Lib.hid (HX.out.below b6)
      replace HY := Lib.hid (HY.out.below b6)
      replace HB := Lib.hid (HB.out.trans (b6.mono HB.out.size))
      clear ho6 h6 b6
      have b6 := Below.refl w6.heap.size w6
      go_wp2_with fail
      refine (iFold_is w6 (diffT t u) _ HD.out 0 1 _ true HX3.out HX4.out _ b6).mono ?_
      rintro e w7 ⟨v7, rfl, ho7, h7⟩
      have b7 := b6.trans (h7.mono b6.size)
      have HW := Lib.hid ho7.is
      replace HV := Lib.hid (HV.out.below b7)
      replace HU := Lib.hid (HU.out.below b7)
      replace HD := Lib.hid (HD.out.below b7)
      replace HX := Lib.hid (HX.out.below b7)
      replace HY := Lib.hid (HY.out.below b7)
      replace HZA := Lib.hid (HZA.out.below b7)
      replace HB := Lib.hid (HB.out.trans (b7.mono HB.out.size))
      clear ho7 h7 b7
      have b7 := Below.refl w7.heap.size w7
      go_wp2_with fail
      refine (lRows_is w7 (foldT (diffT t u) 0 1) _ HZA.out _ HW.out _ b7).mono ?_
      rintro e w8 ⟨rfl, b8⟩
      go_wp2
      go_ret
      exact ⟨by first | rfl | exact retb (by simp) | exact retb (by simp; omega), HB.out.trans (b8.mono HB.out.size)⟩
    · obtain ⟨A9, c9, hv9, hc9, hm9, _⟩ := id HV.out
      obtain ⟨y, hy⟩ : ∃ y, t.length = y := ⟨_, rfl⟩
      rw [hy] at hv9
      have HY4 := Lib.hid (show IsR w5 _ (diffT t u) from HD.out)
      subst hv9
      clear hc9 hm9 hy
      by_cases hy2 : y < 2
      · have hy3 : (y : Int) < 2 := by omega
        go_wp2
        go_ret
        exact ⟨by first | rfl | exact retb (by simp) | exact retb (by simp; omega), HB.out.trans (b5.mono HB.out.size)⟩
      · have hy3 : ¬ (y : Int) < 2 := by omega
        go_wp2_with fail
        refine (iTab_is w5 (diffT t u) _ HY4.out true HTD.out _ b5).mono ?_
        rintro e w9 ⟨rfl, b9⟩
        go_wp2
        go_ret
        exact ⟨by first | rfl | exact retb (by simp) | exact retb (by simp; omega), HB.out.trans (b9.mono HB.out.size)⟩
    · obtain ⟨A9, c9, hv9, hc9, hm9, _⟩ := id HV.out
      obtain ⟨y, hy⟩ : ∃ y, t.length = y := ⟨_, rfl⟩
      rw [hy] at hv9
      have HY4 := Lib.hid (show IsR w5 _ (diffT t u) from HD.out)
      subst hv9
      clear hc9 hm9 hy
      by_cases hy2 : y < 2
      · have hy3 : (y : Int) < 2 := by omega
        go_wp2
        go_ret
        exact ⟨by first | rfl | exact retb (by simp) | exact retb (by simp; omega), HB.out.trans (b5.mono HB.out.size)⟩
      · have hy3 : ¬ (y : Int) < 2 := by omega
        go_wp2_with fail
        refine (iTab_is w5 (diffT t u) _ HY4.out true HTD.out _ b5).mono ?_
        rintro e w9 ⟨rfl, b9⟩
        go_wp2
        go_ret
        exact ⟨by first | rfl | exact retb (by simp) | exact retb (by simp; omega), HB.out.trans (b9.mono HB.out.size)⟩
set_option maxHeartbeats 4000000 in
theorem w_DiffRisk (A : Option Addr) (n c : Nat) (hnc : n ≤ c) (hn : n ≤ maxLen) (w : World) (hb : Bytes w w.heap.size A n) :
    Calls Try.prog 5 #[.slice A n c] w fun e w' => e = .returned (.bool true) ∧ Below w.heap.size w w' := by
  have hn2 := hn
  unfold maxLen at hn2
  rcases (show 1048576 < n ∨ ¬ 1048576 < n by omega) with hbig | hbig
  · go_enter Try.func5, Try.ntmps5
    go_wp2
    go_ret
    exact ⟨rfl, Below.refl _ _⟩
  · go_enter Try.func5, Try.ntmps5
    go_wp2_with fail
    refine (dDiffRisk_any A n c hnc hn _ hb).mono ?_
    rintro e W ⟨v, t, v2, u, k, rfl, hv, hu, _, _, hk, hbW⟩
    have HV := Lib.hid hv
    have HU := Lib.hid hu
    have HK := Lib.hid hk
    obtain ⟨g, hg⟩ : ∃ g, riskI t u k = g := ⟨_, rfl⟩
    have HG := Lib.hid hg
    have HB := Lib.hid hbW
    clear hv hu hg hk hbW
    go_wp2_with fail
    refine (iRisk_is W t _ HV.out u _ HU.out k g HG.out _ (Below.refl _ _)).mono ?_
    rintro e w1 ⟨rfl, b1⟩
    go_wp2_with fail
    refine (sRisk_is W t _ HV.out u _ HU.out k g HG.out _ b1).mono ?_
    rintro e w2 ⟨rfl, b2⟩
    by_cases hg0 : g < 0
    · go_wp2
      go_ret
      exact ⟨rfl, HB.out.trans (b2.mono HB.out.size)⟩
    have HOK := Lib.hid (riskI_ok (k := k) (by rw [HG.out]; exact hg0))
    have hd := dok_iff.1 HOK.out
    have HDK := Lib.hid hd
    have HTT := Lib.hid (tab_iff.2 hd.ht)
    have HTU := Lib.hid (tab_iff.2 hd.hu)
    have HTD := Lib.hid (tab_iff.2 hd.d)
    clear b1
    have HX2 := Lib.hid (diffI_yes HOK.out)
    have HS := Lib.hid (show msmallI (diffT t u) k = msmall (diffT t u) k by rw [msmallI, if_pos HTD.out])
    have HG2 := Lib.hid (show ((mmany (msmall (diffT t u) k) : Nat) : Int) = g by rw [← HG.out, riskI_yes HOK.out])
    have H9 := Lib.hid (mm_bd hd k)
    obtain ⟨z, hz⟩ : ∃ z, riskI t u (k + 1) = z := ⟨_, rfl⟩
    have HZ := Lib.hid hz
    have hzg : g ≤ z := by rw [← hz, ← HG.out]; exact risk_more hd k
    have hk9 := HK.out
    have hwk : wrap64 (k + 1) = k + 1 := by unfold wrap64; omega
    clear hd hz
    go_wp2_with fail
    refine (iDiff_is W t _ HV.out u _ HU.out (diffT t u) true HX2.out HOK.out _ b2).mono ?_
    rintro e w3 ⟨v3, rfl, ho3, h3⟩
    have b3 := b2.trans (h3.mono b2.size)
    have HX := Lib.hid ho3.is
    replace HV := Lib.hid (HV.out.below b3)
    replace HU := Lib.hid (HU.out.below b3)
    replace HB := Lib.hid (HB.out.trans (b3.mono HB.out.size))
    clear ho3 h3 b3
    have b3 := Below.refl w3.heap.size w3
    go_wp2_with fail
    refine (iSmall_is w3 (diffT t u) _ HX.out k _ true HS.out HTD.out _ b3).mono ?_
    rintro e w4 ⟨v4, rfl, ho4, h4⟩
    have b4 := b3.trans (h4.mono b3.size)
    have HY := Lib.hid ho4.is
    replace HV := Lib.hid (HV.out.below b4)
    replace HU := Lib.hid (HU.out.below b4)
    replace HX := Lib.hid (HX.out.below b4)
    replace HB := Lib.hid (HB.out.trans (b4.mono HB.out.size))
    clear ho4 h4 b4
    have b4 := Below.refl w4.heap.size w4
    go_wp2_with fail
    refine (iMaskMany_is w4 (msmall (diffT t u) k) _ HY.out H9.out g HG2.out _ b4).mono ?_
    rintro e w5 ⟨rfl, b5⟩
    go_wp2_with fail
    refine (iRisk_is w4 t _ HV.out u _ HU.out (k + 1) z HZ.out _ b5).mono ?_
    rintro e w6 ⟨rfl, b6⟩
    go_wp2
    go_ret
    exact ⟨by first | rfl | exact retb (by simp) | exact retb (by simp; omega), HB.out.trans (b6.mono HB.out.size)⟩
set_option maxHeartbeats 4000000 in
theorem w_DiffRiskNone (A : Option Addr) (n c : Nat) (hnc : n ≤ c) (hn : n ≤ maxLen) (w : World) (hb : Bytes w w.heap.size A n) :
    Calls Try.prog 8 #[.slice A n c] w fun e w' => e = .returned (.bool true) ∧ Below w.heap.size w w' := by
  have hn2 := hn
  unfold maxLen at hn2
  rcases (show 1048576 < n ∨ ¬ 1048576 < n by omega) with hbig | hbig
  · go_enter Try.func8, Try.ntmps8
    go_wp2
    go_ret
    exact ⟨rfl, Below.refl _ _⟩
  · go_enter Try.func8, Try.ntmps8
    go_wp2_with fail
    refine (dDiffRisk_any A n c hnc hn _ hb).mono ?_
    rintro e W ⟨v, t, v2, u, k, rfl, hv, hu, _, _, hk, hbW⟩
    have HV := Lib.hid hv
    have HU := Lib.hid hu
    have HK := Lib.hid hk
    obtain ⟨g, hg⟩ : ∃ g, riskI t u k = g := ⟨_, rfl⟩
    have HG := Lib.hid hg
    have HB := Lib.hid hbW
    clear hv hu hg hk hbW
    go_wp2_with fail
    refine (iRisk_is W t _ HV.out u _ HU.out k g HG.out _ (Below.refl _ _)).mono ?_
    rintro e w1 ⟨rfl, b1⟩
    go_wp2_with fail
    refine (sRisk_is W t _ HV.out u _ HU.out k g HG.out _ b1).mono ?_
    rintro e w2 ⟨rfl, b2⟩
    by_cases hg0 : g < 0
    · go_wp2
      go_ret
      exact ⟨rfl, HB.out.trans (b2.mono HB.out.size)⟩
    have HOK := Lib.hid (riskI_ok (k := k) (by rw [HG.out]; exact hg0))
    have hd := dok_iff.1 HOK.out
    have HDK := Lib.hid hd
    have HTT := Lib.hid (tab_iff.2 hd.ht)
    have HTU := Lib.hid (tab_iff.2 hd.hu)
    have HTD := Lib.hid (tab_iff.2 hd.d)
    clear b1
    have HX2 := Lib.hid (diffI_yes HOK.out)
    have HZ0 := Lib.hid (risk_self hd.ht k)
    have HZ1 := Lib.hid (risk_one hd)
    obtain ⟨z, hz⟩ : ∃ z, ttot (diffT t u) = z := ⟨_, rfl⟩
    have HZ := Lib.hid hz
    have hzg : g ≤ z := by rw [← hz, ← HG.out]; exact risk_tot hd k
    clear hd hz
    go_wp2_with fail
    refine (iDiff_is W t _ HV.out u _ HU.out (diffT t u) true HX2.out HOK.out _ b2).mono ?_
    rintro e w3 ⟨v3, rfl, ho3, h3⟩
    have b3 := b2.trans (h3.mono b2.size)
    have HX := Lib.hid ho3.is
    replace HV := Lib.hid (HV.out.below b3)
    replace HU := Lib.hid (HU.out.below b3)
    replace HB := Lib.hid (HB.out.trans (b3.mono HB.out.size))
    clear ho3 h3 b3
    have b3 := Below.refl w3.heap.size w3
    go_wp2_with fail
    refine (iRisk_is w3 t _ HV.out t _ HV.out k 0 HZ0.out _ b3).mono ?_
    rintro e w4 ⟨rfl, b4⟩
    go_wp2_with fail
    refine (iRisk_is w3 t _ HV.out u _ HU.out 1 0 HZ1.out _ b4).mono ?_
    rintro e w5 ⟨rfl, b5⟩
    go_wp2_with fail
    refine (iTotal_is w3 (diffT t u) _ HX.out z HZ.out _ b5).mono ?_
    rintro e w6 ⟨rfl, b6⟩
    go_wp2
    go_ret
    exact ⟨by first | rfl | exact retb (by simp) | exact retb (by simp; omega), HB.out.trans (b6.mono HB.out.size)⟩
end Go.Proofs.Ytkdffgcmnanniaa
