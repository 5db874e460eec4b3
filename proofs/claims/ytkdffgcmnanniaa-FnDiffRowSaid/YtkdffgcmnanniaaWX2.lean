/- Laws of chapter 15 on tables. -/
import Derived.Test.YtkdffgcmnanniaaID2
import Derived.Test.YtkdffgcmnanniaaSD
import Derived.Test.YtkdffgcmnanniaaDT
import Derived.Test.YtkdffgcmnanniaaTLA
import Derived.Test.YtkdffgcmnanniaaA4
import Derived.Test.YtkdffgcmnanniaaDF2
import Derived.BigQuiet
set_option maxRecDepth 100000
namespace Go.Proofs.Ytkdffgcmnanniaa
open Go.RowKit
set_option maxHeartbeats 4000000 in
theorem w_Diff (A : Option Addr) (n c : Nat) (hnc : n ≤ c) (hn : n ≤ maxLen) (w : World) (hb : Bytes w w.heap.size A n) :
    Calls Try.prog 3 #[.slice A n c] w fun e w' => e = .returned (.bool true) ∧ Below w.heap.size w w' := by
  have hn2 := hn
  unfold maxLen at hn2
  rcases (show 1048576 < n ∨ ¬ 1048576 < n by omega) with hbig | hbig
  · go_enter Try.func3, Try.ntmps3
    go_wp2
    go_ret
    exact ⟨rfl, Below.refl _ _⟩
  · go_enter Try.func3, Try.ntmps3
    go_wp2_with fail
    refine (dDiffTable_any A n c hnc hn _ hb).mono ?_
    rintro e W ⟨v, t, v2, u, rfl, hv, hu, _, _, hbW⟩
    have HV := Lib.hid hv
    have HU := Lib.hid hu
    obtain ⟨g, hg⟩ : ∃ g, diffOk t u = g := ⟨_, rfl⟩
    obtain ⟨m, hm⟩ : ∃ m, diffI t u = m := ⟨_, rfl⟩
    have HG := Lib.hid hg
    have HM := Lib.hid hm
    clear hv hu hg hm
    go_wp2_with fail
    refine (iDiff_is W t _ HV.out u _ HU.out m g HM.out HG.out _ (Below.refl _ _)).mono ?_
    rintro e w1 ⟨v1, rfl, ho1, b1⟩
    replace HV := Lib.hid (HV.out.below b1)
    replace HU := Lib.hid (HU.out.below b1)
    go_wp2_with fail
    refine (sDiff_is w1 t _ HV.out u _ HU.out m g HM.out HG.out _ (Below.refl _ _)).mono ?_
    rintro e w2 ⟨v9, rfl, ho2, b2⟩
    have HD := Lib.hid ((ho1.below b2).is)
    have HE := Lib.hid ho2.is
    replace HV := Lib.hid (HV.out.below b2)
    replace HU := Lib.hid (HU.out.below b2)
    have HB := Lib.hid (hbW.trans ((b1.trans (b2.mono b1.size)).mono hbW.size))
    clear ho1 ho2 b1 b2 hbW
    go_wp2_with fail
    refine (lRows_is w2 m v1 HD.out v9 HE.out _ (Below.refl _ _)).mono ?_
    rintro e w3 ⟨rfl, b3⟩
    cases g
    · go_wp2_with fail
      refine (lRows_is w2 m v1 HD.out v9 HE.out _ b3).mono ?_
      rintro e w4 ⟨rfl, b4⟩
      go_wp2
      go_ret
      exact ⟨rfl, HB.out.trans (b4.mono HB.out.size)⟩
    have hd := dok_iff.1 HG.out
    have hm : m = diffT t u := by rw [← HM.out, diffI_yes HG.out]
    subst hm
    have HDK := Lib.hid hd
    have HTT := Lib.hid (tab_iff.2 hd.ht)
    have HTU := Lib.hid (tab_iff.2 hd.hu)
    have HTD := Lib.hid (tab_iff.2 hd.d)
    clear HM HE
    obtain ⟨q, hq⟩ : ∃ q, q = t.length := ⟨_, rfl⟩
    obtain ⟨d, hd2⟩ : ∃ d, d = wd t := ⟨_, rfl⟩
    have HQ := Lib.hid hq
    have HD2 := Lib.hid hd2
    obtain ⟨A0, c0, hv0, _, _, hr0⟩ := id HV.out
    obtain ⟨A1, c1, hv1, _, _, hr1⟩ := id HU.out
    obtain ⟨A2, c2, hv2, _, _, hr2⟩ := id HD.out
    rw [← hq] at hv0
    rw [hd.l, ← hq] at hv1
    rw [diff_len, ← hq] at hv2
    subst hv0 hv1 hv2
    have HR0 := Lib.hid hr0
    have HR1 := Lib.hid hr1
    have HR2 := Lib.hid hr2
    have hq4 : 1 ≤ q ∧ q ≤ 4 := by rw [hq]; exact ⟨hd.ht.h1, hd.ht.h4⟩
    have hd4 : 1 ≤ d ∧ d ≤ 4 := by rw [hd2]; exact ⟨hd.ht.w1, hd.ht.w4⟩
    have HB3 := Lib.hid b3
    clear hr0 hr1 hr2 hq hd2 b3 hd
    go_wp2
    go_loopw [9] (fun i wr => ∃ k : Nat, k ≤ q ∧ i = .int .i64 k ∧ Below w2.heap.size w2 wr) (fun i _ => q - (intOf i).toNat)
    case atStart => exact ⟨0, Nat.zero_le _, rfl, HB3.out⟩
    case round =>
      obtain ⟨k, hk, rfl, hb6⟩ := hrel
      have HB6 := Lib.hid hb6
      by_cases hlt : k < q
      · have hki : (k : Int) < (q : Int) := by omega
        have hkt : k < t.length := by rw [← HQ.out]; exact hlt
        obtain ⟨b, o, Ai, ci, hA, hlb, e0, _, _, _⟩ := HR0.out.at_ k hkt
        rw [tab_len HDK.out.ht hkt, ← HD2.out] at e0
        subst hA
        have HE0 := Lib.hid e0
        have HKT := Lib.hid hkt
        clear e0 hb6 hkt
        go_wp2
        go_loopw [10] (fun j wr => ∃ p : Nat, p ≤ d ∧ j = .int .i64 p ∧ Below w2.heap.size w2 wr) (fun j _ => d - (intOf j).toNat)
        case atStart => exact ⟨0, Nat.zero_le _, rfl, HB6.out⟩
        case round =>
          obtain ⟨p, hp, rfl, hb7⟩ := hrel
          have HB7 := Lib.hid hb7
          have e0 := (hb7.cell (p := ⟨b, o + k, none⟩) hlb).trans HE0.out
          by_cases hpd : p < d
          · have hpi : (p : Int) < (d : Int) := by omega
            have hdk := HDK.out
            have hpw : p < wd t := by rw [← HD2.out]; exact hpd
            have l0 := tab_len hdk.ht HKT.out
            have l1 := tab_len hdk.hu (show k < u.length by rw [hdk.l]; exact HKT.out)
            have l2 := diff_rlen t u HKT.out
            rw [← HD2.out] at l0 l2
            rw [hdk.w, ← HD2.out] at l1
            obtain ⟨b0, o0, x0, y0, z0, hA0, hb1, hc1, _, hb2, hc2⟩ := HR0.out.cell2 (i := k) (j := p) HKT.out (by rw [l0]; exact hpd)
            injection hA0 with hA0
            injection hA0 with g1 g2 _
            subst g1 g2
            obtain ⟨b1, o1, x1, y1, z1, hA1, hb3, hc3, _, hb4, hc4⟩ := HR1.out.cell2 (i := k) (j := p) (by rw [hdk.l]; exact HKT.out) (by rw [l1]; exact hpd)
            subst hA1
            obtain ⟨b2, o2, x2, y2, z2, hA2, hb5, hc5, _, hb6, hc6⟩ := HR2.out.cell2 (i := k) (j := p) (by rw [diff_len]; exact HKT.out) (by rw [l2]; exact hpd)
            subst hA2
            rw [l0] at hc1
            rw [l1] at hc3
            rw [l2] at hc5
            have f1 := (hb7.cell (p := ⟨b, o + k, none⟩) hb1).trans hc1
            have hi := e0.symm.trans f1
            injection hi with hi
            injection hi with i1 _ i3
            subst i1 i3
            clear e0
            have f2 : wr.cell? ⟨x0, y0 + p, none⟩ = some (.int .i64 (cT t k p)) := (hb7.cell (p := ⟨x0, y0 + p, none⟩) hb2).trans hc2
            have f3 := (hb7.cell (p := ⟨b1, o1 + k, none⟩) hb3).trans hc3
            have f4 : wr.cell? ⟨x1, y1 + p, none⟩ = some (.int .i64 (cT u k p)) := (hb7.cell (p := ⟨x1, y1 + p, none⟩) hb4).trans hc4
            have f5 := (hb7.cell (p := ⟨b2, o2 + k, none⟩) hb5).trans hc5
            have f6 : wr.cell? ⟨x2, y2 + p, none⟩ = some (.int .i64 (cT (diffT t u) k p)) := (hb7.cell (p := ⟨x2, y2 + p, none⟩) hb6).trans hc6
            rw [diff_cell t u HKT.out hpw] at f6
            have bx := cT_bd hdk.ht HKT.out hpw
            have bY := cT_bd hdk.hu (i := k) (j := p) (by rw [hdk.l]; exact HKT.out) (by rw [hdk.w]; exact hpw)
            generalize cT t k p = x at *
            generalize cT u k p = y at *
            have hw : IntKind.i64.wrap (x - y + y) = x := by rw [IntKind.wrap_i64]; omega
            have hw0 : IntKind.i64.wrap x = x := by rw [IntKind.wrap_i64]; omega
            have hxx : (x != x) = false := by simp
            clear hc1 hc2 hc3 hc4 hc5 hc6 hb1 hb2 hb3 hb4 hb5 hb6 l0 l1 l2 hdk bx bY hb7 hpw
            go_wp2
            go_quiet (fail)
            have HB8 := Lib.hid (below_draws HB7.out nq)
            go_wp2
            go_roundw
            case rel => exact ⟨p + 1, by omega, by go_num, HB8.out⟩
            case measure => simp [intOf]; omega
          · have hpi : ¬ (p : Int) < (d : Int) := by omega
            clear hb7
            go_wp2
            go_roundw
            case rel => exact ⟨k + 1, by omega, by go_num, HB7.out⟩
            case measure => simp [intOf]; omega
      · have hki : ¬ (k : Int) < (q : Int) := by omega
        have hdk := HDK.out
        have hs := dok_self hdk.ht
        have HS := Lib.hid (dok_iff.2 hs)
        have HS2 := Lib.hid (diffI_yes HS.out)
        have HS0 := Lib.hid (diff_tot0 hdk.ht)
        have htt := diff_tot hdk
        have hb1 := ttot_bd hdk.ht
        obtain ⟨z1, h1⟩ : ∃ z, ttot (diffT t u) = z := ⟨_, rfl⟩
        obtain ⟨z2, h2⟩ : ∃ z, ttot u = z := ⟨_, rfl⟩
        obtain ⟨z3, h3⟩ : ∃ z, ttot t = z := ⟨_, rfl⟩
        have HZ1 := Lib.hid h1
        have HZ2 := Lib.hid h2
        have HZ3 := Lib.hid h3
        rw [h1, h2, h3] at htt
        rw [h3] at hb1
        have hw : wrap64 (z1 + z2) = z3 := by unfold wrap64; omega
        clear hdk hs htt hb1 h1 h2 h3 hb6
        go_wp2_with fail
        refine (iDiff_is w2 t _ HV.out t _ HV.out (diffT t t) true HS2.out HS.out _ HB6.out).mono ?_
        rintro e w9 ⟨v9, rfl, ho9, h9⟩
        have b9 := HB6.out.trans (h9.mono HB6.out.size)
        have HX := Lib.hid ho9.is
        replace HV := Lib.hid (HV.out.below b9)
        replace HU := Lib.hid (HU.out.below b9)
        replace HD := Lib.hid (HD.out.below b9)
        replace HB := Lib.hid (HB.out.trans (b9.mono HB.out.size))
        clear ho9 h9 b9
        have b9 := Below.refl w9.heap.size w9
        go_wp2_with fail
        refine (iTotal_is w9 (diffT t t) _ HX.out 0 HS0.out _ b9).mono ?_
        rintro e w10 ⟨rfl, b10⟩
        go_wp2_with fail
        refine (iTotal_is w9 (diffT t u) _ HD.out z1 HZ1.out _ b10).mono ?_
        rintro e w11 ⟨rfl, b11⟩
        go_wp2_with fail
        refine (iTotal_is w9 u _ HU.out z2 HZ2.out _ b11).mono ?_
        rintro e w12 ⟨rfl, b12⟩
        go_wp2_with fail
        refine (iTotal_is w9 t _ HV.out z3 HZ3.out _ b12).mono ?_
        rintro e w13 ⟨rfl, b13⟩
        go_wp2
        go_ret
        exact ⟨by first | rfl | exact retb (by simp) | exact retb (by simp; omega), HB.out.trans (b13.mono HB.out.size)⟩
set_option maxHeartbeats 4000000 in
theorem w_DiffRow (A : Option Addr) (n c : Nat) (hnc : n ≤ c) (hn : n ≤ maxLen) (w : World) (hb : Bytes w w.heap.size A n) :
    Calls Try.prog 9 #[.slice A n c] w fun e w' => e = .returned (.bool true) ∧ Below w.heap.size w w' := by
  have hn2 := hn
  unfold maxLen at hn2
  rcases (show 1048576 < n ∨ ¬ 1048576 < n by omega) with hbig | hbig
  · go_enter Try.func9, Try.ntmps9
    go_wp2
    go_ret
    exact ⟨rfl, Below.refl _ _⟩
  · go_enter Try.func9, Try.ntmps9
    go_wp2_with fail
    refine (dDiffTable_any A n c hnc hn _ hb).mono ?_
    rintro e W ⟨v, t, v2, u, rfl, hv, hu, _, _, hbW⟩
    have HV := Lib.hid hv
    have HU := Lib.hid hu
    obtain ⟨g, hg⟩ : ∃ g, diffOk t u = g := ⟨_, rfl⟩
    obtain ⟨m, hm⟩ : ∃ m, diffI t u = m := ⟨_, rfl⟩
    have HG := Lib.hid hg
    have HM := Lib.hid hm
    clear hv hu hg hm
    go_wp2_with fail
    refine (iDiff_is W t _ HV.out u _ HU.out m g HM.out HG.out _ (Below.refl _ _)).mono ?_
    rintro e w1 ⟨v1, rfl, ho1, b1⟩
    replace HV := Lib.hid (HV.out.below b1)
    replace HU := Lib.hid (HU.out.below b1)
    go_wp2_with fail
    refine (sDiff_is w1 t _ HV.out u _ HU.out m g HM.out HG.out _ (Below.refl _ _)).mono ?_
    rintro e w2 ⟨v9, rfl, ho2, b2⟩
    have HD := Lib.hid ((ho1.below b2).is)
    have HE := Lib.hid ho2.is
    replace HV := Lib.hid (HV.out.below b2)
    replace HU := Lib.hid (HU.out.below b2)
    have HB := Lib.hid (hbW.trans ((b1.trans (b2.mono b1.size)).mono hbW.size))
    clear ho1 ho2 b1 b2 hbW
    go_wp2_with fail
    refine (lRows_is w2 m v1 HD.out v9 HE.out _ (Below.refl _ _)).mono ?_
    rintro e w3 ⟨rfl, b3⟩
    cases g
    · go_wp2_with fail
      refine (lRows_is w2 m v1 HD.out v9 HE.out _ b3).mono ?_
      rintro e w4 ⟨rfl, b4⟩
      go_wp2
      go_ret
      exact ⟨rfl, HB.out.trans (b4.mono HB.out.size)⟩
    have hd := dok_iff.1 HG.out
    have hm : m = diffT t u := by rw [← HM.out, diffI_yes HG.out]
    subst hm
    have HDK := Lib.hid hd
    have HTT := Lib.hid (tab_iff.2 hd.ht)
    have HTU := Lib.hid (tab_iff.2 hd.hu)
    have HTD := Lib.hid (tab_iff.2 hd.d)
    clear HM HE
    have A1 := Lib.hid (show rsumI t = rsum t by rw [rsumI, if_pos HTT.out])
    have A2 := Lib.hid (show csumI t = csum t by rw [csumI, if_pos HTT.out])
    have A3 := Lib.hid (show rsumI u = rsum u by rw [rsumI, if_pos HTU.out])
    have A4 := Lib.hid (show csumI u = csum u by rw [csumI, if_pos HTU.out])
    have A5 := Lib.hid (show rsumI (diffT t u) = rsum (diffT t u) by rw [rsumI, if_pos HTD.out])
    have A6 := Lib.hid (show csumI (diffT t u) = csum (diffT t u) by rw [csumI, if_pos HTD.out])
    clear hd
    go_wp2_with fail
    refine (iSums_is w2 t _ HV.out (rsum t) (csum t) true A1.out A2.out HTT.out _ b3).mono ?_
    rintro e w4 ⟨v4, u4, rfl, ho4, hq4, _, h4⟩
    have b4 := b3.trans (h4.mono b3.size)
    have HR1 := Lib.hid ho4.is
    have HC1 := Lib.hid hq4.is
    replace HV := Lib.hid (HV.out.below b4)
    replace HU := Lib.hid (HU.out.below b4)
    replace HD := Lib.hid (HD.out.below b4)
    replace HB := Lib.hid (HB.out.trans (b4.mono HB.out.size))
    clear ho4 hq4 h4 b4
    have b4 := Below.refl w4.heap.size w4
    go_wp2_with fail
    refine (iSums_is w4 u _ HU.out (rsum u) (csum u) true A3.out A4.out HTU.out _ b4).mono ?_
    rintro e w5 ⟨v5, u5, rfl, ho5, hq5, _, h5⟩
    have b5 := b4.trans (h5.mono b4.size)
    have HR2 := Lib.hid ho5.is
    have HC2 := Lib.hid hq5.is
    replace HV := Lib.hid (HV.out.below b5)
    replace HU := Lib.hid (HU.out.below b5)
    replace HD := Lib.hid (HD.out.below b5)
    replace HR1 := Lib.hid (HR1.out.below b5)
    replace HC1 := Lib.hid (HC1.out.below b5)
    replace HB := Lib.hid (HB.out.trans (b5.mono HB.out.size))
    clear ho5 hq5 h5 b5
    have b5 := Below.refl w5.heap.size w5
    go_wp2_with fail
    refine (iSums_is w5 (diffT t u) _ HD.out (rsum (diffT t u)) (csum (diffT t u)) true A5.out A6.out HTD.out _ b5).mono ?_
    rintro e w6 ⟨v6, u6, rfl, ho6, hq6, _, h6⟩
    have b6 := b5.trans (h6.mono b5.size)
    have HR3 := Lib.hid ho6.is
    have HC3 := Lib.hid hq6.is
    replace HV := Lib.hid (HV.out.below b6)
    replace HU := Lib.hid (HU.out.below b6)
    replace HD := Lib.hid (HD.out.below b6)
    replace HR1 := Lib.hid (HR1.out.below b6)
    replace HC1 := Lib.hid (HC1.out.below b6)
    replace HR2 := Lib.hid (HR2.out.below b6)
    replace HC2 := Lib.hid (HC2.out.below b6)
    replace HB := Lib.hid (HB.out.trans (b6.mono HB.out.size))
    clear ho6 hq6 h6 b6
    have b6 := Below.refl w6.heap.size w6
    obtain ⟨q, hq⟩ : ∃ q, q = t.length := ⟨_, rfl⟩
    obtain ⟨d, hd2⟩ : ∃ d, d = wd t := ⟨_, rfl⟩
    have HQ := Lib.hid hq
    have HD2 := Lib.hid hd2
    have hd := HDK.out
    have hq4 : 1 ≤ q ∧ q ≤ 4 := by rw [hq]; exact ⟨hd.ht.h1, hd.ht.h4⟩
    have hd4 : 1 ≤ d ∧ d ≤ 4 := by rw [hd2]; exact ⟨hd.ht.w1, hd.ht.w4⟩
    obtain ⟨A1, c1, hv1, _, _, hr1⟩ := id HR1.out
    rw [show (rsum t).length = q from by rw [rsum_len, hq]] at hv1
    subst hv1
    have HX1 := Lib.hid hr1
    clear hr1
    obtain ⟨A2, c2, hv2, _, _, hr2⟩ := id HR2.out
    rw [show (rsum u).length = q from by rw [rsum_len, hd.l, hq]] at hv2
    subst hv2
    have HX2 := Lib.hid hr2
    clear hr2
    obtain ⟨A3, c3, hv3, _, _, hr3⟩ := id HR3.out
    rw [show (rsum (diffT t u)).length = q from by rw [rsum_len, diff_len, hq]] at hv3
    subst hv3
    have HX3 := Lib.hid hr3
    clear hr3
    obtain ⟨A4, c4, hv4, _, _, hr4⟩ := id HC1.out
    rw [show (csum t).length = d from by rw [csum_len, hd2]] at hv4
    subst hv4
    have HX4 := Lib.hid hr4
    clear hr4
    obtain ⟨A5, c5, hv5, _, _, hr5⟩ := id HC2.out
    rw [show (csum u).length = d from by rw [csum_len, hd.w, hd2]] at hv5
    subst hv5
    have HX5 := Lib.hid hr5
    clear hr5
    obtain ⟨A6, c6, hv6, _, _, hr6⟩ := id HC3.out
    rw [show (csum (diffT t u)).length = d from by rw [csum_len, diff_wd hd.ht, hd2]] at hv6
    subst hv6
    have HX6 := Lib.hid hr6
    clear hr6
    have HB6 := Lib.hid b6
    clear b6 hq hd2 hd HR1 HR2 HR3 HC1 HC2 HC3 HV HU HD
    go_wp2
    go_loopw [18] (fun i wr => ∃ k : Nat, k ≤ q ∧ i = .int .i64 k ∧ Below w6.heap.size w6 wr) (fun i _ => q - (intOf i).toNat)
    case atStart => exact ⟨0, Nat.zero_le _, rfl, HB6.out⟩
    case round =>
      obtain ⟨k, hk, rfl, hb7⟩ := hrel
      have HB7 := Lib.hid hb7
      by_cases hlt : k < q
      · have hki : (k : Int) < (q : Int) := by omega
        have hdk := HDK.out
        have hval := diff_rsum hdk (by rw [← HQ.out]; exact hlt)
        obtain ⟨b1, o1, hA1, hb1, hc1⟩ := HX1.out.int_ k (by rw [rsum_len, ← HQ.out]; exact hlt)
        obtain ⟨b2, o2, hA2, hb2, hc2⟩ := HX2.out.int_ k (by rw [rsum_len, hdk.l, ← HQ.out]; exact hlt)
        obtain ⟨b3, o3, hA3, hb3, hc3⟩ := HX3.out.int_ k (by rw [rsum_len, diff_len, ← HQ.out]; exact hlt)
        subst hA1 hA2 hA3
        rw [hval] at hc3
        have f1 := (hb7.cell (p := ⟨b1, o1 + k, none⟩) hb1).trans hc1
        have f2 := (hb7.cell (p := ⟨b2, o2 + k, none⟩) hb2).trans hc2
        have f3 := (hb7.cell (p := ⟨b3, o3 + k, none⟩) hb3).trans hc3
        have bx := rsum_bdG hdk.ht (i := k) (by rw [← HQ.out]; exact hlt)
        have bY := rsum_bdG hdk.hu (i := k) (by rw [hdk.l, ← HQ.out]; exact hlt)
        generalize (rsum t).getD k 0 = x at *
        generalize (rsum u).getD k 0 = y at *
        have hw : IntKind.i64.wrap (x - y) = x - y := by rw [IntKind.wrap_i64]; omega
        have hnn : ((q : Int) != (q : Int)) = false := by simp
        have hvv : ((x - y : Int) != x - y) = false := by simp
        clear hc1 hc2 hc3 hb1 hb2 hb3 hdk bx bY hb7 hval
        go_wp2
        go_quiet (fail)
        have HB8 := Lib.hid (below_draws HB7.out nq)
        go_wp2
        go_roundw
        case rel => exact ⟨k + 1, by omega, by go_num, HB8.out⟩
        case measure => simp [intOf]; omega
      · have hki : ¬ (k : Int) < (q : Int) := by omega
        clear hb7
        have HB9 := HB7
        clear HB7 hki
        clear hk
        go_wp2
        go_loopw [19] (fun i wr => ∃ k : Nat, k ≤ d ∧ i = .int .i64 k ∧ Below w6.heap.size w6 wr) (fun i _ => d - (intOf i).toNat)
        case atStart => exact ⟨0, Nat.zero_le _, rfl, HB9.out⟩
        case round =>
          obtain ⟨k, hk, rfl, hb7⟩ := hrel
          have HB7 := Lib.hid hb7
          by_cases hlt : k < d
          · have hki : (k : Int) < (d : Int) := by omega
            have hdk := HDK.out
            have hval := diff_csum hdk (by rw [← HD2.out]; exact hlt)
            obtain ⟨b1, o1, hA1, hb1, hc1⟩ := HX4.out.int_ k (by rw [csum_len, ← HD2.out]; exact hlt)
            obtain ⟨b2, o2, hA2, hb2, hc2⟩ := HX5.out.int_ k (by rw [csum_len, hdk.w, ← HD2.out]; exact hlt)
            obtain ⟨b3, o3, hA3, hb3, hc3⟩ := HX6.out.int_ k (by rw [csum_len, diff_wd hdk.ht, ← HD2.out]; exact hlt)
            subst hA1 hA2 hA3
            rw [hval] at hc3
            have f1 := (hb7.cell (p := ⟨b1, o1 + k, none⟩) hb1).trans hc1
            have f2 := (hb7.cell (p := ⟨b2, o2 + k, none⟩) hb2).trans hc2
            have f3 := (hb7.cell (p := ⟨b3, o3 + k, none⟩) hb3).trans hc3
            have bx := csum_bdG hdk.ht (i := k) (by rw [← HD2.out]; exact hlt)
            have bY := csum_bdG hdk.hu (i := k) (by rw [hdk.w, ← HD2.out]; exact hlt)
            generalize (csum t).getD k 0 = x at *
            generalize (csum u).getD k 0 = y at *
            have hw : IntKind.i64.wrap (x - y) = x - y := by rw [IntKind.wrap_i64]; omega
            have hnn : ((d : Int) != (d : Int)) = false := by simp
            have hvv : ((x - y : Int) != x - y) = false := by simp
            clear hc1 hc2 hc3 hb1 hb2 hb3 hdk bx bY hb7 hval
            go_wp2
            go_quiet (fail)
            have HB8 := Lib.hid (below_draws HB7.out nq)
            go_wp2
            go_roundw
            case rel => exact ⟨k + 1, by omega, by go_num, HB8.out⟩
            case measure => simp [intOf]; omega
          · have hki : ¬ (k : Int) < (d : Int) := by omega
            clear hb7
            go_wp2
            go_ret
            exact ⟨rfl, HB.out.trans (HB7.out.mono HB.out.size)⟩
end Go.Proofs.Ytkdffgcmnanniaa
