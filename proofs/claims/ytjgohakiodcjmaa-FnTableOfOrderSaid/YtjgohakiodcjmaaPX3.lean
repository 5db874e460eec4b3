/- Laws of chapter 15 on people. -/
import Derived.Test.YtjgohakiodcjmaaSS
import Derived.Test.YtjgohakiodcjmaaPG
import Derived.Test.YtjgohakiodcjmaaDP
import Derived.Test.YtjgohakiodcjmaaS9
import Derived.Test.YtjgohakiodcjmaaID2
import Derived.Test.YtjgohakiodcjmaaSD
import Derived.Test.YtjgohakiodcjmaaIM12
import Derived.Test.YtjgohakiodcjmaaTLA
import Derived.Test.YtjgohakiodcjmaaPX1
import Derived.Test.YtjgohakiodcjmaaTDA
import Derived.Deep.RegionHeld3
import Derived.Deep.RegionLaw
set_option maxRecDepth 100000
namespace Go.Proofs.Ytjgohakiodcjmaa
open Go.RowKit
set_option maxHeartbeats 8000000 in
theorem w_TableOfOrder (A : Option Addr) (n c : Nat) (hnc : n ≤ c) (hn : n ≤ maxLen) (A2 : Option Addr) (m c2 : Nat) (_hmc : m ≤ c2) (hm : m ≤ maxLen) (w : World) (hb : Bytes w w.heap.size A n) (_hb2 : Bytes w w.heap.size A2 m) :
    Calls Try.prog 7 #[.slice A n c, .slice A2 m c2] w fun e w' => e = .returned (.bool true) ∧ Below w.heap.size w w' := by
  have hn2 := hn
  have hm2 := hm
  unfold maxLen at hn2 hm2
  rcases (show 1048576 < n ∨ (¬ 1048576 < n ∧ 1048576 < m) ∨ ¬ 1048576 < n ∧ ¬ 1048576 < m by omega) with hbig | ⟨hbig, hbig2⟩ | ⟨hbig, hbig2⟩
  · go_enter Try.func7, Try.ntmps7
    go_wp2
    go_ret
    exact ⟨rfl, Below.refl _ _⟩
  · go_enter Try.func7, Try.ntmps7
    go_wp2
    go_ret
    exact ⟨rfl, Below.refl _ _⟩
  · go_enter Try.func7, Try.ntmps7
    go_wp2_with fail
    refine (dTabOf_any A n c hnc hn _ hb).mono ?_
    rintro e W ⟨v, l, rfl, hv, hl12, _, hbW⟩
    obtain ⟨A0, c0, hv0, hc1, hc2, hrow⟩ := id hv
    obtain ⟨y, hy⟩ : ∃ y, l.length = y := ⟨_, rfl⟩
    have HLL := Lib.hid hy
    have HL6 := Lib.hid (show l.length ≤ 1048576 by omega)
    rw [hy] at hv0 hc1 hl12
    subst hv0
    have HV := Lib.hid hv
    have HB := Lib.hid hbW
    obtain ⟨g, hg⟩ : ∃ g, okL l = g := ⟨_, rfl⟩
    obtain ⟨t, ht⟩ : ∃ t, tabI l = t := ⟨_, rfl⟩
    have HG := Lib.hid hg
    have HM := Lib.hid ht
    obtain ⟨k, hk, hky⟩ := modCutA m y
    have HK := Lib.hid hk
    have HVT := Lib.hid (show IsP W (.slice A0 k c0) (l.take k) from ⟨A0, c0, by rw [List.length_take, hy, Nat.min_eq_left hky], by rw [List.length_take]; omega, hc2, hrow.frontA (k := k)⟩)
    obtain ⟨B2, hsl, hB2⟩ := sliceTailA A0 y c0 k hky hc1
    have HVD := Lib.hid (show IsP W (.slice B2 (y - k) (c0 - k)) (l.drop k) from ⟨B2, c0 - k, by rw [List.length_drop, hy], by rw [List.length_drop, hy]; omega, by omega, hB2 W _ l hy hrow⟩)
    have HSL := Lib.hid hsl
    have hkc : k ≤ c0 := by omega
    have hkc2 : (k : Int) ≤ (c0 : Int) := by omega
    have hky2 : (k : Int) ≤ (y : Int) := by omega
    clear hv hbW hy hg ht hk hsl hB2 hrow hc2
    go_wp2_with fail
    refine (iTabOf_is W l _ HV.out t g HM.out HG.out HL6.out _ (Below.refl _ _)).mono ?_
    rintro e w1 ⟨v1, rfl, ho1, b1⟩
    go_wp2_with fail
    refine (sTabOf_is w1 l _ (HV.out.below b1) t g HM.out HG.out HL6.out _ (Below.refl _ _)).mono ?_
    rintro e w2 ⟨v2, rfl, ho2, h2⟩
    have b2 : Below W.heap.size W w2 := b1.trans (h2.mono b1.size)
    have HD := Lib.hid ((ho1.below h2).is)
    have HE := Lib.hid ho2.is
    replace HV := Lib.hid (HV.out.below b2)
    replace HVT := Lib.hid (HVT.out.below b2)
    replace HVD := Lib.hid (HVD.out.below b2)
    replace HB := Lib.hid (HB.out.trans (b2.mono HB.out.size))
    have b0 := Below.refl w2.heap.size w2
    clear ho1 ho2 b1 h2 b2
    go_wp2_with fail
    refine (lRows_is w2 t v1 HD.out v2 HE.out _ b0).mono ?_
    rintro e w3 ⟨rfl, b3⟩
    cases g
    · go_wp2_with fail
      refine (lRows_is w2 t v1 HD.out v2 HE.out _ b3).mono ?_
      rintro e w4 ⟨rfl, b4⟩
      go_wp2
      go_ret
      exact ⟨rfl, HB.out.trans (b4.mono HB.out.size)⟩
    have htt : t = tabOf l := by rw [← HM.out, tabI, if_pos HG.out]
    subst htt
    have hd2 := diff_parts HG.out k
    have O1 := Lib.hid (okL_take HG.out k).1
    have O2 := Lib.hid (okL_take HG.out k).2
    have O3 := Lib.hid (show okL (l.drop k ++ l.take k) = true by rw [okL_perm (rot_perm l k)]; exact HG.out)
    have T1 := Lib.hid (show tabI (l.take k) = tabOf (l.take k) by rw [tabI, if_pos O1.out])
    have T2 := Lib.hid (show tabI (l.drop k) = tabOf (l.drop k) by rw [tabI, if_pos O2.out])
    have T3 := Lib.hid (show tabI (l.drop k ++ l.take k) = tabOf l by rw [tabI, if_pos O3.out, tabOf_perm (rot_perm l k)])
    have L1 := Lib.hid (show (l.take k).length ≤ 1048576 by rw [List.length_take]; have := HL6.out; omega)
    have L2 := Lib.hid (show (l.drop k).length ≤ 1048576 by rw [List.length_drop]; have := HL6.out; omega)
    have L3 := Lib.hid (show (l.drop k ++ l.take k).length ≤ 1048576 by rw [(rot_perm l k).length_eq]; exact HL6.out)
    have X1 := Lib.hid (dok_iff.2 hd2.1)
    have X2 := Lib.hid (show diffI (tabOf l) (tabOf (l.take k)) = tabOf (l.drop k) by rw [diffI_yes X1.out, hd2.2])
    replace HV := Lib.hid (HV.out.below b3)
    replace HVT := Lib.hid (HVT.out.below b3)
    replace HVD := Lib.hid (HVD.out.below b3)
    replace HD := Lib.hid (HD.out.below b3)
    replace HB := Lib.hid (HB.out.trans (b3.mono HB.out.size))
    clear hd2 HE b0 b3
    go_wp2_with fail
    rw [HK.out]
    have hsl := HSL.out
    have r1 : Row w3 w3.heap.size A0 (pcells (l.take k)) := by obtain ⟨Aa, ca, he, _, _, h⟩ := HVT.out; injection he with h1; subst h1; exact h
    have r2 : Row w3 w3.heap.size B2 (pcells (l.drop k)) := by obtain ⟨Aa, ca, he, _, _, h⟩ := HVD.out; injection he with h1; subst h1; exact h
    have N1 := Lib.hid (show k = (l.take k).length by rw [List.length_take, HLL.out]; omega)
    have N2 := Lib.hid (show y - k = (l.drop k).length by rw [List.length_drop, HLL.out])
    have o0 : Own ((w3.alloc (.cells #[] TP)).drew) w3.heap.size (.slice (some ⟨w3.heap.size, 0, none⟩) 0 0) [] := own_new w3 w3 (Below.refl _ _)
    have b0' : Below w3.heap.size w3 ((w3.alloc (.cells #[] TP)).drew) := ((Below.refl _ _).alloc (Nat.le_refl _) _).drew
    have HL9 := Lib.hid (show (l.drop k).length + (l.take k).length ≤ 1000000 by rw [List.length_drop, List.length_take]; have := HLL.out; omega)
    have bd : Below w3.heap.size w3 w3.drew := (Below.refl _ _).drew
    go_region_held3 (fun w' => Below w3.heap.size w3 w')
      (first | assumption | exact bd | exact b0')
      (first
      | (refine step_people rfl (.tmp 67) (.tmp 70) rfl w3.heap.size (.slice (some ⟨w3.heap.size, 0, none⟩) 0 0) [] rfl o0 w3.heap.size B2 (y - k) (c0 - k) (l.drop k) N2.out rfl (r2.below b0' (Nat.le_refl _)) (by have := HL9.out; simp only [List.length_nil]; omega) b0'.size ?_
         intro v6 w6 ho6 hg6
         have hb6 : Below w3.heap.size w3 w6 := below_own b0' o0 hg6)
      | (refine step_people rfl (.tmp 71) (.tmp 74) rfl w3.heap.size v6 ([] ++ l.drop k) (by simp [Act.eval]) ho6 w3.heap.size A0 k c0 (l.take k) N1.out rfl (r1.below hb6 (Nat.le_refl _)) (by have := HL9.out; simpa using this) hb6.size ?_
         intro v7 w7 ho7 hg7
         have hb7 : Below w3.heap.size w3 w7 := below_own hb6 ho6 hg7
         have O7 := Lib.hid (show IsP w7 v7 (l.drop k ++ l.take k) by simpa using ho7.isP')
         clear ho6 hg6 ho7 hg7)
      | (go_at_call 15
         refine (iTabOf_is w7 _ v7 O7.out (tabOf l) true T3.out O3.out L3.out _ (Below.refl _ _)).mono ?_
         rintro e w8 ⟨v8, rfl, ho8, h8⟩
         have hb8 : Below w3.heap.size w3 w8 := hb7.trans (h8.mono hb7.size)))
    have b8 : Below w3.heap.size w3 w8 := hb7.trans (h8.mono hb7.size)
    have HX := Lib.hid ho8.is
    replace HVT := Lib.hid (HVT.out.below b8)
    replace HVD := Lib.hid (HVD.out.below b8)
    replace HD := Lib.hid (HD.out.below b8)
    replace HB := Lib.hid (HB.out.trans (b8.mono HB.out.size))
    clear b8 hb8 hb7 hb6 h8 ho8 r1 r2 o0 b0' bd hsl HV
    have b8 := Below.refl w8.heap.size w8
    go_wp2_with fail
    refine (iTabOf_is w8 (l.take k) _ HVT.out (tabOf (l.take k)) true T1.out O1.out L1.out _ b8).mono ?_
    rintro e w9 ⟨v9, rfl, ho9, h9⟩
    have b9 := b8.trans (h9.mono b8.size)
    have HY := Lib.hid ho9.is
    replace HX := Lib.hid (HX.out.below b9)
    replace HD := Lib.hid (HD.out.below b9)
    replace HVT := Lib.hid (HVT.out.below b9)
    replace HVD := Lib.hid (HVD.out.below b9)
    replace HB := Lib.hid (HB.out.trans (b9.mono HB.out.size))
    clear ho9 h9 b9
    have b9 := Below.refl w9.heap.size w9
    go_wp2_with fail
    refine (iDiff_is w9 (tabOf l) _ HD.out (tabOf (l.take k)) _ HY.out (tabOf (l.drop k)) true X2.out X1.out _ b9).mono ?_
    rintro e w10 ⟨v10, rfl, ho10, h10⟩
    have b10 := b9.trans (h10.mono b9.size)
    have HZA := Lib.hid ho10.is
    replace HX := Lib.hid (HX.out.below b10)
    replace HD := Lib.hid (HD.out.below b10)
    replace HVT := Lib.hid (HVT.out.below b10)
    replace HVD := Lib.hid (HVD.out.below b10)
    replace HY := Lib.hid (HY.out.below b10)
    replace HB := Lib.hid (HB.out.trans (b10.mono HB.out.size))
    clear ho10 h10 b10
    have b10 := Below.refl w10.heap.size w10
    have hsl := HSL.out
    go_wp2_with fail
    refine (iTabOf_is w10 (l.drop k) _ HVD.out (tabOf (l.drop k)) true T2.out O2.out L2.out _ b10).mono ?_
    rintro e w11 ⟨v11, rfl, ho11, h11⟩
    have b11 := b10.trans (h11.mono b10.size)
    have HW := Lib.hid ho11.is
    replace HX := Lib.hid (HX.out.below b11)
    replace HD := Lib.hid (HD.out.below b11)
    replace HVT := Lib.hid (HVT.out.below b11)
    replace HVD := Lib.hid (HVD.out.below b11)
    replace HY := Lib.hid (HY.out.below b11)
    replace HZA := Lib.hid (HZA.out.below b11)
    replace HB := Lib.hid (HB.out.trans (b11.mono HB.out.size))
    clear ho11 h11 b11
    have b11 := Below.refl w11.heap.size w11
    clear hsl
    go_wp2_with fail
    refine (lRows_is w11 (tabOf l) _ HX.out _ HD.out _ b11).mono ?_
    rintro e w12 ⟨rfl, b12⟩
    go_wp2_with fail
    refine (lRows_is w11 (tabOf (l.drop k)) _ HZA.out _ HW.out _ b12).mono ?_
    rintro e w13 ⟨rfl, b13⟩
    go_wp2
    go_ret
    exact ⟨by first | rfl | exact retb (by simp) | exact retb (by simp; omega), HB.out.trans (b13.mono HB.out.size)⟩
end Go.Proofs.Ytjgohakiodcjmaa
