/- Laws of chapter 15 on people. -/
import Derived.Test.YtjgohakiodcjmaaSS
import Derived.Test.YtjgohakiodcjmaaPG
import Derived.Test.YtjgohakiodcjmaaDP
import Derived.Test.YtjgohakiodcjmaaS9
import Derived.Test.YtjgohakiodcjmaaID2
import Derived.Test.YtjgohakiodcjmaaSD
import Derived.Test.YtjgohakiodcjmaaIM12
import Derived.Test.YtjgohakiodcjmaaTLA
import Derived.Test.YtjgohakiodcjmaaPX1
import Derived.Deep.RegionHeld3
import Derived.Deep.RegionLaw
set_option maxRecDepth 100000
namespace Go.Proofs.Ytjgohakiodcjmaa
open Go.RowKit
set_option maxHeartbeats 8000000 in
theorem w_DiffPeopleOrder (A : Option Addr) (n c : Nat) (hnc : n ≤ c) (hn : n ≤ maxLen) (A2 : Option Addr) (m c2 : Nat) (_hmc : m ≤ c2) (hm : m ≤ maxLen) (w : World) (hb : Bytes w w.heap.size A n) (_hb2 : Bytes w w.heap.size A2 m) :
    Calls Try.prog 5 #[.slice A n c, .slice A2 m c2] w fun e w' => e = .returned (.bool true) ∧ Below w.heap.size w w' := by
  have hn2 := hn
  have hm2 := hm
  unfold maxLen at hn2 hm2
  rcases (show 1048576 < n ∨ (¬ 1048576 < n ∧ 1048576 < m) ∨ ¬ 1048576 < n ∧ ¬ 1048576 < m by omega) with hbig | ⟨hbig, hbig2⟩ | ⟨hbig, hbig2⟩
  · go_enter Try.func5, Try.ntmps5
    go_wp2
    go_ret
    exact ⟨rfl, Below.refl _ _⟩
  · go_enter Try.func5, Try.ntmps5
    go_wp2
    go_ret
    exact ⟨rfl, Below.refl _ _⟩
  · go_enter Try.func5, Try.ntmps5
    go_wp2_with fail
    refine (dDiffPeople_any A n c hnc hn _ hb).mono ?_
    rintro e W ⟨v, a, v2, b, rfl, hv, hu, hla, hlb, hbW⟩
    have HV := Lib.hid hv
    have HU := Lib.hid hu
    have HB := Lib.hid hbW
    clear hv hu hbW
    obtain ⟨A0, c0, hv0, _, _, _⟩ := id HV.out
    obtain ⟨A1, c1, hv1, _, _, _⟩ := id HU.out
    obtain ⟨x, hx⟩ : ∃ x, a.length = x := ⟨_, rfl⟩
    obtain ⟨y, hy⟩ : ∃ y, b.length = y := ⟨_, rfl⟩
    have HLA := Lib.hid hx
    have HLB := Lib.hid hy
    rw [hx] at hv0 hla
    rw [hy] at hv1 hlb
    subst hv0 hv1
    clear hx hy
    obtain ⟨g, hg⟩ : ∃ g, dppl a b = g := ⟨_, rfl⟩
    have HG := Lib.hid hg
    clear hg
    go_wp2_with fail
    refine (iDPpl_is W a _ HV.out b _ HU.out g HG.out _ (Below.refl _ _)).mono ?_
    rintro e w1 ⟨rfl, b1⟩
    go_wp2_with fail
    refine (sDPpl_is W a _ HV.out b _ HU.out g HG.out _ b1).mono ?_
    rintro e w2 ⟨rfl, b2⟩
    clear b1
    cases g
    · go_wp2
      go_ret
      exact ⟨rfl, HB.out.trans (b2.mono HB.out.size)⟩
    obtain ⟨ha, hb3, hc3⟩ := dppl_parts HG.out
    have O1 := Lib.hid ha
    have O2 := Lib.hid hb3
    obtain ⟨k, hk, hkx⟩ := modCutA m x
    obtain ⟨l, hl, hly⟩ := modCutA (m / 7) y
    have HK := Lib.hid hk
    have HL := Lib.hid (show wrap64 ((m : Int) / 7) % ((y : Int) + 1) = (l : Int) by
      have e : wrap64 ((m : Int) / 7) = ((m / 7 : Nat) : Int) := by unfold wrap64; omega
      rw [e]; exact hl)
    have HL2 := Lib.hid (show ((m : Int) / 7) % ((y : Int) + 1) = (l : Int) by
      rw [show ((m : Int) / 7) = ((m / 7 : Nat) : Int) by omega]; exact hl)
    have D1 := Lib.hid (show dppl (a.drop k ++ a.take k) (b.drop l ++ b.take l) = true by
      rw [dppl_perm (rot_perm a k) (rot_perm b l)]; exact HG.out)
    have D2 := Lib.hid (show dsame a b = (y : Int) by rw [dsame_full HG.out, HLB.out])
    have hk2 : (k : Int) ≤ (x : Int) := by omega
    have hl2 : (l : Int) ≤ (y : Int) := by omega
    clear ha hb3 hc3 hk hl
    go_wp2_with fail
    rw [HK.out, HL2.out]
    obtain ⟨Ar4, cr4, hvr, hr1, hr2, hrow1⟩ := HV.out.below b2
    rw [HLA.out] at hvr hr1
    injection hvr with hv1 _ hv3
    subst hv1 hv3
    have hrow2 : Row w2 w2.heap.size _ (pcells a) := hrow1
    have r1 := hrow2.frontA (k := k)
    obtain ⟨B2, hsl, hB2⟩ := sliceTailA _ x _ k (by omega) hr1
    have r2 := hB2 w2 _ a HLA.out hrow2
    clear hB2 hrow1
    have hkd : k ≤ c0 := by omega
    have hkd2 : (k : Int) ≤ (c0 : Int) := by omega
    have N1 := Lib.hid (show k = (a.take k).length by rw [List.length_take, HLA.out]; omega)
    have N2 := Lib.hid (show x - k = (a.drop k).length by rw [List.length_drop, HLA.out])
    have o0 : Own ((w2.alloc (.cells #[] TP)).drew) w2.heap.size (.slice (some ⟨w2.heap.size, 0, none⟩) 0 0) [] := own_new w2 w2 (Below.refl _ _)
    have b0' : Below w2.heap.size w2 ((w2.alloc (.cells #[] TP)).drew) := ((Below.refl _ _).alloc (Nat.le_refl _) _).drew
    have HL9 := Lib.hid (show (a.drop k).length + (a.take k).length ≤ 1000000 by rw [List.length_drop, List.length_take]; have := HLA.out; omega)
    go_region_law (first
      | (refine step_people rfl (.tmp 55) (.tmp 58) rfl w2.heap.size (.slice (some ⟨w2.heap.size, 0, none⟩) 0 0) [] rfl o0 w2.heap.size B2 (x - k) (c0 - k) (a.drop k) N2.out rfl (r2.below b0' (Nat.le_refl _)) (by have := HL9.out; simp only [List.length_nil]; omega) b0'.size ?_
         intro v3 w3 ho3 hg3
         have hb3 : Below w2.heap.size w2 w3 := below_own b0' o0 hg3)
      | (refine step_people rfl (.tmp 59) (.tmp 62) rfl w2.heap.size v3 ([] ++ a.drop k) (by simp [Act.eval]) ho3 w2.heap.size A0 k c0 (a.take k) N1.out rfl (r1.below hb3 (Nat.le_refl _)) (by have := HL9.out; simpa using this) hb3.size ?_
         intro v4 w4 ho4 hg4
         have hb4 : Below w2.heap.size w2 w4 := below_own hb3 ho3 hg4
         clear ho3 hg3 hg4))
    have b4 : Below W.heap.size W w4 := b2.trans (hb4.mono b2.size)
    have O4 := Lib.hid (show IsP w4 v4 (a.drop k ++ a.take k) by simpa using ho4.isP')
    clear ho4 hb3 b0' o0 r1 r2 hsl hrow2 hkd hkd2 hr1 hr2
    clear hb4
    go_wp2_with fail
    obtain ⟨Ar5, cr5, hvr, hr1, hr2, hrow1⟩ := HU.out.below b4
    rw [HLB.out] at hvr hr1
    injection hvr with hv1 _ hv3
    subst hv1 hv3
    have hrow2 : Row w4 w4.heap.size _ (pcells b) := hrow1
    have r1 := hrow2.frontA (k := l)
    obtain ⟨B2, hsl, hB2⟩ := sliceTailA _ y _ l (by omega) hr1
    have r2 := hB2 w4 _ b HLB.out hrow2
    clear hB2 hrow1
    have hkd : l ≤ c1 := by omega
    have hkd2 : (l : Int) ≤ (c1 : Int) := by omega
    have N1 := Lib.hid (show l = (b.take l).length by rw [List.length_take, HLB.out]; omega)
    have N2 := Lib.hid (show y - l = (b.drop l).length by rw [List.length_drop, HLB.out])
    have o0 : Own ((w4.alloc (.cells #[] TP)).drew) w4.heap.size (.slice (some ⟨w4.heap.size, 0, none⟩) 0 0) [] := own_new w4 w4 (Below.refl _ _)
    have b0' : Below w4.heap.size w4 ((w4.alloc (.cells #[] TP)).drew) := ((Below.refl _ _).alloc (Nat.le_refl _) _).drew
    have HL9 := Lib.hid (show (b.drop l).length + (b.take l).length ≤ 1000000 by rw [List.length_drop, List.length_take]; have := HLB.out; omega)
    go_region_law (first
      | (refine step_people rfl (.tmp 64) (.tmp 67) rfl w4.heap.size (.slice (some ⟨w4.heap.size, 0, none⟩) 0 0) [] rfl o0 w4.heap.size B2 (y - l) (c1 - l) (b.drop l) N2.out rfl (r2.below b0' (Nat.le_refl _)) (by have := HL9.out; simp only [List.length_nil]; omega) b0'.size ?_
         intro v3 w3 ho3 hg3
         have hb3 : Below w4.heap.size w4 w3 := below_own b0' o0 hg3)
      | (refine step_people rfl (.tmp 68) (.tmp 71) rfl w4.heap.size v3 ([] ++ b.drop l) (by simp [Act.eval]) ho3 w4.heap.size A1 l c1 (b.take l) N1.out rfl (r1.below hb3 (Nat.le_refl _)) (by have := HL9.out; simpa using this) hb3.size ?_
         intro v5 w5 ho4 hg4
         have hb4 : Below w4.heap.size w4 w5 := below_own hb3 ho3 hg4
         clear ho3 hg3 hg4))
    have b5 : Below W.heap.size W w5 := b4.trans (hb4.mono b4.size)
    have O5 := Lib.hid (show IsP w5 v5 (b.drop l ++ b.take l) by simpa using ho4.isP')
    clear ho4 hb3 b0' o0 r1 r2 hsl hrow2 hkd hkd2 hr1 hr2
    have O4' := Lib.hid (O4.out.below hb4)
    have HV5 := Lib.hid (HV.out.below b5)
    have HU5 := Lib.hid (HU.out.below b5)
    replace HB := Lib.hid (HB.out.trans (b5.mono HB.out.size))
    have b6 := Below.refl w5.heap.size w5
    clear hb4 O4
    go_wp2_with fail
    refine (iDPpl_is w5 _ _ O4'.out _ _ O5.out true D1.out _ b6).mono ?_
    rintro e w7 ⟨rfl, b7⟩
    go_wp2_with fail
    refine (iDSame_is w5 a _ HV5.out b _ HU5.out (y : Int) D2.out _ b7).mono ?_
    rintro e w8 ⟨rfl, b8⟩
    go_wp2
    go_ret
    exact ⟨by first | rfl | exact retb (by simp), HB.out.trans (b8.mono HB.out.size)⟩
end Go.Proofs.Ytjgohakiodcjmaa
