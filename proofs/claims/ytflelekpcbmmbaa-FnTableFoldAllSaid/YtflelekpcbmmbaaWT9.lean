/- Laws of chapter 11 on tables folded to one row. -/
import Derived.Test.YtflelekpcbmmbaaWT7
set_option maxRecDepth 100000
namespace Go.Proofs.Ytflelekpcbmmbaa
open Go.RowKit
theorem isR_one {w : World} {As : Option Addr} {n c : Nat} {s : List Int} (hn : n = s.length) (h1 : s.length ≤ c) (h2 : c ≤ maxLen) (hr : Row w w.heap.size As (icells s)) :
    IsR (w.alloc (.cells #[.slice As n c] TI)) (.slice (some ⟨w.heap.size, 0, none⟩) 1 1) [s] := by
  have hb : Below w.heap.size w (w.alloc (.cells #[.slice As n c] TI)) := (Below.refl _ _).alloc (Nat.le_refl _) _
  refine ⟨_, 1, rfl, Nat.le_refl _, by simp [maxLen], [.slice As n c], rfl, ?_, fun i hi => ?_⟩
  · have h := row_lit w #[.slice As n c] TI
    rw [World.size_alloc]; exact h
  · have h0 : i = 0 := by simp at hi; exact hi
    subst h0
    exact ⟨As, c, by rw [hn]; rfl, h1, h2, (hr.below hb (Nat.le_refl _)).more hb.size⟩
set_option maxHeartbeats 4000000 in
theorem w_TableFoldAll (A : Option Addr) (n c : Nat) (hnc : n ≤ c) (hn : n ≤ maxLen) (w : World) (hb : Bytes w w.heap.size A n) :
    Calls Try.prog 7 #[.slice A n c] w fun e w' => e = .returned (.bool true) ∧ Below w.heap.size w w' := by
  have hn2 := hn
  unfold maxLen at hn2
  rcases (show 1048576 < n ∨ ¬ 1048576 < n by omega) with hbig | hbig
  · go_enter Try.func7, Try.ntmps7
    go_wp2
    go_ret
    exact ⟨rfl, Below.refl _ _⟩
  · go_enter Try.func7, Try.ntmps7
    go_wp2_with fail
    refine (dTabFold_any A n c hnc hn _ hb).mono ?_
    rintro e W ⟨v, t, a, b, rfl, hv, _, _, _, _, hbW⟩
    have HV := Lib.hid hv
    obtain ⟨g, hg⟩ : ∃ g, foldOk t a b = g := ⟨_, rfl⟩
    have HG := Lib.hid hg
    obtain ⟨m, hm⟩ : ∃ m, foldI t a b = m := ⟨_, rfl⟩
    have HM := Lib.hid hm
    clear hv hg hm
    go_wp2_with fail
    refine (iFold_is W t _ HV.out a b m g HM.out HG.out _ (Below.refl _ _)).mono ?_
    rintro e w1 ⟨v1, rfl, ho1, b1⟩
    have HVa := Lib.hid (HV.out.below b1)
    go_wp2_with fail
    refine (sFold_is w1 t _ HVa.out a b m g HM.out HG.out _ (Below.refl _ _)).mono ?_
    rintro e w2 ⟨v2, rfl, ho2, b2⟩
    have H1 := Lib.hid ((ho1.below b2).is)
    have H2 := Lib.hid ho2.is
    have HVb := Lib.hid (HVa.out.below b2)
    have HB := Lib.hid (hbW.trans ((b1.trans (b2.mono b1.size)).mono hbW.size))
    clear ho1 ho2 b1 b2 HVa HV hbW
    go_wp2_with fail
    refine (lRows_is w2 m v1 H1.out v2 H2.out _ (Below.refl _ _)).mono ?_
    rintro e w3 ⟨rfl, b3⟩
    cases g
    · go_wp2_with fail
      refine (lRows_is w2 m v1 H1.out v2 H2.out _ b3).mono ?_
      rintro e w4 ⟨rfl, b4⟩
      go_wp2
      go_ret
      exact ⟨rfl, HB.out.trans (b4.mono HB.out.size)⟩
    obtain ⟨ht, i, j, rfl, rfl, hij, hjt, htf, hmf⟩ := foldOk_parts HG.out
    have hm : m = foldT t i j := by rw [← HM.out, hmf]
    subst hm
    have HTT := Lib.hid ht
    have HTF := Lib.hid htf
    have HT := Lib.hid (tab_iff.2 ht)
    have HF := Lib.hid (tab_iff.2 htf)
    have HJT := Lib.hid hjt
    obtain ⟨r, hr⟩ : ∃ r, rsumI t = r := ⟨_, rfl⟩
    obtain ⟨s, hs⟩ : ∃ s, csumI t = s := ⟨_, rfl⟩
    have hsc : s = csum t := by rw [← hs, csumI, if_pos HT.out]
    have HR := Lib.hid hr
    have HS := Lib.hid hs
    obtain ⟨q, hq⟩ : ∃ q, q = t.length := ⟨_, rfl⟩
    have hjq : j < q := by omega
    have hq4 : q ≤ 4 := by have := ht.h4; omega
    obtain ⟨p, hp⟩ : ∃ p, p = q - 1 := ⟨_, rfl⟩
    have hfl : (foldT t i j).length = p := by rw [fold_len t hjt, ← hq, hp]
    have H2T := Lib.hid (show q = 2 → i = 0 ∧ j = 1 ∧ foldT t i j = [s] from fun h => by
      have hi : i = 0 := by omega
      have hj : j = 1 := by omega
      subst hi hj
      exact ⟨rfl, rfl, by rw [hsc]; exact fold_two ht (by omega)⟩)
    have hp1 : 1 ≤ p := by omega
    have hpi : (1 : Int) ≤ (p : Int) := by omega
    clear ht htf hmf hjt hr hs hsc HM hp
    go_wp2_with fail
    refine (iSums_is w2 t _ HVb.out r s true HR.out HS.out HT.out _ b3).mono ?_
    rintro e w4 ⟨vr, vs, rfl, _, ho4, _, h4⟩
    have b4 : Below w2.heap.size w2 w4 := b3.trans (h4.mono b3.size)
    have HB4 := Lib.hid (HB.out.trans (b4.mono HB.out.size))
    obtain ⟨As, cs, hvs, l1, m1, rs⟩ := ho4.is
    have HO := Lib.hid (H1.out.below b4)
    obtain ⟨A1, c1, hv1, _, _, _⟩ := HO.out
    obtain ⟨A0, c0, hv0, _, _, _⟩ := HVb.out
    rw [hfl] at hv1
    rw [← hq] at hv0
    obtain ⟨ns, hns⟩ : ∃ n, n = s.length := ⟨_, rfl⟩
    rw [← hns] at hvs
    subst hvs hv1 hv0
    have HX := Lib.hid (isR_one hns l1 m1 rs)
    have HNX := Lib.hid (show Below w4.heap.size w4 (w4.alloc (.cells #[.slice As ns cs] TI)) from (Below.refl _ _).alloc (Nat.le_refl _) _)
    clear ho4 l1 m1 rs hns hfl hq b3 h4
    rcases (show 2 < q ∨ q = 2 by omega) with h2 | h2
    · have h2i : 2 < (q : Int) := by omega
      go_wp2
      go_ret
      exact ⟨rfl, HB4.out⟩
    · obtain ⟨_, _, hone⟩ := H2T.out h2
      have HOX := Lib.hid (show IsR (w4.alloc (.cells #[.slice As ns cs] TI)) (.slice A1 p c1) [s] by rw [← hone]; exact HO.out.below HNX.out)
      have h2i : ¬ 2 < (q : Int) := by omega
      clear hone h2
      go_wp2_with fail
      refine (lRows_is _ [s] _ HOX.out _ HX.out _ (Below.refl _ _)).mono ?_
      rintro e w6 ⟨rfl, b6⟩
      have HB6 := Lib.hid (HB4.out.trans ((HNX.out.trans (b6.mono HNX.out.size)).mono HB4.out.size))
      clear b6
      go_wp2
      go_ret
      exact ⟨rfl, HB6.out⟩
end Go.Proofs.Ytflelekpcbmmbaa
