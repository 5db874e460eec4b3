/- Laws of chapter 11 on masks of small cells. -/
import Derived.Test.YtcmnbodnjemjoaaTI
import Derived.Test.YtcmnbodnjemjoaaTL4
import Derived.Test.YtcmnbodnjemjoaaTD5
import Derived.Test.YtcmnbodnjemjoaaA2
import Derived.Test.YtcmnbodnjemjoaaA4
namespace Go.Proofs.Ytcmnbodnjemjoaa
open Go.RowKit
theorem small_cell (t : Tb) (k : Int) {i j : Nat} (hi : i < t.length) (hj : j < (t.getD i []).length) : ((msmall t k).getD i []).getD j false = (decide (0 < (t.getD i []).getD j 0) && decide ((t.getD i []).getD j 0 < k)) := by
  rw [getD_of (msmall t k) [] (by simp [msmall]; exact hi)]
  rw [getD_of t [] hi] at hj ⊢
  simp only [msmall, List.getElem_map, small]
  rw [getD_of _ _ (by simpa using hj), getD_of _ _ hj]
  simp
theorem small_rlen (t : Tb) (k : Int) {i : Nat} (hi : i < t.length) : ((msmall t k).getD i []).length = (t.getD i []).length := by
  rw [getD_of (msmall t k) [] (by simp [msmall]; exact hi), getD_of t [] hi]
  simp [msmall, small]
theorem msmall_bd {t : Tb} (h : Tab t) (k : Int) : mmany (msmall t k) ≤ 1000000 := mmany_bd (by simp [msmall]; have := h.h4; omega) (fun r hr => by
  obtain ⟨x, hx, rfl⟩ := List.mem_map.1 hr
  have h1 := h.len x hx
  have h2 := h.w4
  simp [small]; omega)
set_option maxHeartbeats 4000000 in
theorem w_MaskSmall (A : Option Addr) (n c : Nat) (hnc : n ≤ c) (hn : n ≤ maxLen) (w : World) (hb : Bytes w w.heap.size A n) :
    Calls Try.prog 10 #[.slice A n c] w fun e w' => e = .returned (.bool true) ∧ Below w.heap.size w w' := by
  have hn2 := hn
  unfold maxLen at hn2
  rcases (show 1048576 < n ∨ ¬ 1048576 < n by omega) with hbig | hbig
  · go_enter Try.func10, Try.ntmps10
    go_wp2
    go_ret
    exact ⟨rfl, Below.refl _ _⟩
  · go_enter Try.func10, Try.ntmps10
    go_wp2_with fail
    refine (dMaskSmall_any A n c hnc hn _ hb).mono ?_
    rintro e W ⟨v, t, kk, rfl, hv, hl, hlr, hkk, hbW⟩
    have HV := Lib.hid hv
    obtain ⟨g, hg⟩ : ∃ g, tabOk t = g := ⟨_, rfl⟩
    have HG := Lib.hid hg
    obtain ⟨m, hm⟩ : ∃ m, msmallI t kk = m := ⟨_, rfl⟩
    have HM := Lib.hid hm
    clear hv hlr hg hm
    go_wp2_with fail
    refine (iSmall_is W t _ HV.out kk m g HM.out HG.out _ (Below.refl _ _)).mono ?_
    rintro e w1 ⟨v1, rfl, ho1, b1⟩
    have HVa := Lib.hid (HV.out.below b1)
    go_wp2_with fail
    refine (sSmall_is w1 t _ HVa.out kk m g HM.out HG.out _ (Below.refl _ _)).mono ?_
    rintro e w2 ⟨v2, rfl, ho2, b2⟩
    have H1 := Lib.hid ((ho1.below b2).is)
    have H2 := Lib.hid ho2.is
    have HVb := Lib.hid (HVa.out.below b2)
    have HB := Lib.hid (hbW.trans ((b1.trans (b2.mono b1.size)).mono hbW.size))
    clear ho1 ho2 b1 b2 HVa HV hbW
    go_wp2_with fail
    refine (lMask_is w2 m v1 H1.out v2 H2.out _ (Below.refl _ _)).mono ?_
    rintro e w3 ⟨rfl, b3⟩
    cases g
    · go_wp2_with fail
      refine (lMask_is w2 m v1 H1.out v2 H2.out _ b3).mono ?_
      rintro e w4 ⟨rfl, b4⟩
      go_wp2
      go_ret
      exact ⟨rfl, HB.out.trans (b4.mono HB.out.size)⟩
    · have ht := tab_iff.1 HG.out
      have hm : m = msmall t kk := by rw [← HM.out, msmallI, if_pos HG.out]
      subst hm
      have HM2 := Lib.hid (show msmallI t (kk + 1) = msmall t (kk + 1) by rw [msmallI, if_pos HG.out])
      have hmono := msmall_mono t (show kk ≤ kk + 1 by omega)
      have HOK := Lib.hid (msmall_ok HG.out kk)
      have hb1 := msmall_bd ht kk
      have hb2 := msmall_bd ht (kk + 1)
      have HB1 := Lib.hid (show mmany (msmall t kk) ≤ 1000000000 by omega)
      have HB2 := Lib.hid (show mmany (msmall t (kk + 1)) ≤ 1000000000 by omega)
      obtain ⟨y1, hy1⟩ : ∃ y : Int, (mmany (msmall t kk) : Int) = y := ⟨_, rfl⟩
      obtain ⟨y2, hy2⟩ : ∃ y : Int, (mmany (msmall t (kk + 1)) : Int) = y := ⟨_, rfl⟩
      have HY1 := Lib.hid hy1
      have HY2 := Lib.hid hy2
      have hyy : y1 ≤ y2 := by omega
      clear hy1 hy2 hb1 hb2 hmono
      go_wp2_with fail
      refine (iSmall_is w2 t _ HVb.out (kk + 1) _ true HM2.out HG.out _ b3).mono ?_
      rintro e w4 ⟨v4, rfl, ho4, b4⟩
      have b24 := b3.trans (b4.mono b3.size)
      have HX := Lib.hid ho4.is
      have HO := Lib.hid (H1.out.below b24)
      have HT := Lib.hid (HVb.out.below b24)
      have HB4 := Lib.hid (HB.out.trans (b24.mono HB.out.size))
      have HTT := Lib.hid ht
      obtain ⟨q, hq⟩ : ∃ q, q = t.length := ⟨_, rfl⟩
      obtain ⟨d, hd⟩ : ∃ d, d = wd t := ⟨_, rfl⟩
      have HQ := Lib.hid hq
      have HD := Lib.hid hd
      have hq4 : 1 ≤ q ∧ q ≤ 4 := by rw [hq]; exact ⟨ht.h1, ht.h4⟩
      have hd4 : 1 ≤ d ∧ d ≤ 4 := by rw [hd]; exact ⟨ht.w1, ht.w4⟩
      obtain ⟨A1, c1, hv1, _, _, hr1⟩ := HO.out
      rw [show (msmall t kk).length = q by simp [msmall, hq]] at hv1
      obtain ⟨A0, c0, hv0, _, _, hr0⟩ := HT.out
      rw [← hq] at hv0
      subst hv1 hv0
      have HR1 := Lib.hid hr1
      have HR0 := Lib.hid hr0
      clear ho4 b24 b4 b3 ht hq hd hr1 hr0 H1 H2 HVb HB HM HM2
      go_wp2
      go_loopw [11] (fun i wr => ∃ k m : Nat, k ≤ q ∧ i = .int .i64 k ∧ wr = w4.drewN m) (fun i _ => q - (intOf i).toNat)
      case atStart => exact ⟨0, 0, Nat.zero_le _, rfl, rfl⟩
      case round =>
        obtain ⟨k, m, hk, rfl, hw⟩ := hrel
        have HW := Lib.hid hw; clear hw
        by_cases hlt : k < q
        · have hki : (k : Int) < (q : Int) := by omega
          have hkt : k < t.length := by rw [← HQ.out]; exact hlt
          obtain ⟨b, o, Ai, ci, hA, _, e0, _, _, r0⟩ := HR0.out.at_ k hkt
          obtain ⟨b1, o1, Aj, cj, hA1, _, e1, _, _, r1⟩ := HR1.out.at_ k (by simp [msmall]; exact hkt)
          have hln := tab_lens (tab_iff.2 HTT.out) hkt
          rw [small_rlen t kk hkt, hln, ← HD.out] at e1
          rw [hln, ← HD.out] at e0
          subst hA hA1
          have HE0 := Lib.hid (show ∀ j, (w4.drewN j).cell? ⟨b, o + k, none⟩ = some (.slice Ai d ci) from fun j => e0)
          have HE1 := Lib.hid (show ∀ j, (w4.drewN j).cell? ⟨b1, o1 + k, none⟩ = some (.slice Aj d cj) from fun j => e1)
          have HRI := Lib.hid r0
          have HRJ := Lib.hid r1
          clear e0 r0 e1 r1
          go_wp2
          go_loopw [12] (fun j wr' => ∃ p m2 : Nat, p ≤ d ∧ j = .int .i64 p ∧ wr' = w4.drewN m2) (fun j _ => d - (intOf j).toNat)
          case atStart => exact ⟨0, m, Nat.zero_le _, rfl, HW.out⟩
          case round =>
            obtain ⟨p, m2, hp, rfl, hw2⟩ := hrel
            have HW2 := Lib.hid hw2; clear hw2
            have e0 : wr.cell? ⟨b, o + k, none⟩ = some (.slice Ai d ci) := by rw [HW2.out]; exact HE0.out m2
            by_cases hpd : p < d
            · have hpi : (p : Int) < (d : Int) := by omega
              have hpl : p < (t.getD k []).length := by rw [hln, ← HD.out]; exact hpd
              have e1 : wr.cell? ⟨b1, o1 + k, none⟩ = some (.slice Aj d cj) := by rw [HW2.out]; exact HE1.out m2
              obtain ⟨b2, o2, hA2, _, f0⟩ := HRI.out.int_ p hpl
              obtain ⟨b3, o3, hA3, _, f1⟩ := HRJ.out.bool_ p (by rw [small_rlen t kk hkt]; exact hpl)
              rw [small_cell t kk hkt hpl] at f1
              subst hA2 hA3
              have f0' : wr.cell? ⟨b2, o2 + p, none⟩ = some (.int .i64 ((t.getD k []).getD p 0)) := by rw [HW2.out]; exact f0
              have f1' : wr.cell? ⟨b3, o3 + p, none⟩ = some (.bool (decide (0 < (t.getD k []).getD p 0) && decide ((t.getD k []).getD p 0 < kk))) := by rw [HW2.out]; exact f1
              clear f0 f1
              generalize (t.getD k []).getD p 0 = y at *
              by_cases h0 : 0 < y
              · by_cases h1 : y < kk
                · have hd0 : decide (0 < y) = true := decide_eq_true h0
                  have hd1 : decide (y < kk) = true := decide_eq_true h1
                  rw [hd0, hd1] at f1'
                  go_wp2
                  go_quiet (fail)
                  go_wp2
                  go_roundw
                  case rel => exact ⟨p + 1, m2 + nq, by omega, by go_num, by rw [HW2.out, World.drewN_drewN]⟩
                  case measure => simp [intOf]; omega
                · have hd0 : decide (0 < y) = true := decide_eq_true h0
                  have hd1 : decide (y < kk) = false := decide_eq_false h1
                  rw [hd0, hd1] at f1'
                  go_wp2
                  go_quiet (fail)
                  go_wp2
                  go_roundw
                  case rel => exact ⟨p + 1, m2 + nq, by omega, by go_num, by rw [HW2.out, World.drewN_drewN]⟩
                  case measure => simp [intOf]; omega
              · have hd0 : decide (0 < y) = false := decide_eq_false h0
                rw [hd0, Bool.false_and] at f1'
                go_wp2
                go_quiet (fail)
                go_wp2
                go_roundw
                case rel => exact ⟨p + 1, m2 + nq, by omega, by go_num, by rw [HW2.out, World.drewN_drewN]⟩
                case measure => simp [intOf]; omega
            · have hpi : ¬ (p : Int) < (d : Int) := by omega
              go_wp2
              go_roundw
              case rel => exact ⟨k + 1, m2, by omega, by go_num, HW2.out⟩
              case measure => simp [intOf]; omega
        · have hki : ¬ (k : Int) < (q : Int) := by omega
          have hbw : Below w4.heap.size w4 wr := by rw [HW.out]; exact ⟨rfl, rfl, rfl, Nat.le_refl _, fun _ _ => rfl⟩
          go_wp2_with fail
          refine (iMaskMany_is w4 _ v4 HX.out HB2.out y2 HY2.out _ hbw).mono ?_
          rintro e w5 ⟨rfl, b5⟩
          go_wp2_with fail
          refine (iMaskMany_is w4 _ _ HO.out HB1.out y1 HY1.out _ b5).mono ?_
          rintro e w6 ⟨rfl, b6⟩
          go_wp2_with fail
          refine (iMask_is w4 t _ HT.out _ _ HO.out true HOK.out _ b6).mono ?_
          rintro e w7 ⟨rfl, b7⟩
          go_wp2
          go_ret
          exact ⟨rfl, HB4.out.trans (b7.mono HB4.out.size)⟩
end Go.Proofs.Ytcmnbodnjemjoaa
