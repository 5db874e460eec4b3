/- Laws of chapter 11 on tables turned. -/
import Derived.Test.YtcmnbodnjemjoaaTI
import Derived.Test.YtcmnbodnjemjoaaTL4
import Derived.Test.YtcmnbodnjemjoaaTD5
import Derived.Test.YtcmnbodnjemjoaaA2
import Derived.Test.YtcmnbodnjemjoaaA4
namespace Go.Proofs.Ytcmnbodnjemjoaa
open Go.RowKit
theorem turn_len0 {t : Tb} (_h : Tab t) {j : Nat} (hj : j < wd t) : ((turn t).getD j []).length = t.length := by rw [turn_get t hj, col_len]
theorem turn_cell {t : Tb} (_h : Tab t) {i j : Nat} (hi : i < t.length) (hj : j < wd t) : ((turn t).getD j []).getD i 0 = (t.getD i []).getD j 0 := by rw [turn_get t hj, col_get t j hi]
set_option maxHeartbeats 4000000 in
theorem w_TableTurn (A : Option Addr) (n c : Nat) (hnc : n ≤ c) (hn : n ≤ maxLen) (w : World) (hb : Bytes w w.heap.size A n) :
    Calls Try.prog 6 #[.slice A n c] w fun e w' => e = .returned (.bool true) ∧ Below w.heap.size w w' := by
  have hn2 := hn
  unfold maxLen at hn2
  rcases (show 1048576 < n ∨ ¬ 1048576 < n by omega) with hbig | hbig
  · go_enter Try.func6, Try.ntmps6
    go_wp2
    go_ret
    exact ⟨rfl, Below.refl _ _⟩
  · go_enter Try.func6, Try.ntmps6
    go_wp2_with fail
    refine (dTabTurn_any A n c hnc hn _ hb).mono ?_
    rintro e W ⟨v, t, rfl, hv, hl, hlr, hbW⟩
    have HV := Lib.hid hv
    obtain ⟨g, hg⟩ : ∃ g, tabOk t = g := ⟨_, rfl⟩
    have HG := Lib.hid hg
    obtain ⟨m, hm⟩ : ∃ m, turnI t = m := ⟨_, rfl⟩
    have HM := Lib.hid hm
    clear hv hlr hg hm
    go_wp2_with fail
    refine (iTurn_is W t _ HV.out m g HM.out HG.out _ (Below.refl _ _)).mono ?_
    rintro e w1 ⟨v1, rfl, ho1, b1⟩
    have HVa := Lib.hid (HV.out.below b1)
    go_wp2_with fail
    refine (sTurn_is w1 t _ HVa.out m g HM.out HG.out _ (Below.refl _ _)).mono ?_
    rintro e w2 ⟨v2, rfl, ho2, b2⟩
    have H1 := Lib.hid ((ho1.below b2).is)
    have H2 := Lib.hid ho2.is
    have HVb := Lib.hid (HVa.out.below b2)
    have HB := Lib.hid (hbW.trans ((b1.trans (b2.mono b1.size)).mono hbW.size))
    clear ho1 ho2 b1 b2 HVa HV hbW
    go_wp2_with fail
    refine (lRows_is w2 m v1 H1.out v2 H2.out _ (Below.refl _ _)).mono ?_
    rintro e w3 ⟨rfl, b3⟩
    cases g
    · go_wp2_with fail
      refine (lRows_is w2 m v1 H1.out v2 H2.out _ b3).mono ?_
      rintro e w4 ⟨rfl, b4⟩
      go_wp2
      go_ret
      exact ⟨rfl, HB.out.trans (b4.mono HB.out.size)⟩
    · have ht := tab_iff.1 HG.out
      have hm : m = turn t := by rw [← HM.out, turnI, if_pos HG.out]
      subst hm
      have ht2 := tab_turn ht
      have HG2 := Lib.hid (tab_iff.2 ht2)
      have HM2 := Lib.hid (show turnI (turn t) = t by rw [turnI, if_pos HG2.out, turn_turn ht.len ht.w1])
      go_wp2_with fail
      refine (iTurn_is w2 (turn t) v1 H1.out t true HM2.out HG2.out _ b3).mono ?_
      rintro e w4 ⟨v4, rfl, ho4, b4⟩
      have b24 := b3.trans (b4.mono b3.size)
      have HX := Lib.hid ho4.is
      have HO := Lib.hid (H1.out.below b24)
      have HT := Lib.hid (HVb.out.below b24)
      have HB4 := Lib.hid (HB.out.trans (b24.mono HB.out.size))
      have HTT := Lib.hid ht
      obtain ⟨q, hq⟩ : ∃ q, q = t.length := ⟨_, rfl⟩
      obtain ⟨d, hd⟩ : ∃ d, d = wd t := ⟨_, rfl⟩
      have HQ := Lib.hid hq
      have HD := Lib.hid hd
      have hq4 : 1 ≤ q ∧ q ≤ 4 := by rw [hq]; exact ⟨ht.h1, ht.h4⟩
      have hd4 : 1 ≤ d ∧ d ≤ 4 := by rw [hd]; exact ⟨ht.w1, ht.w4⟩
      obtain ⟨A1, c1, hv1, _, _, hr1⟩ := HO.out
      rw [turn_len, ← hd] at hv1
      obtain ⟨A0, c0, hv0, _, _, hr0⟩ := HT.out
      rw [← hq] at hv0
      subst hv1 hv0
      have HR1 := Lib.hid hr1
      have HR0 := Lib.hid hr0
      clear ho4 b24 b4 b3 ht ht2 hq hd hr1 hr0 H1 H2 HVb HB HM HM2
      go_wp2
      go_loopw [10] (fun i wr => ∃ k m : Nat, k ≤ q ∧ i = .int .i64 k ∧ wr = w4.drewN m) (fun i _ => q - (intOf i).toNat)
      case atStart => exact ⟨0, 0, Nat.zero_le _, rfl, rfl⟩
      case round =>
        obtain ⟨k, m, hk, rfl, hw⟩ := hrel
        have HW := Lib.hid hw; clear hw
        by_cases hlt : k < q
        · have hki : (k : Int) < (q : Int) := by omega
          have hkt : k < t.length := by rw [← HQ.out]; exact hlt
          obtain ⟨b, o, Ai, ci, hA, _, e0, _, _, r0⟩ := HR0.out.at_ k hkt
          have hln := tab_lens (tab_iff.2 HTT.out) hkt
          rw [hln, ← HD.out] at e0
          subst hA
          have HE0 := Lib.hid (show ∀ j, (w4.drewN j).cell? ⟨b, o + k, none⟩ = some (.slice Ai d ci) from fun j => e0)
          have HRI := Lib.hid r0
          clear e0 r0
          go_wp2
          go_loopw [11] (fun j wr' => ∃ p m2 : Nat, p ≤ d ∧ j = .int .i64 p ∧ wr' = w4.drewN m2) (fun j _ => d - (intOf j).toNat)
          case atStart => exact ⟨0, m, Nat.zero_le _, rfl, HW.out⟩
          case round =>
            obtain ⟨p, m2, hp, rfl, hw2⟩ := hrel
            have HW2 := Lib.hid hw2; clear hw2
            have e0 : wr.cell? ⟨b, o + k, none⟩ = some (.slice Ai d ci) := by rw [HW2.out]; exact HE0.out m2
            by_cases hpd : p < d
            · have hpi : (p : Int) < (d : Int) := by omega
              have hpw : p < wd t := by rw [← HD.out]; exact hpd
              obtain ⟨b1, o1, Aj, cj, hA1, _, e1, _, _, r1⟩ := HR1.out.at_ p (by rw [turn_len]; exact hpw)
              rw [turn_len0 HTT.out hpw, ← HQ.out] at e1
              subst hA1
              obtain ⟨b2, o2, hA2, _, f0⟩ := HRI.out.int_ p (by rw [hln]; exact hpw)
              obtain ⟨b3, o3, hA3, _, f1⟩ := r1.int_ k (by rw [turn_len0 HTT.out hpw]; exact hkt)
              rw [turn_cell HTT.out hkt hpw] at f1
              subst hA2 hA3
              have e1' : wr.cell? ⟨b1, o1 + p, none⟩ = some (.slice (some ⟨b3, o3, none⟩) q cj) := by rw [HW2.out]; exact e1
              have f0' : wr.cell? ⟨b2, o2 + p, none⟩ = some (.int .i64 ((t.getD k []).getD p 0)) := by rw [HW2.out]; exact f0
              have f1' : wr.cell? ⟨b3, o3 + k, none⟩ = some (.int .i64 ((t.getD k []).getD p 0)) := by rw [HW2.out]; exact f1
              clear e1 f0 f1 r1
              generalize (t.getD k []).getD p 0 = y at *
              go_wp2
              go_quiet (fail)
              go_wp2
              go_roundw
              case rel => exact ⟨p + 1, m2 + nq, by omega, by go_num, by rw [HW2.out, World.drewN_drewN]⟩
              case measure => simp [intOf]; omega
            · have hpi : ¬ (p : Int) < (d : Int) := by omega
              go_wp2
              go_roundw
              case rel => exact ⟨k + 1, m2, by omega, by go_num, HW2.out⟩
              case measure => simp [intOf]; omega
        · have hki : ¬ (k : Int) < (q : Int) := by omega
          have hbw : Below w4.heap.size w4 wr := by rw [HW.out]; exact ⟨rfl, rfl, rfl, Nat.le_refl _, fun _ _ => rfl⟩
          obtain ⟨b, o, Ai, ci, hA, hlb, e0, _, _, _⟩ := HR0.out.at_ 0 (by rw [← HQ.out]; omega)
          rw [← wd_zero, ← HD.out] at e0
          subst hA
          have HE0 := Lib.hid e0
          have HZ := Lib.hid hlb
          have hq0n : 0 < q := by omega
          have hq0 : (0 : Int) < (q : Int) := by omega
          clear e0 hlb
          go_wp2_with fail
          refine (lRows_is w4 t v4 HX.out _ HT.out _ hbw).mono ?_
          rintro e w5 ⟨rfl, b5⟩
          have e5 : w5.cell? ⟨b, o, none⟩ = some (.slice Ai d ci) := (b5.cell (p := ⟨b, o, none⟩) HZ.out).trans HE0.out
          go_wp2
          go_ret
          exact ⟨rfl, HB4.out.trans (b5.mono HB4.out.size)⟩
end Go.Proofs.Ytcmnbodnjemjoaa
