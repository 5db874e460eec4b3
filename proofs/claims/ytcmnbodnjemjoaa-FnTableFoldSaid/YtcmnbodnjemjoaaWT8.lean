/- Laws of chapter 11 on folded tables: rows that stay. -/
import Derived.Test.YtcmnbodnjemjoaaWT7
set_option maxRecDepth 100000
namespace Go.Proofs.Ytcmnbodnjemjoaa
open Go.RowKit
set_option maxHeartbeats 4000000 in
theorem w_TableFold (A : Option Addr) (n c : Nat) (hnc : n ≤ c) (hn : n ≤ maxLen) (w : World) (hb : Bytes w w.heap.size A n) :
    Calls Try.prog 12 #[.slice A n c] w fun e w' => e = .returned (.bool true) ∧ Below w.heap.size w w' := by
  have hn2 := hn
  unfold maxLen at hn2
  rcases (show 1048576 < n ∨ ¬ 1048576 < n by omega) with hbig | hbig
  · go_enter Try.func12, Try.ntmps12
    go_wp2
    go_ret
    exact ⟨rfl, Below.refl _ _⟩
  · go_enter Try.func12, Try.ntmps12
    go_wp2_with fail
    refine (dTabFold_any A n c hnc hn _ hb).mono ?_
    rintro e W ⟨v, t, a, b, rfl, hv, _, _, _, _, hbW⟩
    have HV := Lib.hid hv
    obtain ⟨g, hg⟩ : ∃ g, foldOk t a b = g := ⟨_, rfl⟩
    have HG := Lib.hid hg
    obtain ⟨m, hm⟩ : ∃ m, foldI t a b = m := ⟨_, rfl⟩
    have HM := Lib.hid hm
    clear hv hg hm
    go_wp2_with fail
    refine (iFold_is W t _ HV.out a b m g HM.out HG.out _ (Below.refl _ _)).mono ?_
    rintro e w1 ⟨v1, rfl, ho1, b1⟩
    have HVa := Lib.hid (HV.out.below b1)
    go_wp2_with fail
    refine (sFold_is w1 t _ HVa.out a b m g HM.out HG.out _ (Below.refl _ _)).mono ?_
    rintro e w2 ⟨v2, rfl, ho2, b2⟩
    have H1 := Lib.hid ((ho1.below b2).is)
    have H2 := Lib.hid ho2.is
    have HVb := Lib.hid (HVa.out.below b2)
    have HB := Lib.hid (hbW.trans ((b1.trans (b2.mono b1.size)).mono hbW.size))
    clear ho1 ho2 b1 b2 HVa HV hbW
    go_wp2_with fail
    refine (lRows_is w2 m v1 H1.out v2 H2.out _ (Below.refl _ _)).mono ?_
    rintro e w3 ⟨rfl, b3⟩
    cases g
    · go_wp2_with fail
      refine (lRows_is w2 m v1 H1.out v2 H2.out _ b3).mono ?_
      rintro e w4 ⟨rfl, b4⟩
      go_wp2
      go_ret
      exact ⟨rfl, HB.out.trans (b4.mono HB.out.size)⟩
    obtain ⟨ht, i, j, rfl, rfl, hij, hjt, htf, hmf⟩ := foldOk_parts HG.out
    have hm : m = foldT t i j := by rw [← HM.out, hmf]
    subst hm
    have HTT := Lib.hid ht
    have HTF := Lib.hid htf
    have HT := Lib.hid (tab_iff.2 ht)
    have HF := Lib.hid (tab_iff.2 htf)
    have HJT := Lib.hid hjt
    obtain ⟨r, hr⟩ : ∃ r, rsum t = r := ⟨_, rfl⟩
    obtain ⟨s, hs⟩ : ∃ s, csum t = s := ⟨_, rfl⟩
    obtain ⟨r2, hr2⟩ : ∃ r, rsum (foldT t i j) = r := ⟨_, rfl⟩
    have HR := Lib.hid (show rsumI t = r by rw [rsumI, if_pos HT.out, hr])
    have HS := Lib.hid (show csumI t = s by rw [csumI, if_pos HT.out, hs])
    have HR2 := Lib.hid (show rsumI (foldT t i j) = r2 by rw [rsumI, if_pos HF.out, hr2])
    have HS2 := Lib.hid (show csumI (foldT t i j) = s by rw [csumI, if_pos HF.out, fold_csum ht hij hjt, hs])
    obtain ⟨q, hq⟩ : ∃ q, q = t.length := ⟨_, rfl⟩
    have HQ := Lib.hid hq
    have hrl : r.length = q := by rw [← hr, rsum_len, hq]
    have hrl2 : r2.length = q - 1 := by rw [← hr2, rsum_len, fold_len t hjt, hq]
    have hjq : j < q := by omega
    have hq4 : q ≤ 4 := by have := ht.h4; omega
    have hrow : ∀ k, k < q → k ≠ j → k ≠ i → (foldT t i j).getD (atF j k) [] = t.getD k [] := fun k hk hkj hki => by
      rw [fold_row hij hjt (by omega) hkj, if_neg hki]
    have HROW := Lib.hid hrow
    have HLR := Lib.hid (show ∀ k, k < q → (t.getD k []).length = wd t from fun k hk => tab_lens HT.out (by omega))
    have HSL := Lib.hid (show ttot (foldT t i j) = ttot t by rw [ttot, ttot, if_pos HF.out, if_pos HT.out, fold_tsum ht hij hjt])
    have hfl : (foldT t i j).length = q - 1 := by rw [fold_len t hjt, hq]
    obtain ⟨p, hp⟩ : ∃ p, p = q - 1 := ⟨_, rfl⟩
    rw [← hp] at hfl
    have hqp : (q : Int) - 1 = (p : Int) := by omega
    have HFL := Lib.hid hfl
    have HP := Lib.hid hp
    have HQP := Lib.hid hqp
    have hp4 : p ≤ 4 := by omega
    clear ht htf hmf hjt hr hs hr2 HM hrow hrl hrl2 hfl hp hqp
    go_wp2_with fail
    refine (iSums_is w2 t _ HVb.out r s true HR.out HS.out HT.out _ b3).mono ?_
    rintro e w4 ⟨vr, vs, rfl, _, ho4, _, h4⟩
    have b4 : Below w2.heap.size w2 w4 := b3.trans (h4.mono b3.size)
    go_wp2_with fail
    refine (iSums_is w4 (foldT t i j) _ (H1.out.below b4) r2 s true HR2.out HS2.out HF.out _ (Below.refl _ _)).mono ?_
    rintro e w5 ⟨vr2, vs2, rfl, _, ho5, _, h5⟩
    have b5 : Below w2.heap.size w2 w5 := b4.trans (h5.mono b4.size)
    have HB5 := Lib.hid (HB.out.trans (b5.mono HB.out.size))
    have X1 := Lib.hid ((ho4.is).below h5)
    have X2 := Lib.hid ho5.is
    have HO := Lib.hid (H1.out.below b5)
    have HTb := Lib.hid (HVb.out.below b5)
    obtain ⟨A1, c1, hv1, _, _, h1r⟩ := HO.out
    obtain ⟨A0, c0, hv0, _, _, h0r⟩ := HTb.out
    rw [HFL.out] at hv1
    rw [← hq] at hv0
    subst hv1 hv0
    have HC1 := Lib.hid h1r
    have HC0 := Lib.hid h0r
    obtain ⟨d, hd⟩ : ∃ d, wd t = d := ⟨_, rfl⟩
    rw [hd] at HLR
    clear h1r h0r ho4 ho5 h4 h5 b3 b4 b5 H1 H2 HVb HB hq hd
    go_wp2
    go_loopw [16, 17] (fun x y wr => ∃ k : Nat, k ≤ q ∧ y = .int .i64 k ∧ x = .int .i64 (atF j k : Nat) ∧ Below w5.heap.size w5 wr) (fun _ y _ => q - (intOf y).toNat)
    case atStart => exact ⟨0, Nat.zero_le _, rfl, by simp [atF], Below.refl _ _⟩
    case round =>
      obtain ⟨k, hk, rfl, rfl, hb6⟩ := hrel
      have HB6 := Lib.hid hb6
      by_cases hlt : k < q
      · have hkq : (k : Int) < (q : Int) := by omega
        by_cases hkj : k = j
        · subst hkj
          have HST := Lib.hid (show atF k (k + 1) = atF k k by rw [(atF_eq k).1, (atF_eq k).2])
          clear hb6
          go_wp2
          go_roundw
          case rel => exact ⟨k + 1, by omega, by go_num, by rw [HST.out], HB6.out⟩
          case measure => simp [intOf]; omega
        have hbq : ((k : Int) == (j : Int)) = false := by rw [beq_eq_false_iff_ne]; omega
        have HST := Lib.hid (atF_step hkj)
        have hap := atF_bd hlt hjq hkj
        rw [← HP.out] at hap
        by_cases hki : k = i
        · subst hki
          obtain ⟨at', hat⟩ : ∃ x, atF j k = x := ⟨_, rfl⟩
          rw [hat] at HST hap ⊢
          have hnq : ((k : Int) != (k : Int)) = false := by simp
          have hapi : (at' : Int) < (p : Int) := by omega
          clear hb6 hap hat
          go_wp2
          clear hbq
          go_quiet (fail)
          have HB7 := Lib.hid (below_draws HB6.out nq)
          go_wp2
          go_roundw
          case rel => exact ⟨k + 1, by omega, by go_num, by rw [HST.out]; go_num, HB7.out⟩
          case measure => simp [intOf]; omega
        · have hrw := HROW.out k hlt hkj hki
          have hnq : ((k : Int) != (i : Int)) = true := by rw [bne_iff_ne]; omega
          have hlk := HLR.out k hlt
          obtain ⟨at', hat⟩ : ∃ x, atF j k = x := ⟨_, rfl⟩
          rw [hat] at HST hap hrw ⊢
          obtain ⟨b2, o2, Aa, ca, hA2, hlb2, e3, l2, m2, r2'⟩ := HC1.out.at_ at' (by rw [HFL.out]; exact hap)
          subst hA2
          obtain ⟨b1, o1, Ak, ck, hA1, hlb1, e1, l1, m1, r1'⟩ := HC0.out.at_ k (by rw [← HQ.out]; exact hlt)
          subst hA1
          rw [hrw] at e3 l2 r2'
          have Y1 := Lib.hid (show IsI w5 (.slice Aa d ca) (t.getD k []) from ⟨Aa, ca, by rw [hlk], l2, m2, r2'⟩)
          have Y2 := Lib.hid (show IsI w5 (.slice Ak d ck) (t.getD k []) from ⟨Ak, ck, by rw [hlk], l1, m1, r1'⟩)
          rw [hlk] at e1 e3
          have hapi : (at' : Int) < (p : Int) := by omega
          have HFF := Lib.hid (show ∀ w', Below w5.heap.size w5 w' → (Below w5.heap.size w5 w' ∧ w'.cell? ⟨b2, o2 + at', none⟩ = some (.slice Aa d ca) ∧ w'.cell? ⟨b1, o1 + k, none⟩ = some (.slice Ak d ck)) from
            fun w' h => ⟨h, (h.cell (p := ⟨b2, o2 + at', none⟩) hlb2).trans e3, (h.cell (p := ⟨b1, o1 + k, none⟩) hlb1).trans e1⟩)
          have bd : Below w5.heap.size w5 wr.drew := hb6.drew
          clear e1 e3 hlb1 hlb2 l1 l2 m1 m2 r1' r2' hrw hlk hat hb6 hap
          go_wp2
          clear hbq
          go_region_held3 (fun w' => Below w5.heap.size w5 w' ∧ w'.cell? ⟨b2, o2 + at', none⟩ = some (.slice Aa d ca) ∧ w'.cell? ⟨b1, o1 + k, none⟩ = some (.slice Ak d ck))
            (first | exact HFF.out _ (by assumption) | exact HFF.out _ bd)
            (first
              | (go_at_call 21; (with_reducible refine (lInts_is w5 (t.getD k []) _ Y1.out _ Y2.out _ ?_).mono ?_); (first | assumption | exact bd); rintro e w7 ⟨rfl, h7⟩))
          have HB7 := Lib.hid (show Below w5.heap.size w5 _ by assumption)
          clear hnq
          go_wp2
          go_roundw
          case rel => exact ⟨k + 1, by omega, by go_num, by rw [HST.out]; go_num, HB7.out⟩
          case measure => simp [intOf]; omega
      · have hkq : ¬ (k : Int) < (q : Int) := by omega
        obtain ⟨z, hz⟩ : ∃ z, ttot t = z := ⟨_, rfl⟩
        have HZ1 := Lib.hid (show ttot (foldT t i j) = z by rw [HSL.out, hz])
        have HZ2 := Lib.hid hz
        have hpe : ((p : Int) == (q : Int) - 1) = true := by rw [HQP.out]; simp
        clear hb6 hz
        go_wp2_with fail
        refine (lInts_is w5 s _ X1.out _ X2.out _ HB6.out).mono ?_
        rintro e w7 ⟨rfl, b7⟩
        go_wp2_with fail
        refine (iTotal_is w5 (foldT t i j) _ HO.out z HZ1.out _ b7).mono ?_
        rintro e w8 ⟨rfl, b8⟩
        go_wp2_with fail
        refine (iTotal_is w5 t _ HTb.out z HZ2.out _ b8).mono ?_
        rintro e w9 ⟨rfl, b9⟩
        go_wp2
        go_ret
        exact ⟨rfl, HB5.out.trans (b9.mono HB5.out.size)⟩
end Go.Proofs.Ytcmnbodnjemjoaa
