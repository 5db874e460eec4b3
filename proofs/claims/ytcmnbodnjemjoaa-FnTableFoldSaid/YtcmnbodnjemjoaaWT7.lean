/- Laws of chapter 11 on folded tables. -/
import Derived.Test.YtcmnbodnjemjoaaTI
import Derived.Test.YtcmnbodnjemjoaaTL4
import Derived.Test.YtcmnbodnjemjoaaTD3
import Derived.Test.YtcmnbodnjemjoaaA2
import Derived.Test.YtcmnbodnjemjoaaA4
import Derived.BigQuiet
import Derived.Deep.RegionHeld3
set_option maxRecDepth 100000
namespace Go.Proofs.Ytcmnbodnjemjoaa
open Go.RowKit
theorem rsum_at {t : Tb} {i : Nat} (hi : i < t.length) : (rsum t).getD i 0 = (t.getD i []).sum := by
  rw [getD_of _ _ (by rw [rsum_len]; exact hi), getD_of _ _ hi]; simp [rsum]
def atF (j k : Nat) : Nat := if k ≤ j then k else k - 1
theorem atF_lt {j k : Nat} (h : k < j) : atF j k = k ∧ atF j (k + 1) = k + 1 := by unfold atF; rw [if_pos (by omega), if_pos (by omega)]; exact ⟨rfl, rfl⟩
theorem atF_eq (j : Nat) : atF j j = j ∧ atF j (j + 1) = j := by unfold atF; rw [if_pos (by omega), if_neg (by omega)]; exact ⟨rfl, rfl⟩
theorem atF_gt {j k : Nat} (h : j < k) : atF j k = k - 1 ∧ atF j (k + 1) = k - 1 + 1 := by unfold atF; rw [if_neg (by omega), if_neg (by omega)]; exact ⟨rfl, by omega⟩
theorem atF_step {j k : Nat} (h : k ≠ j) : atF j (k + 1) = atF j k + 1 := by
  rcases Nat.lt_or_ge k j with h1 | h1
  · rw [(atF_lt h1).1, (atF_lt h1).2]
  · rw [(atF_gt (show j < k by omega)).1, (atF_gt (show j < k by omega)).2]
theorem fold_row {t : Tb} {i j : Nat} (hij : i < j) (hj : j < t.length) {k : Nat} (hk : k < t.length) (hkj : k ≠ j) : (foldT t i j).getD (atF j k) [] = if k = i then addRow (t.getD i []) (t.getD j []) else t.getD k [] := by
  have h := fold_get t hij hj hk hkj
  have e : (if k < j then k else k - 1) = atF j k := by
    unfold atF
    by_cases h1 : k < j
    · rw [if_pos h1, if_pos (show k ≤ j by omega)]
    · rw [if_neg h1, if_neg (show ¬ k ≤ j by omega)]
  rw [e] at h; exact h
theorem atF_bd {j k q : Nat} (hk : k < q) (hj : j < q) (hkj : k ≠ j) : atF j k < q - 1 := by unfold atF; split <;> omega
theorem rsum_bdF {t : Tb} (h : Tab t) {i : Nat} (hi : i < t.length) : 0 ≤ (t.getD i []).sum ∧ (t.getD i []).sum ≤ 1000000 := by
  have hm : t.getD i [] ∈ t := by rw [getD_of _ _ hi]; exact List.getElem_mem _
  have := sum_bd99 _ (h.bd _ hm)
  have h2 := h.len _ hm
  have h3 := h.w4
  omega
set_option maxHeartbeats 4000000 in
theorem w_TableFoldTurn (A : Option Addr) (n c : Nat) (hnc : n ≤ c) (hn : n ≤ maxLen) (w : World) (hb : Bytes w w.heap.size A n) :
    Calls Try.prog 13 #[.slice A n c] w fun e w' => e = .returned (.bool true) ∧ Below w.heap.size w w' := by
  have hn2 := hn
  unfold maxLen at hn2
  rcases (show 1048576 < n ∨ ¬ 1048576 < n by omega) with hbig | hbig
  · go_enter Try.func13, Try.ntmps13
    go_wp2
    go_ret
    exact ⟨rfl, Below.refl _ _⟩
  · go_enter Try.func13, Try.ntmps13
    go_wp2_with fail
    refine (dTabFold_any A n c hnc hn _ hb).mono ?_
    rintro e W ⟨v, t, a, b, rfl, hv, _, _, _, _, hbW⟩
    have HV := Lib.hid hv
    obtain ⟨g, hg⟩ : ∃ g, foldOk t a b = g := ⟨_, rfl⟩
    have HG := Lib.hid hg
    obtain ⟨m, hm⟩ : ∃ m, foldI t a b = m := ⟨_, rfl⟩
    have HM := Lib.hid hm
    clear hv hg hm
    go_wp2_with fail
    refine (iFold_is W t _ HV.out a b m g HM.out HG.out _ (Below.refl _ _)).mono ?_
    rintro e w1 ⟨v1, rfl, ho1, b1⟩
    have HVa := Lib.hid (HV.out.below b1)
    go_wp2_with fail
    refine (sFold_is w1 t _ HVa.out a b m g HM.out HG.out _ (Below.refl _ _)).mono ?_
    rintro e w2 ⟨v2, rfl, ho2, b2⟩
    have H1 := Lib.hid ((ho1.below b2).is)
    have H2 := Lib.hid ho2.is
    have HVb := Lib.hid (HVa.out.below b2)
    have HB := Lib.hid (hbW.trans ((b1.trans (b2.mono b1.size)).mono hbW.size))
    clear ho1 ho2 b1 b2 HVa HV hbW
    go_wp2_with fail
    refine (lRows_is w2 m v1 H1.out v2 H2.out _ (Below.refl _ _)).mono ?_
    rintro e w3 ⟨rfl, b3⟩
    cases g
    · go_wp2_with fail
      refine (lRows_is w2 m v1 H1.out v2 H2.out _ b3).mono ?_
      rintro e w4 ⟨rfl, b4⟩
      go_wp2
      go_ret
      exact ⟨rfl, HB.out.trans (b4.mono HB.out.size)⟩
    obtain ⟨ht, i, j, rfl, rfl, hij, hjt, htf, hmf⟩ := foldOk_parts HG.out
    have hm : m = foldT t i j := by rw [← HM.out, hmf]
    subst hm
    have HTT := Lib.hid ht
    have HTF := Lib.hid htf
    have HT := Lib.hid (tab_iff.2 ht)
    have HF := Lib.hid (tab_iff.2 htf)
    have HJT := Lib.hid hjt
    obtain ⟨r, hr⟩ : ∃ r, rsum t = r := ⟨_, rfl⟩
    obtain ⟨s, hs⟩ : ∃ s, csum t = s := ⟨_, rfl⟩
    obtain ⟨r2, hr2⟩ : ∃ r, rsum (foldT t i j) = r := ⟨_, rfl⟩
    have HR := Lib.hid (show rsumI t = r by rw [rsumI, if_pos HT.out, hr])
    have HS := Lib.hid (show csumI t = s by rw [csumI, if_pos HT.out, hs])
    have HR2 := Lib.hid (show rsumI (foldT t i j) = r2 by rw [rsumI, if_pos HF.out, hr2])
    have HS2 := Lib.hid (show csumI (foldT t i j) = s by rw [csumI, if_pos HF.out, fold_csum ht hij hjt, hs])
    obtain ⟨q, hq⟩ : ∃ q, q = t.length := ⟨_, rfl⟩
    have HQ := Lib.hid hq
    have hrl : r.length = q := by rw [← hr, rsum_len, hq]
    have hrl2 : r2.length = q - 1 := by rw [← hr2, rsum_len, fold_len t hjt, hq]
    have hjq : j < q := by omega
    have hq4 : q ≤ 4 := by have := ht.h4; omega
    have HVAL := Lib.hid (show ∀ k, k < q → k ≠ j → r2.getD (atF j k) 0 = if k = i then r.getD i 0 + r.getD j 0 else r.getD k 0 from fun k hk hkj => by
      have hkt : k < t.length := by omega
      rw [← hr2, ← hr, rsum_at (by rw [fold_len t hjt]; have := atF_bd hk hjq hkj; omega), fold_row hij hjt hkt hkj, rsum_at (show i < t.length by omega), rsum_at hjt, rsum_at hkt]
      have li : (t.getD i []).length = wd t := tab_lens HT.out (by omega)
      have lj : (t.getD j []).length = wd t := tab_lens HT.out hjt
      by_cases h : k = i
      · rw [if_pos h, if_pos h, addRow_sum (by rw [li, lj])]
      · rw [if_neg h, if_neg h])
    have HBD := Lib.hid (show ∀ k, k < q → 0 ≤ r.getD k 0 ∧ r.getD k 0 ≤ 1000000 from fun k hk => by
      rw [← hr, rsum_at (show k < t.length by omega)]; exact rsum_bdF ht (by omega))
    clear ht htf hmf hjt hr hs hr2 hq HM
    go_wp2_with fail
    refine (iSums_is w2 t _ HVb.out r s true HR.out HS.out HT.out _ b3).mono ?_
    rintro e w4 ⟨vr, vs, rfl, ho4, _, _, h4⟩
    have b4 : Below w2.heap.size w2 w4 := b3.trans (h4.mono b3.size)
    go_wp2_with fail
    refine (iSums_is w4 (foldT t i j) _ (H1.out.below b4) r2 s true HR2.out HS2.out HF.out _ (Below.refl _ _)).mono ?_
    rintro e w5 ⟨vr2, vs2, rfl, ho5, _, _, h5⟩
    have HB5 := Lib.hid (HB.out.trans ((b4.trans (h5.mono b4.size)).mono HB.out.size))
    obtain ⟨A1, c1, hv1, _, _, h1r⟩ := (ho4.is).below h5
    obtain ⟨A2, c2, hv2, _, _, h2r⟩ := ho5.is
    rw [hrl] at hv1
    rw [hrl2] at hv2
    subst hv1 hv2
    have HC1 := Lib.hid h1r
    have HC2 := Lib.hid h2r
    have HL1 := Lib.hid hrl
    have HL2 := Lib.hid hrl2
    obtain ⟨p, hp⟩ : ∃ p, p = q - 1 := ⟨_, rfl⟩
    have hqp : (q : Int) - 1 = (p : Int) := by omega
    have hwq : wrap64 ((q : Int) - 1) = (p : Int) := by unfold wrap64; omega
    rw [← hp] at HL2 ⊢
    have HP := Lib.hid hp
    have hp4 : p ≤ 4 := by omega
    have HQP := Lib.hid hqp
    clear h1r h2r hrl hrl2 ho4 ho5 h4 h5 b3 b4 H1 H2 HVb HB hp hqp
    have hcond : ((p : Int) != (q : Int) - 1) = false := by rw [HQP.out]; simp
    go_wp2
    clear hcond hwq
    go_loopw [16, 17] (fun x y wr => ∃ k : Nat, k ≤ q ∧ y = .int .i64 k ∧ x = .int .i64 (atF j k : Nat) ∧ Below w5.heap.size w5 wr) (fun _ y _ => q - (intOf y).toNat)
    case atStart => exact ⟨0, Nat.zero_le _, rfl, by simp [atF], Below.refl _ _⟩
    case round =>
      obtain ⟨k, hk, rfl, rfl, hb6⟩ := hrel
      have HB6 := Lib.hid hb6
      by_cases hlt : k < q
      · have hkq : (k : Int) < (q : Int) := by omega
        by_cases hkj : k = j
        · subst hkj
          have HST := Lib.hid (show atF k (k + 1) = atF k k by rw [(atF_eq k).1, (atF_eq k).2])
          clear hb6
          go_wp2
          go_roundw
          case rel => exact ⟨k + 1, by omega, by go_num, by rw [HST.out], HB6.out⟩
          case measure => simp [intOf]; omega
        have hne : ¬ (k : Int) = (j : Int) := by omega
        have HST := Lib.hid (atF_step hkj)
        have hv := HVAL.out k hlt hkj
        have hap := atF_bd hlt hjq hkj
        rw [← HP.out] at hap
        obtain ⟨at', hat⟩ : ∃ x, atF j k = x := ⟨_, rfl⟩
        rw [hat] at HST hv hap ⊢
        obtain ⟨b2, o2, hA2, hlb2, e3⟩ := HC2.out.int_ at' (by rw [HL2.out]; exact hap)
        subst hA2
        obtain ⟨b1, o1, hA1, hlb1, e1⟩ := HC1.out.int_ k (by rw [HL1.out]; exact hlt)
        subst hA1
        have hapi : (at' : Int) < (p : Int) := by omega
        have f1 := (hb6.cell (p := ⟨b1, o1 + k, none⟩) hlb1).trans e1
        have f3 := (hb6.cell (p := ⟨b2, o2 + at', none⟩) hlb2).trans e3
        by_cases hki : k = i
        · subst hki
          rw [if_pos rfl] at hv
          rw [hv] at f3
          obtain ⟨b4, o4, hA4, hlb4, e4⟩ := HC1.out.int_ j (by rw [HL1.out]; exact hjq)
          injection hA4 with hA4
          injection hA4 with g1 g2 _
          subst g1 g2
          have f4 := (hb6.cell (p := ⟨b1, o1 + j, none⟩) hlb4).trans e4
          have hx := HBD.out k hlt
          have hy := HBD.out j hjq
          have hjqi : (j : Int) < (q : Int) := by omega
          generalize r.getD k 0 = x at *
          generalize r.getD j 0 = y at *
          have hw1 : IntKind.i64.wrap (x + y) = x + y := by rw [IntKind.wrap_i64]; omega
          clear e1 e3 e4 hlb1 hlb2 hlb4 hv hat hx hy hb6 hap
          have hbq : ((k : Int) == (j : Int)) = false := by rw [beq_eq_false_iff_ne]; omega
          go_wp2
          clear hbq hne
          go_quiet (fail)
          have HB7 := Lib.hid (below_draws HB6.out nq)
          go_wp2
          go_roundw
          case rel => exact ⟨k + 1, by omega, by go_num, by rw [HST.out]; go_num, HB7.out⟩
          case measure => simp [intOf]; omega
        · rw [if_neg hki] at hv
          rw [hv] at f3
          have hnei : ¬ (k : Int) = (i : Int) := by omega
          generalize r.getD k 0 = x at *
          have hbq : ((k : Int) == (j : Int)) = false := by rw [beq_eq_false_iff_ne]; omega
          clear e1 e3 hlb1 hlb2 hv hat hb6 hap
          go_wp2
          clear hbq hne
          go_quiet (fail)
          have HB7 := Lib.hid (below_draws HB6.out nq)
          go_wp2
          go_roundw
          case rel => exact ⟨k + 1, by omega, by go_num, by rw [HST.out]; go_num, HB7.out⟩
          case measure => simp [intOf]; omega
      · have hkq : ¬ (k : Int) < (q : Int) := by omega
        clear hb6
        go_wp2
        go_ret
        exact ⟨rfl, HB5.out.trans (HB6.out.mono HB5.out.size)⟩
end Go.Proofs.Ytcmnbodnjemjoaa
