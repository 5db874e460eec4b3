/- Laws of chapter 11 on masks turned. -/
import Derived.Test.YtcmnbodnjemjoaaTI
import Derived.Test.YtcmnbodnjemjoaaTL4
import Derived.Test.YtcmnbodnjemjoaaTD5
import Derived.Test.YtcmnbodnjemjoaaA2
import Derived.Test.YtcmnbodnjemjoaaA4
namespace Go.Proofs.Ytcmnbodnjemjoaa
open Go.RowKit
theorem msmall_bdT {t : Tb} (h : Tab t) (k : Int) : mmany (msmall t k) ≤ 1000000 := mmany_bd (by simp [msmall]; have := h.h4; omega) (fun r hr => by
  obtain ⟨x, hx, rfl⟩ := List.mem_map.1 hr
  have h1 := h.len x hx
  have h2 := h.w4
  simp [small]; omega)
def one0 (x : Int) : Int := if 1 ≤ x then 1 else x
def nzr (r : List Int) : Int := (r.map one0).sum
theorem nz_eq (t : Tb) : nz t = (t.map nzr).sum := rfl
theorem nzr_bd {r : List Int} (h : ∀ x ∈ r, 0 ≤ x ∧ x ≤ 99) : 0 ≤ nzr r ∧ nzr r ≤ r.length := by
  induction r with
  | nil => simp [nzr]
  | cons a r ih =>
    have h1 := ih fun x hx => h x (List.mem_cons_of_mem _ hx)
    have h2 := h a (by simp)
    simp only [nzr, List.map_cons, List.sum_cons, List.length_cons, one0] at *
    split <;> omega
theorem nz_bd {t : Tb} (h : ∀ r ∈ t, r.length ≤ 4 ∧ ∀ x ∈ r, 0 ≤ x ∧ x ≤ 99) : 0 ≤ nz t ∧ nz t ≤ 4 * t.length := by
  rw [nz_eq]
  induction t with
  | nil => simp
  | cons a t ih =>
    have h1 := ih fun x hx => h x (List.mem_cons_of_mem _ hx)
    obtain ⟨h2, h3⟩ := h a (by simp)
    have h4 := nzr_bd h3
    simp only [List.map_cons, List.sum_cons, List.length_cons] at *
    omega
theorem nz_snoc (t : Tb) (k : Nat) (hk : k < t.length) : nz (t.take (k + 1)) = nz (t.take k) + nzr (t.getD k []) := by
  rw [nz_eq, nz_eq, take_snocT t k hk]; simp
theorem nzr_snoc (r : List Int) (p : Nat) (hp : p < r.length) : nzr (r.take (p + 1)) = nzr (r.take p) + one0 (r.getD p 0) := by
  unfold nzr
  rw [List.take_succ_eq_append_getElem hp, List.map_append, List.sum_append, getD_of _ _ hp]; simp only [List.map_cons, List.map_nil, List.sum_cons, List.sum_nil]; omega
set_option maxHeartbeats 4000000 in
theorem w_MaskSmallTurn (A : Option Addr) (n c : Nat) (hnc : n ≤ c) (hn : n ≤ maxLen) (w : World) (hb : Bytes w w.heap.size A n) :
    Calls Try.prog 11 #[.slice A n c] w fun e w' => e = .returned (.bool true) ∧ Below w.heap.size w w' := by
  have hn2 := hn
  unfold maxLen at hn2
  rcases (show 1048576 < n ∨ ¬ 1048576 < n by omega) with hbig | hbig
  · go_enter Try.func11, Try.ntmps11
    go_wp2
    go_ret
    exact ⟨rfl, Below.refl _ _⟩
  · go_enter Try.func11, Try.ntmps11
    go_wp2_with fail
    refine (dMaskSmall_any A n c hnc hn _ hb).mono ?_
    rintro e W ⟨v, t, kk, rfl, hv, hl, hlr, hkk, hbW⟩
    have HV := Lib.hid hv
    obtain ⟨g, hg⟩ : ∃ g, tabOk t = g := ⟨_, rfl⟩
    have HG := Lib.hid hg
    obtain ⟨m, hm⟩ : ∃ m, msmallI t kk = m := ⟨_, rfl⟩
    have HM := Lib.hid hm
    clear hv hlr hg hm
    go_wp2_with fail
    refine (iSmall_is W t _ HV.out kk m g HM.out HG.out _ (Below.refl _ _)).mono ?_
    rintro e w1 ⟨v1, rfl, ho1, b1⟩
    have HVa := Lib.hid (HV.out.below b1)
    go_wp2_with fail
    refine (sSmall_is w1 t _ HVa.out kk m g HM.out HG.out _ (Below.refl _ _)).mono ?_
    rintro e w2 ⟨v2, rfl, ho2, b2⟩
    have H1 := Lib.hid ((ho1.below b2).is)
    have H2 := Lib.hid ho2.is
    have HVb := Lib.hid (HVa.out.below b2)
    have HB := Lib.hid (hbW.trans ((b1.trans (b2.mono b1.size)).mono hbW.size))
    clear ho1 ho2 b1 b2 HVa HV hbW
    go_wp2_with fail
    refine (lMask_is w2 m v1 H1.out v2 H2.out _ (Below.refl _ _)).mono ?_
    rintro e w3 ⟨rfl, b3⟩
    cases g
    · go_wp2_with fail
      refine (lMask_is w2 m v1 H1.out v2 H2.out _ b3).mono ?_
      rintro e w4 ⟨rfl, b4⟩
      go_wp2
      go_ret
      exact ⟨rfl, HB.out.trans (b4.mono HB.out.size)⟩
    · have ht := tab_iff.1 HG.out
      have hm : m = msmall t kk := by rw [← HM.out, msmallI, if_pos HG.out]
      subst hm
      have ht2 := tab_turn ht
      have HG2 := Lib.hid (tab_iff.2 ht2)
      have HM2 := Lib.hid (show turnI t = turn t by rw [turnI, if_pos HG.out])
      have HMx := Lib.hid (show msmallI (turn t) kk = msmall (turn t) kk by rw [msmallI, if_pos HG2.out])
      have HMy := Lib.hid (show msmallI t 1 = msmall t 1 by rw [msmallI, if_pos HG.out])
      have HMz := Lib.hid (show msmallI t 100 = msmall t 100 by rw [msmallI, if_pos HG.out])
      have hb1 := msmall_bdT ht 1
      have hb2 := msmall_bdT ht 100
      have HB1 := Lib.hid (show mmany (msmall t 1) ≤ 1000000000 by omega)
      have HB2 := Lib.hid (show mmany (msmall t 100) ≤ 1000000000 by omega)
      have HY1 := Lib.hid (show (mmany (msmall t 1) : Int) = 0 by rw [msmall_one]; rfl)
      have HY2 := Lib.hid (msmall_all ht)
      have HTU := Lib.hid (msmall_turn ht kk).symm
      have HTT := Lib.hid ht
      obtain ⟨q, hq⟩ : ∃ q, q = t.length := ⟨_, rfl⟩
      obtain ⟨d, hd⟩ : ∃ d, d = wd t := ⟨_, rfl⟩
      have HQ := Lib.hid hq
      have HD := Lib.hid hd
      have hq4 : 1 ≤ q ∧ q ≤ 4 := by rw [hq]; exact ⟨ht.h1, ht.h4⟩
      have hd4 : 1 ≤ d ∧ d ≤ 4 := by rw [hd]; exact ⟨ht.w1, ht.w4⟩
      have HSR := Lib.hid (show ∀ r ∈ msmall t kk, r.length = d from fun r hr => by
        obtain ⟨x, hx, rfl⟩ := List.mem_map.1 hr
        simp [small, ht.len x hx, hd])
      have HSL := Lib.hid (show (msmall t kk).length = q by simp [msmall, hq])
      clear hb1 hb2 hq hd ht ht2
      go_wp2_with fail
      refine (iTurn_is w2 t _ HVb.out (turn t) true HM2.out HG.out _ b3).mono ?_
      rintro e w4 ⟨v4, rfl, ho4, h4⟩
      have b4 := b3.trans (h4.mono b3.size)
      have HU := Lib.hid ho4.is
      clear ho4 h4
      go_wp2_with fail
      refine (iSmall_is w4 (turn t) v4 HU.out kk _ true HMx.out HG2.out _ (Below.refl _ _)).mono ?_
      rintro e w5 ⟨v5, rfl, ho5, h5⟩
      have b5 := b4.trans (h5.mono b4.size)
      have HX5 := Lib.hid ho5.is
      clear ho5 h5
      go_wp2_with fail
      refine (iSmall_is w2 t v HVb.out 1 _ true HMy.out HG.out _ b5).mono ?_
      rintro e w6 ⟨v6, rfl, ho6, h6⟩
      have b6 := b5.trans (h6.mono b5.size)
      have HX6 := Lib.hid (HX5.out.below h6)
      have HY6 := Lib.hid ho6.is
      clear ho6 h6
      go_wp2_with fail
      refine (iSmall_is w2 t v HVb.out 100 _ true HMz.out HG.out _ b6).mono ?_
      rintro e w7 ⟨v7, rfl, ho7, h7⟩
      have b7 := b6.trans (h7.mono b6.size)
      have HX7 := Lib.hid (HX6.out.below h7)
      have HY7 := Lib.hid (HY6.out.below h7)
      have HZ7 := Lib.hid ho7.is
      have HO := Lib.hid (H1.out.below b7)
      have HT := Lib.hid (HVb.out.below b7)
      have HB7 := Lib.hid (HB.out.trans (b7.mono HB.out.size))
      obtain ⟨A0, c0, hv0, _, _, hr0⟩ := HT.out
      rw [← HQ.out] at hv0
      subst hv0
      have HR0 := Lib.hid hr0
      clear ho7 h7 b3 b4 b5 b6 b7 HX5 HX6 HY6 HU hr0 H1 H2 HVb HB HM HM2 HMx HMy HMz
      go_wp2
      go_loopw [17, 18] (fun n i wr => ∃ k : Nat, k ≤ q ∧ i = .int .i64 k ∧ n = .int .i64 (nz (t.take k)) ∧ wr = w7) (fun _ i _ => q - (intOf i).toNat)
      case atStart => exact ⟨0, Nat.zero_le _, rfl, rfl, rfl⟩
      case round =>
        obtain ⟨k, hk, rfl, rfl, rfl⟩ := hrel
        by_cases hlt : k < q
        · have hki : (k : Int) < (q : Int) := by omega
          have hkt : k < t.length := by rw [← HQ.out]; exact hlt
          obtain ⟨b, o, Ai, ci, hA, _, e0, _, _, r0⟩ := HR0.out.at_ k hkt
          have hln := tab_lens (tab_iff.2 HTT.out) hkt
          rw [hln, ← HD.out] at e0
          subst hA
          have hmem : t.getD k [] ∈ t := by rw [getD_of _ _ hkt]; exact List.getElem_mem _
          have hnb := nz_bd (t := t.take k) (fun r hr => ⟨by have h1 := HTT.out.len r (List.mem_of_mem_take hr); have h2 := HTT.out.w4; omega, HTT.out.bd r (List.mem_of_mem_take hr)⟩)
          have hns := nz_snoc t k hkt
          have hbd := HTT.out.bd _ hmem
          obtain ⟨row, hrow⟩ : ∃ row, t.getD k [] = row := ⟨_, rfl⟩
          rw [hrow] at hns hbd hln r0
          have HNS := Lib.hid hns
          have HBD := Lib.hid hbd
          have HRI := Lib.hid r0
          have HLN := Lib.hid (show row.length = d by rw [hln, HD.out])
          obtain ⟨n0, hn0⟩ : ∃ n0, nz (t.take k) = n0 := ⟨_, rfl⟩
          rw [hn0] at hnb HNS ⊢
          have hn0b : 0 ≤ n0 ∧ n0 ≤ 16 := by rw [List.length_take] at hnb; omega
          clear r0 hns hbd hln hrow hmem hnb hn0
          go_wp2
          go_loopw [17, 19] (fun n j wr' => ∃ p : Nat, p ≤ d ∧ j = .int .i64 p ∧ n = .int .i64 (n0 + nzr (row.take p)) ∧ wr' = wr) (fun _ j _ => d - (intOf j).toNat)
          case atStart => exact ⟨0, Nat.zero_le _, rfl, by simp [nzr], rfl⟩
          case round =>
            obtain ⟨p, hp, rfl, rfl, hw⟩ := hrel
            subst hw
            by_cases hpd : p < d
            · have hpi : (p : Int) < (d : Int) := by omega
              have hpl : p < row.length := by rw [HLN.out]; exact hpd
              obtain ⟨b2, o2, hA2, _, f0⟩ := HRI.out.int_ p hpl
              subst hA2
              have hs := nzr_snoc row p hpl
              have hb1 := nzr_bd (r := row.take p) (fun x hx => HBD.out x (List.mem_of_mem_take hx))
              have hy := HBD.out (row.getD p 0) (by rw [getD_of _ _ hpl]; exact List.getElem_mem _)
              have HS := Lib.hid hs
              obtain ⟨y, hyy⟩ : ∃ y, row.getD p 0 = y := ⟨_, rfl⟩
              obtain ⟨n1, hn1⟩ : ∃ n1, nzr (row.take p) = n1 := ⟨_, rfl⟩
              rw [hyy] at f0 hy HS
              rw [hn1] at hb1 HS ⊢
              have hn1b : 0 ≤ n1 ∧ n1 ≤ 4 := by rw [List.length_take] at hb1; omega
              clear hs hb1 hyy hn1
              by_cases h1 : 1 ≤ y
              · have HO1 := Lib.hid (show one0 y = 1 by rw [one0, if_pos h1])
                go_wp2
                go_roundw
                case rel => exact ⟨p + 1, by omega, by go_num, by rw [HS.out, HO1.out]; congr 1; omega, trivial⟩
                case measure => simp [intOf]; omega
              · have HO1 := Lib.hid (show one0 y = 0 by rw [one0, if_neg h1]; omega)
                have hy0 : y = 0 := by omega
                subst hy0
                go_wp2
                go_roundw
                case rel => exact ⟨p + 1, by omega, by go_num, by rw [HS.out, HO1.out]; congr 1; omega, trivial⟩
                case measure => simp [intOf]; omega
            · have hpi : ¬ (p : Int) < (d : Int) := by omega
              have hpr : row.take p = row := List.take_of_length_le (by rw [HLN.out]; omega)
              rw [hpr, ← HNS.out]
              clear hpr
              go_wp2
              go_roundw
              case rel => exact ⟨k + 1, by omega, by go_num, rfl, trivial⟩
              case measure => simp [intOf]; omega
        · have hki : ¬ (k : Int) < (q : Int) := by omega
          have hkq : t.take k = t := List.take_of_length_le (by rw [← HQ.out]; omega)
          rw [hkq]
          obtain ⟨y2, hy2⟩ : ∃ y2, nz t = y2 := ⟨_, rfl⟩
          rw [hy2] at HY2 ⊢
          clear hkq hy2
          go_wp2_with fail
          refine (lTurnM_is wr (msmall t kk) v1 HO.out d (by rw [HSL.out]; omega) (by rw [HSL.out]; omega) HSR.out (by omega) _ HTU.out _ (Below.refl _ _)).mono ?_
          rintro e w8 ⟨v8, rfl, ho8, b8⟩
          have HX8 := Lib.hid (HX7.out.below b8)
          have HV8 := Lib.hid ho8.is
          clear ho8
          go_wp2_with fail
          refine (lMask_is w8 _ v5 HX8.out v8 HV8.out _ (Below.refl _ _)).mono ?_
          rintro e w9 ⟨rfl, h9⟩
          have b9 := b8.trans (h9.mono b8.size)
          go_wp2_with fail
          refine (iMaskMany_is wr _ v6 HY7.out HB1.out 0 HY1.out _ b9).mono ?_
          rintro e w10 ⟨rfl, b10⟩
          go_wp2_with fail
          refine (iMaskMany_is wr _ v7 HZ7.out HB2.out y2 HY2.out _ b10).mono ?_
          rintro e w11 ⟨rfl, b11⟩
          go_wp2
          go_ret
          exact ⟨rfl, HB7.out.trans (b11.mono HB7.out.size)⟩
end Go.Proofs.Ytcmnbodnjemjoaa
