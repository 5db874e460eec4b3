/- Laws of chapter 11 on tables of people. -/
import Derived.Test.YtflelekpcbmmbaaTI
import Derived.Test.YtflelekpcbmmbaaTL4
import Derived.Test.YtflelekpcbmmbaaTD3
import Derived.Test.YtflelekpcbmmbaaA2
import Derived.Test.YtflelekpcbmmbaaA4
import Derived.Test.YtflelekpcbmmbaaA9
import Derived.Deep.RegionHeld3
namespace Go.Proofs.Ytflelekpcbmmbaa
open Go.RowKit
theorem many_at4 {l : List Pn} (h : okL l = true) {i j : Int} (hi : -1 ≤ i ∧ i < 4) (hj : -1 ≤ j ∧ j < 4) : many l i j (-1) = ((l.filter fun p => fit3 p i j (-1)).length : Nat) := by
  unfold many cnt askOk
  rw [h]
  rw [if_pos (by rw [Bool.true_and]; simp [ask3, ask1]; omega)]
theorem many_cel {l : List Pn} (h : okL l = true) {i j : Nat} (hi : i < 4) (hj : j < 4) : many l i j (-1) = cel l i j := by
  rw [many_at4 h (by omega) (by omega), cel]
  congr 2
  refine List.filter_congr fun p _ => ?_
  rw [Bool.eq_iff_iff]; simp [fit3, fit1]; try omega
theorem many_ari {l : List Pn} (h : okL l = true) {i : Nat} (hi : i < 4) : many l i (-1) (-1) = ari l i := by
  rw [many_at4 h (by omega) (by omega), ari]
  congr 2
  refine List.filter_congr fun p _ => ?_
  rw [Bool.eq_iff_iff]; simp [fit3, fit1]; try omega
theorem many_joi {l : List Pn} (h : okL l = true) {j : Nat} (hj : j < 4) : many l (-1) j (-1) = joi l j := by
  rw [many_at4 h (by omega) (by omega), joi]
  congr 2
  refine List.filter_congr fun p _ => ?_
  rw [Bool.eq_iff_iff]; simp [fit3, fit1]; try omega
set_option maxHeartbeats 4000000 in
theorem w_TableOf (A : Option Addr) (n c : Nat) (hnc : n ≤ c) (hn : n ≤ maxLen) (w : World) (hb : Bytes w w.heap.size A n) :
    Calls Try.prog 3 #[.slice A n c] w fun e w' => e = .returned (.bool true) ∧ Below w.heap.size w w' := by
  have hn2 := hn
  unfold maxLen at hn2
  rcases (show 1048576 < n ∨ ¬ 1048576 < n by omega) with hbig | hbig
  · go_enter Try.func3, Try.ntmps3
    go_wp2
    go_ret
    exact ⟨rfl, Below.refl _ _⟩
  · go_enter Try.func3, Try.ntmps3
    go_wp2_with fail
    refine (dTabOf_any A n c hnc hn _ hb).mono ?_
    rintro e W ⟨v, l, rfl, hv, hl, hbd, hbW⟩
    have HV := Lib.hid hv
    obtain ⟨g, hg⟩ : ∃ g, okL l = g := ⟨_, rfl⟩
    have HG := Lib.hid hg
    obtain ⟨m, hm⟩ : ∃ m, tabI l = m := ⟨_, rfl⟩
    have HM := Lib.hid hm
    have HL := Lib.hid (show l.length ≤ 1048576 by omega)
    clear hv hbd hg hm
    go_wp2_with fail
    refine (iTabOf_is W l _ HV.out m g HM.out HG.out HL.out _ (Below.refl _ _)).mono ?_
    rintro e w1 ⟨v1, rfl, ho1, b1⟩
    have HVa := Lib.hid (HV.out.below b1)
    go_wp2_with fail
    refine (sTabOf_is w1 l _ HVa.out m g HM.out HG.out HL.out _ (Below.refl _ _)).mono ?_
    rintro e w2 ⟨v2, rfl, ho2, b2⟩
    have H1 := Lib.hid ((ho1.below b2).is)
    have H2 := Lib.hid ho2.is
    have HVb := Lib.hid (HVa.out.below b2)
    have HB := Lib.hid (hbW.trans ((b1.trans (b2.mono b1.size)).mono hbW.size))
    clear ho1 ho2 b1 b2 HVa HV hbW
    go_wp2_with fail
    refine (lRows_is w2 m v1 H1.out v2 H2.out _ (Below.refl _ _)).mono ?_
    rintro e w3 ⟨rfl, b3⟩
    cases g
    · go_wp2_with fail
      refine (lRows_is w2 m v1 H1.out v2 H2.out _ b3).mono ?_
      rintro e w4 ⟨rfl, b4⟩
      go_wp2
      go_ret
      exact ⟨rfl, HB.out.trans (b4.mono HB.out.size)⟩
    have hm : m = tabOf l := by rw [← HM.out, tabI, if_pos HG.out]
    subst hm
    have hoc := ok_codes HG.out
    have h40 := hoc.2.2
    have HTT := Lib.hid (show ttot (tabOf l) = (l.length : Int) by rw [ttot, if_pos (tab_iff.2 (tabOf_tab (by omega))), tabOf_tsum HG.out])
    obtain ⟨q, hq⟩ : ∃ q, q = l.length := ⟨_, rfl⟩
    have HQ := Lib.hid hq
    rw [← hq] at HTT
    have HCEL := Lib.hid (show ∀ i j : Nat, i < 4 → j < 4 → many l i j (-1) = cel l i j from fun i j hi hj => many_cel HG.out hi hj)
    obtain ⟨A1, c1, hv1, _, _, hr1⟩ := H1.out
    obtain ⟨A0, c0, hv0, _, _, _⟩ := HVb.out
    rw [tabOf_len] at hv1
    rw [← hq] at hv0
    subst hv1 hv0
    have HLL := Lib.hid hr1
    have hq40 : q ≤ 40 := by omega
    have HB3 := Lib.hid b3
    clear hr1 hq hoc h40 b3 hl
    go_wp2
    go_loopw [8] (fun x wr => ∃ i : Nat, i ≤ 4 ∧ x = .int .i64 i ∧ Below w2.heap.size w2 wr) (fun x _ => 4 - (intOf x).toNat)
    case atStart => exact ⟨0, by omega, rfl, HB3.out⟩
    case round =>
      obtain ⟨i, hi, rfl, hb5⟩ := hrel
      have HB5 := Lib.hid hb5
      clear hb5
      by_cases hlt : i < 4
      · have hii : (i : Int) < 4 := by omega
        go_wp2
        go_loopw [9] (fun x wr' => ∃ j : Nat, j ≤ 4 ∧ x = .int .i64 j ∧ Below w2.heap.size w2 wr') (fun x _ => 4 - (intOf x).toNat)
        case atStart => exact ⟨0, by omega, rfl, HB5.out⟩
        case round =>
          obtain ⟨j, hj, rfl, hb6⟩ := hrel
          obtain ⟨b, o, Ai, ci, hA, hlb, e0, hlc, hcm, r0⟩ := HLL.out.at_ i (by rw [tabOf_len]; exact hlt)
          subst hA
          have hrl : ((tabOf l).getD i []).length = 4 := by rw [tabOf_row l hlt]; simp
          rw [hrl] at e0
          have f0 := (hb6.cell (p := ⟨b, o + i, none⟩) hlb).trans e0
          have HB6 := Lib.hid hb6
          by_cases hltj : j < 4
          · have hji : (j : Int) < 4 := by omega
            obtain ⟨b2, o2, hA2, hlb2, e2⟩ := r0.int_ j (by rw [hrl]; exact hltj)
            subst hA2
            rw [tabOf_cell l hlt hltj] at e2
            obtain ⟨z, hz⟩ : ∃ z, cel l i j = z := ⟨_, rfl⟩
            have HZ := Lib.hid (show many l i j (-1) = z by rw [HCEL.out i j hlt hltj, hz])
            rw [hz] at e2
            have HF := Lib.hid (show ∀ w', Below w2.heap.size w2 w' → (Below w2.heap.size w2 w' ∧ w'.cell? ⟨b, o + i, none⟩ = some (.slice (some ⟨b2, o2, none⟩) 4 ci) ∧ w'.cell? ⟨b2, o2 + j, none⟩ = some (.int .i64 z)) from
              fun w' h => ⟨h, (h.cell (p := ⟨b, o + i, none⟩) hlb).trans e0, (h.cell (p := ⟨b2, o2 + j, none⟩) hlb2).trans e2⟩)
            have bd : Below w2.heap.size w2 wr.drew := hb6.drew
            clear e0 e2 hlb hlb2 hlc hcm r0 hz hrl hb6
            go_wp2
            clear f0
            go_region_held3 (fun w' => Below w2.heap.size w2 w' ∧ w'.cell? ⟨b, o + i, none⟩ = some (.slice (some ⟨b2, o2, none⟩) 4 ci) ∧ w'.cell? ⟨b2, o2 + j, none⟩ = some (.int .i64 z))
              (first | exact HF.out _ (by assumption) | exact HF.out _ bd)
              (first
                | (go_at_call 12; (with_reducible refine (iMany_is w2 l _ HVb.out i j (-1) z HZ.out _ ?_).mono ?_); (first | assumption | exact bd); rintro e w7 ⟨rfl, h7⟩))
            have HB7 := Lib.hid (show Below w2.heap.size w2 _ by assumption)
            go_wp2
            go_roundw
            case rel => exact ⟨j + 1, by omega, by go_num, HB7.out⟩
            case measure => simp [intOf]; omega
          · have hji : ¬ (j : Int) < 4 := by omega
            clear e0 hlb hlc hcm r0 hrl hb6
            go_wp2
            go_roundw
            case rel => exact ⟨i + 1, by omega, by go_num, HB6.out⟩
            case measure => simp [intOf]; omega
      · have hii : ¬ (i : Int) < 4 := by omega
        go_wp2_with fail
        refine (iTotal_is w2 (tabOf l) _ H1.out (q : Int) HTT.out _ HB5.out).mono ?_
        rintro e w8 ⟨rfl, b8⟩
        go_wp2
        go_ret
        exact ⟨rfl, HB.out.trans (b8.mono HB.out.size)⟩
end Go.Proofs.Ytflelekpcbmmbaa
