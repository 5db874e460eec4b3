/- Laws of chapter 11 on the sums of tables of people. -/
import Derived.Test.YtflelekpcbmmbaaWT5
namespace Go.Proofs.Ytflelekpcbmmbaa
open Go.RowKit
set_option maxHeartbeats 4000000 in
theorem w_TableOfSums (A : Option Addr) (n c : Nat) (hnc : n ≤ c) (hn : n ≤ maxLen) (w : World) (hb : Bytes w w.heap.size A n) :
    Calls Try.prog 5 #[.slice A n c] w fun e w' => e = .returned (.bool true) ∧ Below w.heap.size w w' := by
  have hn2 := hn
  unfold maxLen at hn2
  rcases (show 1048576 < n ∨ ¬ 1048576 < n by omega) with hbig | hbig
  · go_enter Try.func5, Try.ntmps5
    go_wp2
    go_ret
    exact ⟨rfl, Below.refl _ _⟩
  · go_enter Try.func5, Try.ntmps5
    go_wp2_with fail
    refine (dTabOf_any A n c hnc hn _ hb).mono ?_
    rintro e W ⟨v, l, rfl, hv, hl, hbd, hbW⟩
    have HV := Lib.hid hv
    obtain ⟨g, hg⟩ : ∃ g, okL l = g := ⟨_, rfl⟩
    have HG := Lib.hid hg
    obtain ⟨m, hm⟩ : ∃ m, tabI l = m := ⟨_, rfl⟩
    have HM := Lib.hid hm
    have HL := Lib.hid (show l.length ≤ 1048576 by omega)
    clear hv hbd hg hm
    go_wp2_with fail
    refine (iTabOf_is W l _ HV.out m g HM.out HG.out HL.out _ (Below.refl _ _)).mono ?_
    rintro e w1 ⟨v1, rfl, ho1, b1⟩
    have HVa := Lib.hid (HV.out.below b1)
    go_wp2_with fail
    refine (sTabOf_is w1 l _ HVa.out m g HM.out HG.out HL.out _ (Below.refl _ _)).mono ?_
    rintro e w2 ⟨v2, rfl, ho2, b2⟩
    have H1 := Lib.hid ((ho1.below b2).is)
    have H2 := Lib.hid ho2.is
    have HVb := Lib.hid (HVa.out.below b2)
    have HB := Lib.hid (hbW.trans ((b1.trans (b2.mono b1.size)).mono hbW.size))
    clear ho1 ho2 b1 b2 HVa HV hbW
    go_wp2_with fail
    refine (lRows_is w2 m v1 H1.out v2 H2.out _ (Below.refl _ _)).mono ?_
    rintro e w3 ⟨rfl, b3⟩
    cases g
    · go_wp2_with fail
      refine (lRows_is w2 m v1 H1.out v2 H2.out _ b3).mono ?_
      rintro e w4 ⟨rfl, b4⟩
      go_wp2
      go_ret
      exact ⟨rfl, HB.out.trans (b4.mono HB.out.size)⟩
    have hm : m = tabOf l := by rw [← HM.out, tabI, if_pos HG.out]
    subst hm
    have hoc := ok_codes HG.out
    have h40 := hoc.2.2
    have HTO := Lib.hid (tab_iff.2 (tabOf_tab (l := l) (by omega)))
    obtain ⟨r, hr⟩ : ∃ r, rsum (tabOf l) = r := ⟨_, rfl⟩
    obtain ⟨s, hs⟩ : ∃ s, csum (tabOf l) = s := ⟨_, rfl⟩
    have HR := Lib.hid (show rsumI (tabOf l) = r by rw [rsumI, if_pos HTO.out, hr])
    have HS := Lib.hid (show csumI (tabOf l) = s by rw [csumI, if_pos HTO.out, hs])
    have hrl : r.length = 4 := by rw [← hr, rsum_len, tabOf_len]
    have hsl : s.length = 4 := by rw [← hs, csum_len, tabOf_wd]
    have HF1 := Lib.hid (show r.length = 4 ∧ ∀ i, i < 4 → r.getD i 0 = many l i (-1) (-1) from ⟨hrl, fun i hi => by
      rw [many_ari HG.out hi, ← hr, tabOf_rsum HG.out, getD_of _ _ (by simpa using hi)]; simp⟩)
    have HF2 := Lib.hid (show s.length = 4 ∧ ∀ i, i < 4 → s.getD i 0 = many l (-1) i (-1) from ⟨hsl, fun i hi => by
      rw [many_joi HG.out hi, ← hs, tabOf_csum HG.out, getD_of _ _ (by simpa using hi)]; simp⟩)
    obtain ⟨A1, c1, hv1, _, _, _⟩ := H1.out
    obtain ⟨A0, c0, hv0, _, _, _⟩ := HVb.out
    rw [tabOf_len] at hv1
    subst hv1 hv0
    clear hoc h40 hl
    go_wp2_with fail
    refine (iSums_is w3 (tabOf l) _ (H1.out.below b3) r s true HR.out HS.out HTO.out _ (Below.refl _ _)).mono ?_
    rintro e w4 ⟨vr, vs, rfl, ho4, ho4', _, b4⟩
    have b24 := b3.trans (b4.mono b3.size)
    have HVc := Lib.hid (HVb.out.below b24)
    have HB4 := Lib.hid (HB.out.trans (b24.mono HB.out.size))
    obtain ⟨Ar, cr, hvr, _, _, hrr⟩ := ho4.is
    obtain ⟨As, cs, hvs, _, _, hss⟩ := ho4'.is
    rw [hrl] at hvr
    rw [hsl] at hvs
    subst hvr hvs
    have HC1 := Lib.hid hrr
    have HC2 := Lib.hid hss
    clear hrr hss ho4 ho4' b3 b4 b24 hr hs hrl hsl HVb HB
    go_wp2
    go_loopw [11] (fun x wr => ∃ i : Nat, i ≤ 4 ∧ x = .int .i64 i ∧ Below w4.heap.size w4 wr) (fun x _ => 4 - (intOf x).toNat)
    case atStart => exact ⟨0, by omega, rfl, Below.refl _ _⟩
    case round =>
      obtain ⟨i, hi, rfl, hb6⟩ := hrel
      have HB6 := Lib.hid hb6
      by_cases hlt : i < 4
      · have hii : (i : Int) < 4 := by omega
        obtain ⟨b2, o2, hA2, hlb2, e2⟩ := HC1.out.int_ i (by rw [HF1.out.1]; exact hlt)
        subst hA2
        rw [HF1.out.2 i hlt] at e2
        obtain ⟨z, hz⟩ : ∃ z, many l i (-1) (-1) = z := ⟨_, rfl⟩
        have HZ := Lib.hid hz
        rw [hz] at e2
        have HF := Lib.hid (show ∀ w', Below w4.heap.size w4 w' → (Below w4.heap.size w4 w' ∧ w'.cell? ⟨b2, o2 + i, none⟩ = some (.int .i64 z)) from
          fun w' h => ⟨h, (h.cell (p := ⟨b2, o2 + i, none⟩) hlb2).trans e2⟩)
        have bd : Below w4.heap.size w4 wr.drew := hb6.drew
        clear e2 hlb2 hz hb6
        go_wp2
        go_region_held3 (fun w' => Below w4.heap.size w4 w' ∧ w'.cell? ⟨b2, o2 + i, none⟩ = some (.int .i64 z))
          (first | exact HF.out _ (by assumption) | exact HF.out _ bd)
          (first
            | (go_at_call 12; (with_reducible refine (iMany_is w4 l _ HVc.out i (-1) (-1) z HZ.out _ ?_).mono ?_); (first | assumption | exact bd); rintro e w7 ⟨rfl, h7⟩))
        have HB7 := Lib.hid (show Below w4.heap.size w4 _ by assumption)
        go_wp2
        go_roundw
        case rel => exact ⟨i + 1, by omega, by go_num, HB7.out⟩
        case measure => simp [intOf]; omega
      · have hii : ¬ (i : Int) < 4 := by omega
        clear hb6
        go_wp2
        go_loopw [12] (fun x wr => ∃ i : Nat, i ≤ 4 ∧ x = .int .i64 i ∧ Below w4.heap.size w4 wr) (fun x _ => 4 - (intOf x).toNat)
        case atStart => exact ⟨0, by omega, rfl, HB6.out⟩
        case round =>
          obtain ⟨i, hi, rfl, hb6⟩ := hrel
          have HB6 := Lib.hid hb6
          by_cases hlt : i < 4
          · have hii : (i : Int) < 4 := by omega
            obtain ⟨b2, o2, hA2, hlb2, e2⟩ := HC2.out.int_ i (by rw [HF2.out.1]; exact hlt)
            subst hA2
            rw [HF2.out.2 i hlt] at e2
            obtain ⟨z, hz⟩ : ∃ z, many l (-1) i (-1) = z := ⟨_, rfl⟩
            have HZ := Lib.hid hz
            rw [hz] at e2
            have HF := Lib.hid (show ∀ w', Below w4.heap.size w4 w' → (Below w4.heap.size w4 w' ∧ w'.cell? ⟨b2, o2 + i, none⟩ = some (.int .i64 z)) from
              fun w' h => ⟨h, (h.cell (p := ⟨b2, o2 + i, none⟩) hlb2).trans e2⟩)
            have bd : Below w4.heap.size w4 wr.drew := hb6.drew
            clear e2 hlb2 hz hb6
            go_wp2
            go_region_held3 (fun w' => Below w4.heap.size w4 w' ∧ w'.cell? ⟨b2, o2 + i, none⟩ = some (.int .i64 z))
              (first | exact HF.out _ (by assumption) | exact HF.out _ bd)
              (first
                | (go_at_call 12; (with_reducible refine (iMany_is w4 l _ HVc.out (-1) i (-1) z HZ.out _ ?_).mono ?_); (first | assumption | exact bd); rintro e w7 ⟨rfl, h7⟩))
            have HB7 := Lib.hid (show Below w4.heap.size w4 _ by assumption)
            go_wp2
            go_roundw
            case rel => exact ⟨i + 1, by omega, by go_num, HB7.out⟩
            case measure => simp [intOf]; omega
          · have hii : ¬ (i : Int) < 4 := by omega
            clear hb6
            go_wp2
            go_ret
            exact ⟨rfl, HB4.out.trans (HB6.out.mono HB4.out.size)⟩
end Go.Proofs.Ytflelekpcbmmbaa
