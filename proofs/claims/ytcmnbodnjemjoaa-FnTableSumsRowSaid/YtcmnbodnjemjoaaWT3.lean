/- Laws of chapter 11 on the sums of tables. -/
import Derived.Test.YtcmnbodnjemjoaaTI
import Derived.Test.YtcmnbodnjemjoaaTL4
import Derived.Test.YtcmnbodnjemjoaaTD5
import Derived.Test.YtcmnbodnjemjoaaA2
import Derived.Test.YtcmnbodnjemjoaaA4
namespace Go.Proofs.Ytcmnbodnjemjoaa
open Go.RowKit
theorem rsum_bdW {t : Tb} (h : Tab t) : ∀ y ∈ rsum t, 0 ≤ y ∧ y ≤ 1000000 := fun y hy => by
  obtain ⟨r, hr, rfl⟩ := List.mem_map.1 hy
  have := sum_bd99 r (h.bd r hr)
  have h2 := h.len r hr
  have h3 := h.w4
  omega
theorem csum_bdW {t : Tb} (h : Tab t) : ∀ y ∈ csum t, 0 ≤ y ∧ y ≤ 1000000 := by rw [← rsum_turn]; exact rsum_bdW (tab_turn h)
set_option maxHeartbeats 4000000 in
theorem w_TableSums (A : Option Addr) (n c : Nat) (hnc : n ≤ c) (hn : n ≤ maxLen) (w : World) (hb : Bytes w w.heap.size A n) :
    Calls Try.prog 4 #[.slice A n c] w fun e w' => e = .returned (.bool true) ∧ Below w.heap.size w w' := by
  have hn2 := hn
  unfold maxLen at hn2
  rcases (show 1048576 < n ∨ ¬ 1048576 < n by omega) with hbig | hbig
  · go_enter Try.func4, Try.ntmps4
    go_wp2
    go_ret
    exact ⟨rfl, Below.refl _ _⟩
  · go_enter Try.func4, Try.ntmps4
    go_wp2_with fail
    refine (dTabSums_any A n c hnc hn _ hb).mono ?_
    rintro e W ⟨v, t, rfl, hv, hl, hlr, hbW⟩
    have HV := Lib.hid hv
    obtain ⟨g, hg⟩ : ∃ g, tabOk t = g := ⟨_, rfl⟩
    have HG := Lib.hid hg
    obtain ⟨r, hr⟩ : ∃ r, rsumI t = r := ⟨_, rfl⟩
    obtain ⟨s, hs⟩ : ∃ s, csumI t = s := ⟨_, rfl⟩
    have HR := Lib.hid hr
    have HS := Lib.hid hs
    clear hv hlr hg hr hs
    go_wp2_with fail
    refine (iSums_is W t _ HV.out r s g HR.out HS.out HG.out _ (Below.refl _ _)).mono ?_
    rintro e w1 ⟨v1, u1, rfl, ho1, ho1', _, b1⟩
    have HVa := Lib.hid (HV.out.below b1)
    go_wp2_with fail
    refine (sSums_is w1 t _ HVa.out r s g HR.out HS.out HG.out _ (Below.refl _ _)).mono ?_
    rintro e w2 ⟨v2, u2, rfl, ho2, ho2', _, b2⟩
    have H1 := Lib.hid ((ho1.below b2).is)
    have H1' := Lib.hid ((ho1'.below b2).is)
    have H2 := Lib.hid ho2.is
    have H2' := Lib.hid ho2'.is
    have HVb := Lib.hid (HVa.out.below b2)
    have HB := Lib.hid (hbW.trans ((b1.trans (b2.mono b1.size)).mono hbW.size))
    clear ho1 ho2 ho1' ho2' b1 b2 HVa HV hbW
    go_wp2_with fail
    refine (lInts_is w2 r v1 H1.out v2 H2.out _ (Below.refl _ _)).mono ?_
    rintro e w3 ⟨rfl, b3⟩
    go_wp2_with fail
    refine (lInts_is w2 s u1 H1'.out u2 H2'.out _ b3).mono ?_
    rintro e w4 ⟨rfl, b4⟩
    cases g
    · go_wp2_with fail
      refine (lInts_is w2 r v1 H1.out v2 H2.out _ b4).mono ?_
      rintro e w5 ⟨rfl, b5⟩
      go_wp2_with fail
      refine (lInts_is w2 s u1 H1'.out u2 H2'.out _ b5).mono ?_
      rintro e w6 ⟨rfl, b6⟩
      go_wp2
      go_ret
      exact ⟨rfl, HB.out.trans (b6.mono HB.out.size)⟩
    · have ht := tab_iff.1 HG.out
      have hr : r = rsum t := by rw [← HR.out, rsumI, if_pos HG.out]
      have hs : s = csum t := by rw [← HS.out, csumI, if_pos HG.out]
      obtain ⟨q, hq⟩ : ∃ q, q = t.length := ⟨_, rfl⟩
      obtain ⟨d, hd⟩ : ∃ d, d = wd t := ⟨_, rfl⟩
      have hrl : r.length = q := by rw [hr, rsum_len, hq]
      have hsl : s.length = d := by rw [hs, csum_len, hd]
      have hq4 : 1 ≤ q ∧ q ≤ 4 := by rw [hq]; exact ⟨ht.h1, ht.h4⟩
      have hd4 : 1 ≤ d ∧ d ≤ 4 := by rw [hd]; exact ⟨ht.w1, ht.w4⟩
      obtain ⟨x, hx⟩ : ∃ x, tsum t = x := ⟨_, rfl⟩
      have HX1 := Lib.hid (show r.sum = x by rw [hr, ← hx]; rfl)
      have HX2 := Lib.hid (show s.sum = x by rw [hs, tsum_csum ht.len, hx])
      have HX3 := Lib.hid (show ttot t = x by rw [ttot, if_pos HG.out, hx])
      have HB1 := Lib.hid (show ∀ y ∈ r, 0 ≤ y ∧ y ≤ 1000000 by rw [hr]; exact rsum_bdW ht)
      have HB2 := Lib.hid (show ∀ y ∈ s, 0 ≤ y ∧ y ≤ 1000000 by rw [hs]; exact csum_bdW ht)
      obtain ⟨A1, c1, hv1, _, _, _⟩ := H1.out
      obtain ⟨A2, c2, hv2, _, _, _⟩ := H1'.out
      obtain ⟨A0, c0, hv0, _, _, hr0⟩ := HVb.out
      rw [hrl] at hv1
      rw [hsl] at hv2
      rw [← hq] at hv0
      subst hv1 hv2 hv0
      obtain ⟨b, o, Ai, ci, hA, hlb, e0, _, _, _⟩ := hr0.at_ 0 (by rw [← hq]; omega)
      rw [← wd_zero, ← hd] at e0
      subst hA
      have e4 : w4.cell? ⟨b, o, none⟩ = some (.slice Ai d ci) := (b4.cell (p := ⟨b, o, none⟩) hlb).trans e0
      have HRL := Lib.hid (show r.length ≤ 1000 by omega)
      have HSL := Lib.hid (show s.length ≤ 1000 by omega)
      have hq0n : 0 < q := by omega
      have hq0 : (0 : Int) < (q : Int) := by omega
      clear hr0 e0 hlb hr hs hrl hsl hx hq hd ht
      go_wp2_with fail
      refine (lSum_is w2 r _ H1.out HB1.out HRL.out x HX1.out _ b4).mono ?_
      rintro e w5 ⟨rfl, b5⟩
      clear e4
      go_wp2_with fail
      refine (iTotal_is w2 t _ HVb.out x HX3.out _ b5).mono ?_
      rintro e w6 ⟨rfl, b6⟩
      go_wp2_with fail
      refine (lSum_is w2 s _ H1'.out HB2.out HSL.out x HX2.out _ b6).mono ?_
      rintro e w7 ⟨rfl, b7⟩
      go_wp2_with fail
      refine (lSum_is w2 r _ H1.out HB1.out HRL.out x HX1.out _ b7).mono ?_
      rintro e w8 ⟨rfl, b8⟩
      go_wp2
      go_ret
      exact ⟨rfl, HB.out.trans (b8.mono HB.out.size)⟩
end Go.Proofs.Ytcmnbodnjemjoaa
