/- A law of chapter 13: LowAll. -/
import Derived.Test.YtpajbgkgleeifaaWN0
import Derived.Deep.RegionHeld3
namespace Go.Proofs.Ytpajbgkgleeifaa
open Go.RowKit
set_option maxRecDepth 100000 in
set_option maxHeartbeats 4000000 in
theorem w_LowAll (A : Option Addr) (n c : Nat) (hnc : n ≤ c) (hn : n ≤ maxLen) (w : World) (hb : Bytes w w.heap.size A n) :
    Calls Try.prog 7 #[.slice A n c] w fun e w' => e = .returned (.bool true) ∧ Below w.heap.size w w' := by
  have hn2 := hn
  unfold maxLen at hn2
  rcases (show 1048576 < n ∨ ¬ 1048576 < n by omega) with hbig | hbig
  · go_enter Try.func7, Try.ntmps7
    go_wp2
    go_ret
    exact ⟨rfl, Below.refl _ _⟩
  · go_enter Try.func7, Try.ntmps7
    go_wp2_with fail
    refine (dBoundLow_any A n c hnc hn _ hb).mono ?_
    rintro e W ⟨tv, uv, t, m, i, j, rfl, ht, hu, hl, hlr, hml, hmr, hbW⟩
    have HT := Lib.hid ht
    have HU := Lib.hid hu
    have HBW := Lib.hid hbW
    obtain ⟨g, hg⟩ : ∃ g, loI t m i j = g := ⟨_, rfl⟩
    have HG := Lib.hid hg
    clear hb ht hu hbW hl hlr hml hmr hg hn
    go_wp2_with fail
    refine (iLow_is W t _ HT.out m _ HU.out i j g HG.out _ (Below.refl _ _)).mono ?_
    rintro e w1 ⟨rfl, b1⟩
    go_wp2_with fail
    refine (sLow_is W t _ HT.out m _ HU.out i j g HG.out _ b1).mono ?_
    rintro e w2 ⟨rfl, b2⟩
    by_cases hneg : g < 0
    · go_wp2
      go_ret
      exact ⟨rfl, HBW.out.trans (b2.mono HBW.out.size)⟩
    have hok : bOk t m i j = true := by
      cases e : bOk t m i j
      · exfalso; have h9 := HG.out; rw [loI, if_neg (by simp [e])] at h9; omega
      · rfl
    obtain ⟨hmk, hi0, hiq, hj0, hjd⟩ := bOk_iff.1 hok
    obtain ⟨a, rfl⟩ := Int.eq_ofNat_of_zero_le hi0
    obtain ⟨b, rfl⟩ := Int.eq_ofNat_of_zero_le hj0
    obtain ⟨htb, hml, hmr⟩ := mk_parts.1 hmk
    have haq : a < t.length := by omega
    have hbd : b < wd t := by omega
    have HMK := Lib.hid hmk
    have HTB := Lib.hid htb
    have HAQ := Lib.hid haq
    have HBD := Lib.hid hbd
    have HML := Lib.hid (show m.length ≤ 1000 by have := htb.h4; omega)
    have HMR := Lib.hid (show ∀ r ∈ m, r.length ≤ 100000 from fun r hr => by have := hmr r hr; have := htb.w4; omega)
    have HTL := Lib.hid (show t.length ≤ 1000 by have := htb.h4; omega)
    have HTD := Lib.hid htb.len
    have HTD6 := Lib.hid (show wd t ≤ 1000 by have := htb.w4; omega)
    have HTR := Lib.hid (show ∀ r ∈ t, r.length ≤ 100000 from fun r hr => by have := htb.len r hr; have := htb.w4; omega)
    clear hok hi0 hj0 b1
    have HTK := Lib.hid (tab_iff.2 HTB.out)
    obtain ⟨r, hr⟩ : ∃ r, rsumI t = r := ⟨_, rfl⟩
    obtain ⟨s, hs⟩ : ∃ s, csumI t = s := ⟨_, rfl⟩
    have HR := Lib.hid hr
    have HS := Lib.hid hs
    have hr' : r = rsum t := by rw [← hr, rsumI, if_pos HTK.out]
    have hs' : s = csum t := by rw [← hs, csumI, if_pos HTK.out]
    have HR2 := Lib.hid hr'
    have HS2 := Lib.hid hs'
    clear hr hs hr' hs'
    go_wp2_with fail
    refine (iSums_is W t _ HT.out r s true HR.out HS.out HTK.out _ b2).mono ?_
    rintro e w3 ⟨v1, u1, rfl, ho1, ho1', _, h3⟩
    have b3 := b2.trans (h3.mono b2.size)
    have hrl : r.length = t.length := by rw [HR2.out, rsum_len]
    have hsl : s.length = wd t := by rw [HS2.out, csum_len]
    obtain ⟨A1, c1, hv1, _, _, row1⟩ := ho1.is
    obtain ⟨A2, c2, hv2, _, _, row2⟩ := ho1'.is
    obtain ⟨p1, o1, hA1, hl1, f1⟩ := row1.int_ a (by rw [hrl]; exact haq)
    obtain ⟨p2, o2, hA2, hl2, f2⟩ := row2.int_ b (by rw [hsl]; exact hbd)
    rw [hrl] at hv1
    rw [hsl] at hv2
    subst hA1 hA2 hv1 hv2
    obtain ⟨y1, hy1⟩ : ∃ y, r.getD a 0 = y := ⟨_, rfl⟩
    obtain ⟨y2, hy2⟩ : ∃ y, s.getD b 0 = y := ⟨_, rfl⟩
    have HB1 := (show ∀ y ∈ r, 0 ≤ y ∧ y ≤ 1000000 by rw [HR2.out]; exact rsum_bd13 htb)
    have HB2 := (show ∀ y ∈ s, 0 ≤ y ∧ y ≤ 1000000 by rw [HS2.out]; exact csum_bd13 htb)
    have hy1b : 0 ≤ y1 ∧ y1 ≤ 1000000 := by rw [← hy1, getD_of _ _ (by rw [hrl]; exact haq)]; exact HB1 _ (List.getElem_mem _)
    have hy2b : 0 ≤ y2 ∧ y2 ≤ 1000000 := by rw [← hy2, getD_of _ _ (by rw [hsl]; exact hbd)]; exact HB2 _ (List.getElem_mem _)
    rw [hy1] at f1
    rw [hy2] at f2
    obtain ⟨x9, hx9⟩ : ∃ x, tsum t = x := ⟨_, rfl⟩
    have HX9 := Lib.hid hx9
    have HX8 := Lib.hid (show ttot t = x9 by rw [ttot, if_pos HTK.out, hx9])
    have hx9b : 0 ≤ x9 ∧ x9 ≤ 4000000 := by rw [← hx9]; exact tsum_bd13 htb
    obtain ⟨z, hz⟩ : ∃ z, (if 0 < y1 + y2 - x9 then y1 + y2 - x9 else 0) = z := ⟨_, rfl⟩
    have hz1 : x9 < y1 + y2 → z = y1 + y2 - x9 := fun h => by rw [← hz, if_pos (by omega)]
    have hz2 : y1 + y2 ≤ x9 → z = 0 := fun h => by rw [← hz, if_neg (by omega)]
    have hw8 : IntKind.i64.wrap (y1 + y2) = y1 + y2 := by rw [IntKind.wrap_i64] <;> omega
    have hw9 : IntKind.i64.wrap (y1 + y2 - x9) = y1 + y2 - x9 := by rw [IntKind.wrap_i64] <;> omega
    clear hx9
    have HM := Lib.hid (show loI t (allM t true) a b = z by rw [m_lowAll htb haq hbd, ← HR2.out, ← HS2.out, hy1, hy2, HX9.out, ← hz]; split <;> omega)
    have HFF := Lib.hid (show ∀ w', Below w3.heap.size w3 w' → (Below w3.heap.size w3 w' ∧ w'.cell? ⟨p1, o1 + a, none⟩ = some (.int .i64 y1) ∧ w'.cell? ⟨p2, o2 + b, none⟩ = some (.int .i64 y2)) from
      fun w' h => ⟨h, (h.cell (p := ⟨p1, o1 + a, none⟩) hl1).trans f1, (h.cell (p := ⟨p2, o2 + b, none⟩) hl2).trans f2⟩)
    have HT3 := Lib.hid (HT.out.below b3)
    have bd : Below w3.heap.size w3 w3.drew := (Below.refl _ _).drew
    clear f1 f2 row1 row2 HB1 HB2 hy1 hy2 hrl hsl htb ho1 ho1' hmk hml hmr
    go_wp2_with fail
    go_region_held3 (fun w' => Below w3.heap.size w3 w' ∧ w'.cell? ⟨p1, o1 + a, none⟩ = some (.int .i64 y1) ∧ w'.cell? ⟨p2, o2 + b, none⟩ = some (.int .i64 y2))
      (first | exact HFF.out _ (by assumption) | exact HFF.out _ bd)
      (first
        | (go_at_call 23
           refine (lAll_is w3 t _ HT3.out (wd t) HTL.out HTD.out HTD6.out true (allM t true) rfl _ bd).mono ?_
           rintro e w4 ⟨u4, rfl, ho4, h4⟩
           have b4 : Below w3.heap.size w3 w4 := bd.trans (h4.mono bd.size)
           have HU4 := Lib.hid ho4.is
           have HT4 := Lib.hid (HT3.out.below b4)
           clear ho4 h4)
        | (go_at_call 19
           refine (iLow_is w4 t _ HT4.out (allM t true) _ HU4.out a b _ HM.out _ (Below.refl _ _)).mono ?_
           rintro e w5 ⟨rfl, h5⟩
           have b5 : Below w3.heap.size w3 w5 := b4.trans (h5.mono b4.size)
           have HT5 := Lib.hid (HT4.out.below h5)
           clear h5)
        | (go_at_call 26
           refine (iTotal_is w5 t _ HT5.out x9 HX8.out _ (Below.refl _ _)).mono ?_
           rintro e w6 ⟨rfl, h6⟩
           have b6 : Below w3.heap.size w3 w6 := b5.trans (h6.mono b5.size)))
    all_goals
      go_wp2
      all_goals
        go_ret
        exact ⟨by first | rfl | exact retb (by simp) | exact retb (by simp; omega) | exact retb (by simp only [beq_iff_eq]; first | exact hz1 (by assumption) | exact hz2 (by assumption) | omega), HBW.out.trans ((b3.trans (Below.mono (by first | exact b6 | exact b5) b3.size)).mono HBW.out.size)⟩
end Go.Proofs.Ytpajbgkgleeifaa
