/- A law of chapter 13: HighTwice. -/
import Derived.Test.YtpdjehiohaigfaaWN0
import Derived.Deep.RegionHeld3
import Derived.Test.YtpdjehiohaigfaaWL0
namespace Go.Proofs.Ytpdjehiohaigfaa
open Go.RowKit
set_option maxRecDepth 100000 in
set_option maxHeartbeats 4000000 in
theorem w_HighTwice (A : Option Addr) (n c : Nat) (hnc : n ≤ c) (hn : n ≤ maxLen) (w : World) (hb : Bytes w w.heap.size A n) :
    Calls Try.prog 5 #[.slice A n c] w fun e w' => e = .returned (.bool true) ∧ Below w.heap.size w w' := by
  have hn2 := hn
  unfold maxLen at hn2
  rcases (show 1048576 < n ∨ ¬ 1048576 < n by omega) with hbig | hbig
  · go_enter Try.func5, Try.ntmps5
    go_wp2
    go_ret
    exact ⟨rfl, Below.refl _ _⟩
  · go_enter Try.func5, Try.ntmps5
    go_wp2_with fail
    refine (dBoundHigh_any A n c hnc hn _ hb).mono ?_
    rintro e W ⟨tv, uv, t, m, i, j, rfl, ht, hu, hl, hlr, hml, hmr, hbW⟩
    have HT := Lib.hid ht
    have HU := Lib.hid hu
    have HBW := Lib.hid hbW
    obtain ⟨g, hg⟩ : ∃ g, hiI t m i j = g := ⟨_, rfl⟩
    have HG := Lib.hid hg
    clear hb ht hu hbW hl hlr hml hmr hg hn
    go_wp2_with fail
    refine (iHigh_is W t _ HT.out m _ HU.out i j g HG.out _ (Below.refl _ _)).mono ?_
    rintro e w1 ⟨rfl, b1⟩
    go_wp2_with fail
    refine (sHigh_is W t _ HT.out m _ HU.out i j g HG.out _ b1).mono ?_
    rintro e w2 ⟨rfl, b2⟩
    by_cases hneg : g < 0
    · go_wp2
      go_ret
      exact ⟨rfl, HBW.out.trans (b2.mono HBW.out.size)⟩
    have hok : bOk t m i j = true := by
      cases e : bOk t m i j
      · exfalso; have h9 := HG.out; rw [hiI, if_neg (by simp [e])] at h9; omega
      · rfl
    obtain ⟨hmk, hi0, hiq, hj0, hjd⟩ := bOk_iff.1 hok
    obtain ⟨a, rfl⟩ := Int.eq_ofNat_of_zero_le hi0
    obtain ⟨b, rfl⟩ := Int.eq_ofNat_of_zero_le hj0
    obtain ⟨htb, hml, hmr⟩ := mk_parts.1 hmk
    have haq : a < t.length := by omega
    have hbd : b < wd t := by omega
    have HMK := Lib.hid hmk
    have HTB := Lib.hid htb
    have HAQ := Lib.hid haq
    have HBD := Lib.hid hbd
    have HML := Lib.hid (show m.length ≤ 1000 by have := htb.h4; omega)
    have HMR := Lib.hid (show ∀ r ∈ m, r.length ≤ 100000 from fun r hr => by have := hmr r hr; have := htb.w4; omega)
    have HTL := Lib.hid (show t.length ≤ 1000 by have := htb.h4; omega)
    have HTD := Lib.hid htb.len
    have HTD6 := Lib.hid (show wd t ≤ 1000 by have := htb.w4; omega)
    have HTR := Lib.hid (show ∀ r ∈ t, r.length ≤ 100000 from fun r hr => by have := htb.len r hr; have := htb.w4; omega)
    clear hok hi0 hj0 b1
    have ht1 := htb.h1
    have ht4 := htb.h4
    have hw1 := htb.w1
    have hw4 := htb.w4
    have HT2 := Lib.hid (HT.out.below b2)
    have HU2 := Lib.hid (HU.out.below b2)
    obtain ⟨bt, ot, ct, tb, to, tc, htv, htall⟩ := HT2.out.all htb
    obtain ⟨bm, om, cm, mb, mo, mc, huv, hmall⟩ := HU2.out.all (d := wd t) (by omega) hw1 hmr
    rw [hml] at huv
    subst htv huv
    obtain ⟨q, hq⟩ : ∃ q, t.length = q := ⟨_, rfl⟩
    obtain ⟨d, hd⟩ : ∃ d, wd t = d := ⟨_, rfl⟩
    have HQ := Lib.hid hq
    have HD := Lib.hid hd
    rw [hml, hq, hd] at hmall
    rw [hq, hd] at htall
    have HTA := Lib.hid (show ∀ w', Below w2.heap.size w2 w' → w'.cell? ⟨bt, ot, none⟩ = some (.slice (some ⟨tb 0, to 0, none⟩) d (tc 0)) ∧ (∀ i, i < q → w'.cell? ⟨bt, ot + i, none⟩ = some (.slice (some ⟨tb i, to i, none⟩) d (tc i))) ∧ ∀ i j, i < q → j < d → w'.cell? ⟨tb i, to i + j, none⟩ = some (.int .i64 (cF t i j)) from
      fun w' h => ⟨(htall w' h).1 0 (by omega), htall w' h⟩)
    have HUA := Lib.hid hmall
    rw [hq] at HT2 HU2 hiq ht1 ht4 haq ⊢
    rw [hd] at hw1 hw4 hbd hjd
    have hq0i : (0 : Int) < (q : Int) := by omega
    have hq0 : 0 < q := ht1
    have HB2 := Lib.hid b2
    have HBB := Lib.hid (show ∀ w', Below w2.heap.size w2 w' → Below w.heap.size w w' from fun w' h => HBW.out.trans ((below_step HB2.out h).mono HBW.out.size))
    clear htall hmall hmk hml hmr htb hq hd b2
    obtain ⟨g2, hg2⟩ : ∃ g, loI t m a b = g := ⟨_, rfl⟩
    have HG2 := Lib.hid hg2
    clear hg2
    go_wp2_with fail
    refine (lCopyR_is w2 t _ HT2.out HTL.out HTR.out _ (Below.refl _ _)).mono ?_
    rintro e w3 ⟨v3, rfl, ho3, h3⟩
    obtain ⟨B, hB⟩ : ∃ B, w2.heap.size = B := ⟨_, rfl⟩
    obtain ⟨T, hT⟩ : ∃ T, w3.heap.size = T := ⟨_, rfl⟩
    have hlen : ∀ i, i < t.length → (t.getD i []).length = wd t := fun i hi => HTB.out.rlenD hi
    have hX : ∃ x, Mine w3 B T v3 x ∧ x.length = t.length ∧ (∀ i, i < t.length → (x.getD i []).length = wd t) ∧ (∀ i j, j < wd t → cF x i j = if i < 0 then 2 * cF t i j else cF t i j) := ⟨t, by rw [← hB, ← hT]; exact ho3, rfl, hlen, fun i j _ => by simp⟩
    obtain ⟨A3, c3, hv3, _, _, _⟩ := ho3.is
    rw [HQ.out] at hv3
    subst hv3
    have HX0 := Lib.hid hX
    have HB3 := Lib.hid h3
    have HBB3 := Lib.hid hB
    clear hX ho3 hlen hT h3
    go_wp2
    go_loopw [10] (fun i wr => ∃ k : Nat, k ≤ q ∧ i = .int .i64 k ∧ Below w2.heap.size w2 wr ∧ ∃ x, Mine wr B T (.slice A3 q c3) x ∧ x.length = t.length ∧ (∀ i, i < t.length → (x.getD i []).length = wd t) ∧ (∀ i j, j < wd t → cF x i j = if i < k then 2 * cF t i j else cF t i j)) (fun i _ => q - (intOf i).toNat)
    case atStart => exact ⟨0, Nat.zero_le _, rfl, HB3.out, HX0.out⟩
    case round =>
      obtain ⟨k, hk, rfl, hb5, x, hx1, hx2, hx3, hx4⟩ := hrel
      have HB5 := Lib.hid hb5
      have HX1 := Lib.hid hx1
      have HX2 := Lib.hid hx2
      have HX3 := Lib.hid hx3
      have HX4 := Lib.hid hx4
      clear hb5 hx1 hx2 hx3 hx4
      by_cases hlt : k < q
      · have hki : (k : Int) < (q : Int) := by omega
        go_wp2
        go_loopw [11] (fun i wr' => ∃ p : Nat, p ≤ d ∧ i = .int .i64 p ∧ Below w2.heap.size w2 wr' ∧ ∃ x, Mine wr' B T (.slice A3 q c3) x ∧ x.length = t.length ∧ (∀ i, i < t.length → (x.getD i []).length = wd t) ∧ (∀ i j, j < wd t → cF x i j = if i < k ∨ (i = k ∧ j < p) then 2 * cF t i j else cF t i j)) (fun i _ => d - (intOf i).toNat)
        case atStart => exact ⟨0, Nat.zero_le _, rfl, HB5.out, x, HX1.out, HX2.out, HX3.out, fun i j hj => by rw [HX4.out i j hj]; simp⟩
        case round =>
          obtain ⟨p, hp, rfl, hb6, y, hy1, hy2, hy3, hy4⟩ := hrel
          have HB6 := Lib.hid hb6
          have r1 := (HTA.out _ hb6).2.1 k hlt
          by_cases hpd : p < d
          · have hpi : (p : Int) < (d : Int) := by omega
            have c1 := (HTA.out _ hb6).2.2 k p hlt hpd
            have hkt : k < t.length := by rw [HQ.out]; exact hlt
            have hpt : p < wd t := by rw [HD.out]; exact hpd
            obtain ⟨g5, c5, gi, ci, hv5, f5, ⟨hgB, hgT⟩, ⟨hgi, hgiT⟩, hgg, f6, hfz, hset⟩ := Mine.cell hy1 (i := k) (j := p) (by rw [hy2]; exact hkt) (by rw [hy3 k hkt]; exact hpt)
            rw [hy3 k hkt, HD.out] at f5
            injection hv5 with hv1 hv2 hv3
            subst hv1
            have hcb := HTB.out.cell hkt hpt
            obtain ⟨z, hz⟩ : ∃ z, cF t k p = z := ⟨_, rfl⟩
            rw [hz] at c1 hcb
            have hwz : IntKind.i64.wrap (2 * z) = 2 * z := by rw [IntKind.wrap_i64] <;> omega
            obtain ⟨Y3, hY3⟩ : ∃ Y, wr.drew = Y := ⟨_, rfl⟩
            have hset2 : Mine (Y3.setCell ⟨gi, p, none⟩ (.int .i64 (2 * z))) B T (.slice (some ⟨g5, 0, none⟩) q c3) (y.set k ((y.getD k []).set p (2 * z))) := by rw [← hY3]; exact hset (2 * z)
            have hs4 : Below w2.heap.size w2 (Y3.setCell ⟨gi, p, none⟩ (.int .i64 (2 * z))) := by rw [← hY3]; exact (Below.drew hb6).setCell (p := ⟨gi, p, none⟩) (by rw [HBB3.out]; exact hgi) _
            have f5Y : Y3.cell? ⟨g5, k, none⟩ = some (.slice (some ⟨gi, 0, none⟩) d ci) := by rw [← hY3]; exact f5
            have fzY : Y3.frozen? ⟨gi, p, none⟩ = false := by rw [← hY3]; exact hfz
            have f6Y : Y3.cell? ⟨gi, p, none⟩ = some (.int .i64 ((y.getD k []).getD p 0)) := by rw [← hY3]; exact f6
            have HFIN := Lib.hid (show Below w2.heap.size w2 (Y3.setCell ⟨gi, p, none⟩ (.int .i64 (2 * z))) ∧ ∃ x, Mine (Y3.setCell ⟨gi, p, none⟩ (.int .i64 (2 * z))) B T (.slice (some ⟨g5, 0, none⟩) q c3) x ∧ x.length = t.length ∧ (∀ i, i < t.length → (x.getD i []).length = wd t) ∧ (∀ i j, j < wd t → cF x i j = if i < k ∨ (i = k ∧ j < p + 1) then 2 * cF t i j else cF t i j) from
              ⟨hs4, _, hset2, by rw [List.length_set, hy2], fun i hi => by
                by_cases e : k = i
                · subst e; rw [getD_of _ _ (by rw [List.length_set, hy2]; exact hi), List.getElem_set_self, List.length_set]; exact hy3 k hi
                · rw [getD_of _ _ (by rw [List.length_set, hy2]; exact hi), List.getElem_set_ne e, ← getD_of y [] (by rw [hy2]; exact hi)]; exact hy3 i hi, fun i j hj => by
                rw [cF_set (by rw [hy2]; exact hkt) (by rw [hy3 k hkt]; exact hpt)]
                unfold up1
                by_cases e : i = k ∧ j = p
                · obtain ⟨rfl, rfl⟩ := e
                  rw [if_pos ⟨rfl, rfl⟩, if_pos (.inr ⟨rfl, by omega⟩), hz]; omega
                · rw [if_neg e, hy4 i j hj]
                  by_cases e2 : i < k ∨ (i = k ∧ j < p)
                  · rw [if_pos e2, if_pos (by omega)]
                  · rw [if_neg e2, if_neg (by omega)]⟩)
            have HF5 := Lib.hid f5Y
            have HF6 := Lib.hid f6Y
            have HFZ := Lib.hid fzY
            have HY3 := Lib.hid hY3
            clear hset hset2 hs4 f5Y fzY f6Y hY3 hy1 hy2 hy3 hy4 hz hcb hv2 hv3 hb6 hfz f6
            go_wp2
            go_still_tail 14, (by kernel_rfl)
            change wpList _ _ _ _ _ wr.drew
            rw [HY3.out]
            clear f5 r1 c1
            have f5 := HF5.out
            have f6 := HF6.out
            have f7 := HFZ.out
            go_wp2
            go_roundw
            case rel => exact ⟨p + 1, by omega, by go_num, HFIN.out⟩
            case measure => simp [intOf]; omega
          · obtain rfl : d = p := by omega
            have HE := Lib.hid (show ∃ x, Mine wr B T (.slice A3 q c3) x ∧ x.length = t.length ∧ (∀ i, i < t.length → (x.getD i []).length = wd t) ∧ (∀ i j, j < wd t → cF x i j = if i < k + 1 then 2 * cF t i j else cF t i j) from
              ⟨y, hy1, hy2, hy3, fun i j hj => by
                rw [hy4 i j hj]
                rw [HD.out] at hj
                by_cases e : i < k ∨ (i = k ∧ j < d)
                · rw [if_pos e, if_pos (by omega)]
                · rw [if_neg e, if_neg (by omega)]⟩)
            clear hy1 hy2 hy3 hy4 hb6
            go_wp2
            go_roundw
            case rel => exact ⟨k + 1, by omega, by go_num, HB6.out, HE.out⟩
            case measure => simp [intOf]; omega
      · obtain rfl : q = k := by omega
        obtain ⟨gx, hgx⟩ : ∃ gx, tabOk x = gx := ⟨_, rfl⟩
        have HGX := Lib.hid hgx
        have HT5 := Lib.hid (HT2.out.below HB5.out)
        have HU5 := Lib.hid (HU2.out.below HB5.out)
        have HX5 := Lib.hid HX1.out.is
        clear hgx
        go_wp2_with fail
        refine (iTab_is wr x _ HX5.out gx HGX.out _ (Below.refl _ _)).mono ?_
        rintro e x1 ⟨rfl, z1⟩
        cases gx
        · go_wp2
          go_ret
          exact ⟨by first | rfl | exact retb (by simp), HBB.out _ (below_step HB5.out z1)⟩
        have hm := m_twice HMK.out HX2.out (by rw [wd_zero, HX3.out 0 HTB.out.h1]) HGX.out (fun k l hk hl => by rw [HX4.out k l hl, if_pos (by rw [← HQ.out]; exact hk)]) HAQ.out HBD.out
        rw [HG.out, HG2.out] at hm
        have HG3 := Lib.hid hm.1
        have HG4 := Lib.hid hm.2
        have hbd3 := hiI_bd HMK.out HAQ.out HBD.out
        have hbd4 := loI_bd HMK.out HAQ.out HBD.out
        rw [HG.out] at hbd3
        rw [HG2.out] at hbd4
        have hw3 : IntKind.i64.wrap (2 * g) = 2 * g := by rw [IntKind.wrap_i64] <;> omega
        have hw4 : IntKind.i64.wrap (2 * g2) = 2 * g2 := by rw [IntKind.wrap_i64] <;> omega
        clear hm
        go_wp2_with fail
        refine (iHigh_is wr x _ HX5.out m _ HU5.out a b _ HG3.out _ z1).mono ?_
        rintro e x2 ⟨rfl, z2⟩
        go_wp2_with fail
        refine (iLow_is wr x _ HX5.out m _ HU5.out a b _ HG4.out _ z2).mono ?_
        rintro e x3 ⟨rfl, z3⟩
        go_wp2_with fail
        refine (iLow_is wr t _ HT5.out m _ HU5.out a b _ HG2.out _ z3).mono ?_
        rintro e x4 ⟨rfl, z4⟩
        go_wp2
        go_ret
        exact ⟨by first | rfl | exact retb (by simp) | exact retb (by simp; omega), HBB.out _ (below_step HB5.out z4)⟩
end Go.Proofs.Ytpdjehiohaigfaa
