/- A law of chapter 13: ToldTurn. -/
import Derived.Test.YtpdjehiohaigfaaWN0
import Derived.Deep.RegionHeld3
import Derived.Test.YtpdjehiohaigfaaWL0
namespace Go.Proofs.Ytpdjehiohaigfaa
open Go.RowKit
set_option maxRecDepth 100000 in
set_option maxHeartbeats 4000000 in
theorem w_ToldTurn (A : Option Addr) (n c : Nat) (hnc : n ≤ c) (hn : n ≤ maxLen) (w : World) (hb : Bytes w w.heap.size A n) :
    Calls Try.prog 10 #[.slice A n c] w fun e w' => e = .returned (.bool true) ∧ Below w.heap.size w w' := by
  have hn2 := hn
  unfold maxLen at hn2
  rcases (show 1048576 < n ∨ ¬ 1048576 < n by omega) with hbig | hbig
  · go_enter Try.func10, Try.ntmps10
    go_wp2
    go_ret
    exact ⟨rfl, Below.refl _ _⟩
  · go_enter Try.func10, Try.ntmps10
    go_wp2_with fail
    refine (dBoundMany_any A n c hnc hn _ hb).mono ?_
    rintro e W ⟨tv, uv, t, m, rfl, ht, hu, hl, hlr, hml, hmr, hbW⟩
    have HT := Lib.hid ht
    have HU := Lib.hid hu
    have HBW := Lib.hid hbW
    obtain ⟨g, hg⟩ : ∃ g, toldN t m = g := ⟨_, rfl⟩
    have HG := Lib.hid hg
    clear hb ht hu hbW hl hlr hml hmr hg hn
    go_wp2_with fail
    refine (iMany_is W t _ HT.out m _ HU.out g HG.out _ (Below.refl _ _)).mono ?_
    rintro e w1 ⟨rfl, b1⟩
    go_wp2_with fail
    refine (sMany_is W t _ HT.out m _ HU.out g HG.out _ b1).mono ?_
    rintro e w2 ⟨rfl, b2⟩
    by_cases hneg : g < 0
    · go_wp2
      go_ret
      exact ⟨rfl, HBW.out.trans (b2.mono HBW.out.size)⟩
    have hmk : mkOk t m = true := by
      cases e : mkOk t m
      · exfalso; have h9 := HG.out; rw [toldN, if_neg (by simp [e])] at h9; omega
      · rfl
    obtain ⟨htb, hml, hmr⟩ := mk_parts.1 hmk
    have HMK := Lib.hid hmk
    have HTB := Lib.hid htb
    have HML := Lib.hid (show m.length ≤ 1000 by have := htb.h4; omega)
    have HMR := Lib.hid (show ∀ r ∈ m, r.length ≤ 100000 from fun r hr => by have := hmr r hr; have := htb.w4; omega)
    have HMR2 := Lib.hid hmr
    have HTL := Lib.hid (show t.length ≤ 1000 by have := htb.h4; omega)
    have HTD := Lib.hid htb.len
    have HTD6 := Lib.hid (show wd t ≤ 1000 by have := htb.w4; omega)
    have HTK := Lib.hid (tab_iff.2 htb)
    have hgc : g = cnt2 t.length (wd t) (fun k l => toldB t m k l) := by rw [← HG.out, toldN, if_pos hmk]
    have hgm : g ≤ (mmany m : Nat) := by rw [← HG.out]; exact m_boundMany hmk
    clear b1
    have ht1 := htb.h1
    have ht4 := htb.h4
    have hw1 := htb.w1
    have hw4 := htb.w4
    have HT2 := Lib.hid (HT.out.below b2)
    have HU2 := Lib.hid (HU.out.below b2)
    obtain ⟨bt, ot, ct, tb, to, tc, htv, htall⟩ := HT2.out.all htb
    obtain ⟨bm, om, cm, mb, mo, mc, huv, hmall⟩ := HU2.out.all (d := wd t) (by omega) hw1 hmr
    rw [hml] at huv
    subst htv huv
    obtain ⟨q, hq⟩ : ∃ q, t.length = q := ⟨_, rfl⟩
    obtain ⟨d, hd⟩ : ∃ d, wd t = d := ⟨_, rfl⟩
    have HQ := Lib.hid hq
    have HD := Lib.hid hd
    rw [hml, hq, hd] at hmall
    rw [hq, hd] at htall
    have HTA := Lib.hid (show ∀ w', Below w2.heap.size w2 w' → w'.cell? ⟨bt, ot, none⟩ = some (.slice (some ⟨tb 0, to 0, none⟩) d (tc 0)) ∧ (∀ i, i < q → w'.cell? ⟨bt, ot + i, none⟩ = some (.slice (some ⟨tb i, to i, none⟩) d (tc i))) ∧ ∀ i j, i < q → j < d → w'.cell? ⟨tb i, to i + j, none⟩ = some (.int .i64 (cF t i j)) from
      fun w' h => ⟨(htall w' h).1 0 (by omega), htall w' h⟩)
    have HUA := Lib.hid hmall
    rw [hq] at HT2 HU2 ht1 ht4 ⊢
    rw [hd] at hw1 hw4
    rw [hq, hd] at hgc
    have hq0i : (0 : Int) < (q : Int) := by omega
    have hq0 : 0 < q := ht1
    have HB2 := Lib.hid b2
    have HBB := Lib.hid (show ∀ w', Below w2.heap.size w2 w' → Below w.heap.size w w' from fun w' h => HBW.out.trans ((below_step HB2.out h).mono HBW.out.size))
    clear htall hmall hmk hml hmr htb hq hd b2
    have hTT : toldN (turn t) (mturn m) = g := by rw [← HG.out]; exact toldN_turn HMK.out
    have HTT := Lib.hid hTT
    have HM1 := Lib.hid (show 1 ≤ m.length by have := mk_len HMK.out; have := HTB.out.h1; omega)
    have hml9 : m.length = q := by rw [mk_len HMK.out, HQ.out]
    have HMQ := Lib.hid hml9
    clear hgc hgm hTT hml9
    go_wp2_with fail
    refine (iTurn_is w2 t _ HT2.out (turn t) true (by rw [turnI, if_pos HTK.out]) HTK.out _ (Below.refl _ _)).mono ?_
    rintro e w3 ⟨v3, rfl, ho3, h3⟩
    have HX3 := Lib.hid ho3.is
    have H3 := Lib.hid h3
    clear ho3
    go_wp2_with fail
    refine (lCopyM_is w2 m _ HU2.out HML.out HMR.out _ h3).mono ?_
    rintro e w4 ⟨v4, rfl, ho4, h4⟩
    obtain ⟨B, hB⟩ : ∃ B, w3.heap.size = B := ⟨_, rfl⟩
    obtain ⟨T, hT⟩ : ∃ T, w4.heap.size = T := ⟨_, rfl⟩
    have hlen : ∀ i, i < m.length → (m.getD i []).length = wd t := fun i hi => HMR2.out _ (by rw [getD_of _ _ hi]; exact List.getElem_mem _)
    have hX : ∃ y, MineB w4 B T v4 y ∧ y.length = m.length ∧ (∀ i, i < m.length → (y.getD i []).length = wd t) ∧ (∀ i j, j < wd t → hF y i j = if i < 0 then (hF m i j && !toldB t m i j) else hF m i j) := ⟨m, by rw [← hB, ← hT]; exact ho4, rfl, hlen, fun i j _ => by simp⟩
    obtain ⟨A3, c3, hv3, _, _, _⟩ := ho4.is
    rw [HMQ.out] at hv3
    subst hv3
    have HX0 := Lib.hid hX
    have HB4 := Lib.hid (below_step h3 h4)
    have HBB3 := Lib.hid (show w2.heap.size ≤ B by rw [← hB]; exact h3.size)
    have HXW := Lib.hid (fun w' (h : Below w3.heap.size w3 w') => HX3.out.below h)
    have HW4 := Lib.hid h4
    have HBEQ := Lib.hid hB
    clear hX ho4 hlen hT h4 h3 hB
    go_wp2
    go_loopw [10] (fun i wr => ∃ k : Nat, k ≤ q ∧ i = .int .i64 k ∧ Below w3.heap.size w3 wr ∧ ∃ y, MineB wr B T (.slice A3 q c3) y ∧ y.length = m.length ∧ (∀ i, i < m.length → (y.getD i []).length = wd t) ∧ (∀ i j, j < wd t → hF y i j = if i < k then (hF m i j && !toldB t m i j) else hF m i j)) (fun i _ => q - (intOf i).toNat)
    case atStart => exact ⟨0, Nat.zero_le _, rfl, HW4.out, HX0.out⟩
    case round =>
      obtain ⟨k, hk, rfl, hb5, y, hx1, hx2, hx3, hx4⟩ := hrel
      have HB5 := Lib.hid hb5
      have HX1 := Lib.hid hx1
      have HX2 := Lib.hid hx2
      have HX3' := Lib.hid hx3
      have HX4 := Lib.hid hx4
      clear hb5 hx1 hx2 hx3 hx4
      by_cases hlt : k < q
      · have hki : (k : Int) < (q : Int) := by omega
        go_wp2
        go_loopw [11] (fun i wr' => ∃ p : Nat, p ≤ d ∧ i = .int .i64 p ∧ Below w3.heap.size w3 wr' ∧ ∃ y, MineB wr' B T (.slice A3 q c3) y ∧ y.length = m.length ∧ (∀ i, i < m.length → (y.getD i []).length = wd t) ∧ (∀ i j, j < wd t → hF y i j = if i < k ∨ (i = k ∧ j < p) then (hF m i j && !toldB t m i j) else hF m i j)) (fun i _ => d - (intOf i).toNat)
        case atStart => exact ⟨0, Nat.zero_le _, rfl, HB5.out, y, HX1.out, HX2.out, HX3'.out, fun i j hj => by rw [HX4.out i j hj]; simp⟩
        case round =>
          obtain ⟨p, hp, rfl, hb6, y, hy1, hy2, hy3, hy4⟩ := hrel
          have hb26 := below_step H3.out hb6
          have HB6 := Lib.hid hb6
          have r1 := (HTA.out _ hb26).2.1 k hlt
          have HY1 := Lib.hid hy1
          have HY2 := Lib.hid hy2
          have HY3' := Lib.hid hy3
          have HY4 := Lib.hid hy4
          clear hy1 hy2 hy3 hy4
          by_cases hpd : p < d
          · have hpi : (p : Int) < (d : Int) := by omega
            have hkt : k < m.length := by rw [HMQ.out]; exact hlt
            have hpt : p < wd t := by rw [HD.out]; exact hpd
            obtain ⟨f, hf⟩ : ∃ f, toldB t m k p = f := ⟨_, rfl⟩
            have HF := Lib.hid hf
            have HB26 := Lib.hid hb26
            clear hf hb6 hb26
            go_wp2_with fail
            refine (iTold_is wr t _ (HT2.out.below HB26.out) m _ (HU2.out.below HB26.out) k p f HF.out _ (Below.refl _ _)).mono ?_
            rintro e x1 ⟨rfl, z1⟩
            clear r1
            have HY1 := Lib.hid (HY1.out.below z1)
            have HB7 := Lib.hid (below_step HB6.out z1)
            clear z1
            cases f
            · have HFIN := Lib.hid (show ∃ y, MineB x1 B T (.slice A3 q c3) y ∧ y.length = m.length ∧ (∀ i, i < m.length → (y.getD i []).length = wd t) ∧ (∀ i j, j < wd t → hF y i j = if i < k ∨ (i = k ∧ j < p + 1) then (hF m i j && !toldB t m i j) else hF m i j) from
                ⟨y, HY1.out, HY2.out, HY3'.out, fun i j hj => by
                  rw [HY4.out i j hj]
                  by_cases e : i = k ∧ j = p
                  · obtain ⟨rfl, rfl⟩ := e
                    rw [if_neg (by omega), if_pos (.inr ⟨rfl, by omega⟩), HF.out]; simp
                  · by_cases e2 : i < k ∨ (i = k ∧ j < p)
                    · rw [if_pos e2, if_pos (by omega)]
                    · rw [if_neg e2, if_neg (by omega)]⟩)
              go_wp2
              go_roundw
              case rel => exact ⟨p + 1, by omega, by go_num, HB7.out, HFIN.out⟩
              case measure => simp [intOf]; omega
            · obtain ⟨g5, c5, gi, ci, hv5, f5, ⟨hgB, hgT⟩, ⟨hgi, hgiT⟩, hgg, f6, hfz, hset⟩ := HY1.out.cell (i := k) (j := p) (by rw [HY2.out]; exact hkt) (by rw [HY3'.out k hkt]; exact hpt)
              rw [HY3'.out k hkt, HD.out] at f5
              injection hv5 with hv1 hv2 hv3
              subst hv1
              have HFIN := Lib.hid (show ∀ Y3 : World, x1 = Y3 ∨ x1.drew = Y3 → Below w3.heap.size w3 (Y3.setCell ⟨gi, p, none⟩ (.bool false)) ∧ ∃ y, MineB (Y3.setCell ⟨gi, p, none⟩ (.bool false)) B T (.slice (some ⟨g5, 0, none⟩) q c3) y ∧ y.length = m.length ∧ (∀ i, i < m.length → (y.getD i []).length = wd t) ∧ (∀ i j, j < wd t → hF y i j = if i < k ∨ (i = k ∧ j < p + 1) then (hF m i j && !toldB t m i j) else hF m i j) from fun Y3 hY => by
                refine ⟨?_, y.set k ((y.getD k []).set p false), ?_, by rw [List.length_set, HY2.out], fun i hi => ?_, fun i j hj => ?_⟩
                · rcases hY with rfl | rfl
                  · exact HB7.out.setCell (p := ⟨gi, p, none⟩) (by rw [HBEQ.out]; exact hgi) _
                  · exact (Below.drew HB7.out).setCell (p := ⟨gi, p, none⟩) (by rw [HBEQ.out]; exact hgi) _
                · rcases hY with rfl | rfl
                  · exact hset false
                  · exact hset false
                · by_cases e : k = i
                  · subst e; rw [getD_of _ _ (by rw [List.length_set, HY2.out]; exact hi), List.getElem_set_self, List.length_set]; exact HY3'.out k hi
                  · rw [getD_of _ _ (by rw [List.length_set, HY2.out]; exact hi), List.getElem_set_ne e, ← getD_of y [] (by rw [HY2.out]; exact hi)]; exact HY3'.out i hi
                · rw [hF_setB y false (by rw [HY2.out]; exact hkt) (by rw [HY3'.out k hkt]; exact hpt)]
                  by_cases e : i = k ∧ j = p
                  · obtain ⟨rfl, rfl⟩ := e
                    rw [if_pos ⟨rfl, rfl⟩, if_pos (.inr ⟨rfl, by omega⟩), HF.out]; simp
                  · rw [if_neg e, HY4.out i j hj]
                    by_cases e2 : i < k ∨ (i = k ∧ j < p)
                    · rw [if_pos e2, if_pos (by omega)]
                    · rw [if_neg e2, if_neg (by omega)])
              clear hset hv2 hv3
              go_wp2
              go_roundw
              case rel => exact ⟨p + 1, by omega, by go_num, by first | exact HFIN.out _ (.inl rfl) | exact HFIN.out _ (.inr rfl)⟩
              case measure => simp [intOf]; omega
          · obtain rfl : d = p := by omega
            have HE := Lib.hid (show ∃ x, MineB wr B T (.slice A3 q c3) x ∧ x.length = m.length ∧ (∀ i, i < m.length → (x.getD i []).length = wd t) ∧ (∀ i j, j < wd t → hF x i j = if i < k + 1 then (hF m i j && !toldB t m i j) else hF m i j) from
              ⟨y, HY1.out, HY2.out, HY3'.out, fun i j hj => by
                rw [HY4.out i j hj]
                rw [HD.out] at hj
                by_cases e : i < k ∨ (i = k ∧ j < d)
                · rw [if_pos e, if_pos (by omega)]
                · rw [if_neg e, if_neg (by omega)]⟩)
            clear hb6 hb26
            go_wp2
            go_roundw
            case rel => exact ⟨k + 1, by omega, by go_num, HB6.out, HE.out⟩
            case measure => simp [intOf]; omega
      · obtain rfl : q = k := by omega
        have hb25 := below_step H3.out HB5.out
        have HT5 := Lib.hid (HT2.out.below hb25)
        have HU5 := Lib.hid (HU2.out.below hb25)
        have HX5 := Lib.hid HX1.out.is
        have HTU := Lib.hid (HXW.out _ HB5.out)
        have HB25 := Lib.hid hb25
        have hyk : mkOk t y = true := mk_parts.2 ⟨HTB.out, by rw [HX2.out, HMQ.out, HQ.out], fun r hr => by
          obtain ⟨i, hi, rfl⟩ := List.getElem_of_mem hr
          rw [← getD_of y [] hi]; exact HX3'.out i (by rw [← HX2.out]; exact hi)⟩
        have HY0 := Lib.hid (show toldN t y = 0 from toldN_none hyk fun i j hi hj => m_toldNone HMK.out hyk (fun k l hk hl => by rw [HX4.out k l hl, if_pos (by rw [← HQ.out]; exact hk)]) hi hj)
        clear hyk hb25
        go_wp2_with fail
        refine (lTurnM_is wr m _ HU5.out (wd t) HM1.out HML.out HMR2.out HTD6.out (mturn m) rfl _ (Below.refl _ _)).mono ?_
        rintro e x1 ⟨v6, rfl, ho6, h6⟩
        have HV6 := Lib.hid ho6.is
        clear ho6
        go_wp2_with fail
        refine (iMany_is x1 (turn t) _ (HTU.out.below h6) (mturn m) _ HV6.out g HTT.out _ (Below.refl _ _)).mono ?_
        rintro e x2 ⟨rfl, h7⟩
        have z2 := below_step h6 h7
        go_wp2_with fail
        refine (iMany_is wr t _ HT5.out y _ HX5.out 0 HY0.out _ z2).mono ?_
        rintro e x3 ⟨rfl, z3⟩
        go_wp2
        go_ret
        exact ⟨by first | rfl | exact retb (by simp) | exact retb (by simp; omega), HBB.out _ (below_step HB25.out z3)⟩
end Go.Proofs.Ytpdjehiohaigfaa
