/- Walks of chapter 14: what a pattern costs. -/
import Derived.Test.YtdjjkfhdgnlkeaaDoorVIB
import Derived.Test.YtdjjkfhdgnlkeaaDoorVSA
import Derived.Test.YtdjjkfhdgnlkeaaDoorVD
import Derived.Test.YtdjjkfhdgnlkeaaDoorWN0
import Derived.Test.YtdjjkfhdgnlkeaaDoorRQ
import Derived.Deep.RegionHeld3
namespace Go.Proofs.YtdjjkfhdgnlkeaaDoor
open Go.RowKit
theorem name_world {P : World → Prop} {w : World} (h : P w) : ∃ y, y = w ∧ P y := ⟨w, rfl, h⟩
set_option maxRecDepth 100000 in
set_option maxHeartbeats 4000000 in
theorem w_PatternCost (A : Option Addr) (n c : Nat) (hnc : n ≤ c) (hn : n ≤ maxLen) (w : World) (hb : Bytes w w.heap.size A n) (hT : TabW w) :
    Calls Tryd.prog 7 #[.slice A n c] w fun e w' => e = .returned (.bool true) ∧ Below w.heap.size w w' := by
  have hn2 := hn
  unfold maxLen at hn2
  rcases (show 1048576 < n ∨ ¬ 1048576 < n by omega) with hbig | hbig
  · go_enter Tryd.func7, Tryd.ntmps7
    go_wp2
    go_ret
    exact ⟨rfl, Below.refl _ _⟩
  · go_enter Tryd.func7, Tryd.ntmps7
    go_wp2_with fail
    refine (dPCost_any A n c hnc hn _ hb).mono ?_
    rintro e W ⟨tv, uv, t, m, rfl, ht, hu, hl, hlr, hml, hmr, hbW⟩
    have HT := Lib.hid ht
    have HU := Lib.hid hu
    have HBW := Lib.hid hbW
    have HTW := Lib.hid (hT.below hbW)
    obtain ⟨g, hg⟩ : ∃ g, costN t m = g := ⟨_, rfl⟩
    have HG := Lib.hid hg
    clear hb ht hu hbW hl hlr hml hmr hg hn hT
    go_wp2_with fail
    refine (iCost_is W t _ HT.out m _ HU.out g HG.out _ (Below.refl _ _) HTW.out).mono ?_
    rintro e w1 ⟨rfl, b1⟩
    go_wp2_with fail
    refine (sCost_is W t _ HT.out m _ HU.out g HG.out _ b1).mono ?_
    rintro e w2 ⟨rfl, b2⟩
    by_cases hneg : g < 0
    · go_wp2
      go_ret
      exact ⟨rfl, HBW.out.trans (b2.mono HBW.out.size)⟩
    have hmk : mkOk t m = true := by
      cases e : mkOk t m
      · exfalso; have h9 := HG.out; rw [costN_no e] at h9; omega
      · rfl
    have HMK := Lib.hid hmk
    have htb := mk_tab hmk
    have HTB := Lib.hid htb
    have HTK := Lib.hid (tab_iff.2 htb)
    have HTL := Lib.hid (show t.length ≤ 1000 by have := htb.h4; omega)
    have HTD := Lib.hid htb.len
    have HTD6 := Lib.hid (show wd t ≤ 1000 by have := htb.w4; omega)
    have hts := tsum_bd13 htb
    have hgb := costN_bd hmk
    rw [HG.out] at hgb
    obtain ⟨S, hS⟩ : ∃ S, tsum t = S := ⟨_, rfl⟩
    rw [hS] at hts hgb
    have HS := Lib.hid hS
    clear b1 hS
    have HT2 := Lib.hid (HT.out.below b2)
    have HU2 := Lib.hid (HU.out.below b2)
    have HTW2 := Lib.hid (HTW.out.below b2)
    have ht1 := htb.h1
    have ht4 := htb.h4
    have hw1 := htb.w1
    have hw4 := htb.w4
    obtain ⟨_, hml, hmr⟩ := mk_parts.1 hmk
    obtain ⟨bt, ot, ct, tb, to, tc, htv, htall⟩ := HT2.out.all htb
    obtain ⟨bm, om, cm, mb, mo, mc, huv, hmall⟩ := HU2.out.all (d := wd t) (by omega) hw1 hmr
    rw [hml] at huv
    subst htv huv
    obtain ⟨q, hq⟩ : ∃ q, t.length = q := ⟨_, rfl⟩
    obtain ⟨d, hd⟩ : ∃ d, wd t = d := ⟨_, rfl⟩
    have HQ := Lib.hid hq
    have HD := Lib.hid hd
    rw [hml, hq, hd] at hmall
    rw [hq, hd] at htall
    have HTA := Lib.hid (show ∀ w', Below w2.heap.size w2 w' → w'.cell? ⟨bt, ot, none⟩ = some (.slice (some ⟨tb 0, to 0, none⟩) d (tc 0)) ∧ (∀ i, i < q → w'.cell? ⟨bt, ot + i, none⟩ = some (.slice (some ⟨tb i, to i, none⟩) d (tc i))) ∧ ∀ i j, i < q → j < d → w'.cell? ⟨tb i, to i + j, none⟩ = some (.int .i64 (cF t i j)) from
      fun w' h => ⟨(htall w' h).1 0 (by omega), htall w' h⟩)
    have HUA := Lib.hid hmall
    rw [hq] at HT2 HU2 ht1 ht4 ⊢
    rw [hd] at hw1 hw4
    have hq0i : (0 : Int) < (q : Int) := by omega
    have hq0 : 0 < q := ht1
    have hd0 : 0 < d := hw1
    have HB2 := Lib.hid b2
    have HBB := Lib.hid (show ∀ w', Below w2.heap.size w2 w' → Below w.heap.size w w' from fun w' h => HBW.out.trans ((below_step HB2.out h).mono HBW.out.size))
    clear htall hmall hmk hml hmr htb hq hd b2
    have HMQ := Lib.hid (show m.length = q by rw [(mk_parts.1 HMK.out).2.1, HQ.out])
    have HMD := Lib.hid (show ∀ k, k < q → (m.getD k []).length = d from fun k hk => by rw [(mk_parts.1 HMK.out).2.2 _ (by rw [getD_of _ _ (show k < m.length by rw [HMQ.out]; exact hk)]; exact List.getElem_mem _), HD.out])
    go_wp2_with fail
    refine (lCopyM_is w2 m _ HU2.out (by have := HMQ.out; omega) (fun r hr => by have := (mk_parts.1 HMK.out).2.2 r hr; have := HTB.out.w4; omega) _ (Below.refl _ _)).mono ?_
    rintro e w3 ⟨v3, rfl, ho3, hh3⟩
    obtain ⟨gg, cc, _, _, hv3, _, _, _, _, _, _, _⟩ := ho3.cell (i := 0) (j := 0) (by rw [HMQ.out]; exact hq0) (by rw [HMD.out 0 hq0]; exact hd0)
    rw [HMQ.out] at hv3
    subst hv3
    have HO3 := Lib.hid ho3
    have HH3 := Lib.hid hh3
    clear ho3 hh3
    go_wp2
    go_loopw [8] (fun i wr => ∃ (k : Nat) (x : Mk), k ≤ q ∧ i = .int .i64 k ∧ MineB wr w2.heap.size w3.heap.size (.slice (some ⟨gg, 0, none⟩) q cc) x ∧ mkOk t x = true ∧ (∀ a b, a < q → b < d → hF x a b = if a < k then !hF m a b else hF m a b) ∧ Below w2.heap.size w2 wr) (fun i _ => q - (intOf i).toNat)
    case atStart => exact ⟨0, m, Nat.zero_le _, rfl, HO3.out, HMK.out, fun a b _ _ => by simp, HH3.out⟩
    case round =>
      obtain ⟨k, x, hk, rfl, ho, hxk, hxf, hb5⟩ := hrel
      have HOX := Lib.hid ho
      have HXK := Lib.hid hxk
      have HXF := Lib.hid hxf
      have HB5 := Lib.hid hb5
      clear ho hxk hxf hb5
      by_cases hlt : k < q
      · have hki : (k : Int) < (q : Int) := by omega
        go_wp2
        go_loopw [9] (fun i wr' => ∃ (p : Nat) (x : Mk), p ≤ d ∧ i = .int .i64 p ∧ MineB wr' w2.heap.size w3.heap.size (.slice (some ⟨gg, 0, none⟩) q cc) x ∧ mkOk t x = true ∧ (∀ a b, a < q → b < d → hF x a b = if a < k ∨ (a = k ∧ b < p) then !hF m a b else hF m a b) ∧ Below w2.heap.size w2 wr') (fun i _ => d - (intOf i).toNat)
        case atStart => exact ⟨0, x, Nat.zero_le _, rfl, HOX.out, HXK.out, fun a b ha hb => by rw [HXF.out a b ha hb]; simp, HB5.out⟩
        case round =>
          obtain ⟨p, y, hp, rfl, ho, hyk, hyf, hb6⟩ := hrel
          have HB6 := Lib.hid hb6
          have HYF := Lib.hid hyf
          have HYK := Lib.hid hyk
          have HYQ := Lib.hid (show y.length = q by rw [(mk_parts.1 HYK.out).2.1, HQ.out])
          have HYD := Lib.hid (show ∀ k, k < q → (y.getD k []).length = d from fun k hk => by rw [(mk_parts.1 HYK.out).2.2 _ (by rw [getD_of _ _ (show k < y.length by rw [HYQ.out]; exact hk)]; exact List.getElem_mem _), HD.out])
          have HOY := Lib.hid ho
          clear hyf hyk ho
          by_cases hpd : p < d
          · have hpi : (p : Int) < (d : Int) := by omega
            obtain ⟨gg', cc', gi, ci, hv', f, _, ⟨hgi, hgiT⟩, hgg, ff, hfz, hset⟩ := HOY.out.cell (i := k) (j := p) (by rw [HYQ.out]; exact hlt) (by rw [HYD.out k hlt]; exact hpd)
            injection hv' with hv1 hv2 hv3
            injection hv1 with hv1
            injection hv1 with hv1 _ _
            subst hv1
            rw [HYD.out k hlt] at f
            have hfp : (y.getD k []).getD p false = hF m k p := by
              have h9 := HYF.out k p hlt hpd
              rw [if_neg (by omega)] at h9
              exact h9
            obtain ⟨x0, hx0⟩ : ∃ x0, hF m k p = x0 := ⟨_, rfl⟩
            rw [hfp, hx0] at ff
            have HX0 := Lib.hid hx0
            have HSET := Lib.hid (hset (!x0))
            clear hset hfp hx0 hv2 hv3
            obtain ⟨wy, hwy, hb6⟩ := name_world (P := fun y => Below w2.heap.size w2 y) hb6
            subst hwy
            go_wp2_with fail
            refine wp_region_still_tail 14 (by kernel_rfl) (by kernel_rfl) ?_
            simp only [List.take_succ_cons, List.take_zero, List.drop_succ_cons, List.drop_zero]
            repeat still_step
            try refine wpStill_nil ?_
            change wpList _ _ _ _ _ wy.drew
            obtain ⟨Y, hY⟩ : ∃ Y, Y = wy.drew := ⟨_, rfl⟩
            rw [← hY]
            have ffy : Y.cell? ⟨gi, p, none⟩ = wy.cell? ⟨gi, p, none⟩ := by rw [hY]; rfl
            have hfy : Y.frozen? ⟨gi, p, none⟩ = false := by rw [hY]; exact hfz
            rw [ff] at ffy
            have HYB := Lib.hid (show Below w2.heap.size w2 Y by rw [hY]; exact hb6.drew)
            obtain ⟨X, hX⟩ : ∃ X, X = Y.setCell ⟨gi, p, none⟩ (.bool (!x0)) := ⟨_, rfl⟩
            have HXE := Lib.hid hX.symm
            have hx := HSET.out.same (w' := X) (by rw [hX, hY]; exact Nat.le_refl _) (fun k _ _ => by rw [hX, hY]; rfl)
            obtain ⟨y', hy'⟩ : ∃ z, y.set k ((y.getD k []).set p (!x0)) = z := ⟨_, rfl⟩
            have HYY := Lib.hid hy'
            rw [hy'] at hx
            have HX := Lib.hid hx
            have HXB := Lib.hid (show Below w2.heap.size w2 X by rw [hX]; exact HYB.out.setCell (p := ⟨gi, p, none⟩) hgi _)
            clear hx hX hY hy' f ff hfz hb6
            go_wp2_with fail
            rw [HXE.out]
            clear ffy hfy
            go_wp2
            go_roundw
            case rel => exact ⟨p + 1, y', by omega, by go_num, HX.out, by rw [← HYY.out]; exact mk_setM HYK.out (!x0) (by rw [HQ.out]; exact hlt) (by rw [HD.out]; exact hpd), fun a b ha hb => by
              rw [← HYY.out, hF_setB y (!x0) (by rw [HYQ.out]; exact hlt) (by rw [HYD.out k hlt]; exact hpd), HYF.out a b ha hb]
              by_cases e : a = k ∧ b = p
              · obtain ⟨rfl, rfl⟩ := e
                rw [if_pos ⟨rfl, rfl⟩, if_pos (by omega), HX0.out]
              · rw [if_neg e]
                by_cases h1 : a < k ∨ a = k ∧ b < p
                · rw [if_pos h1, if_pos (by omega)]
                · rw [if_neg h1, if_neg (by omega)], HXB.out⟩
            case measure => simp [intOf]; omega
          · obtain rfl : d = p := by omega
            clear hb6
            obtain ⟨gg', cc', gi, ci, hv', f, _, _, _, _, _, _⟩ := HOY.out.cell (i := k) (j := 0) (by rw [HYQ.out]; exact hlt) (by rw [HYD.out k hlt]; exact hd0)
            injection hv' with hv1 hv2 hv3
            injection hv1 with hv1
            injection hv1 with hv1 _ _
            subst hv1
            rw [HYD.out k hlt] at f
            clear hv2 hv3
            go_wp2
            go_roundw
            case rel => exact ⟨k + 1, y, by omega, by go_num, HOY.out, HYK.out, fun a b ha hb => by
              rw [HYF.out a b ha hb]
              by_cases h1 : a < k ∨ a = k ∧ b < d
              · rw [if_pos h1, if_pos (by omega)]
              · rw [if_neg h1, if_neg (by omega)], HB6.out⟩
            case measure => simp [intOf]; omega
      · obtain rfl : q = k := by omega
        have HF5 := Lib.hid (show ∀ a b, a < q → b < d → hF x a b = !hF m a b from fun a b ha hb => by rw [HXF.out a b ha hb, if_pos ha])
        have HC := Lib.hid (costN_not HMK.out HXK.out (fun a b ha hb => HF5.out a b (by rw [HQ.out] at ha; exact ha) (by rw [HD.out] at hb; exact hb)))
        obtain ⟨g2, hg2⟩ : ∃ g2, costN t x = g2 := ⟨_, rfl⟩
        have hc := HC.out
        rw [HG.out, hg2, HS.out] at hc
        have HG2 := Lib.hid hg2
        have HX5 := Lib.hid HOX.out.is
        have HT5 := Lib.hid (HT2.out.below HB5.out)
        have HTW5 := Lib.hid (HTW2.out.below HB5.out)
        have hws : IntKind.i64.wrap (g + g2) = S := by rw [IntKind.wrap_i64]; omega
        have HTT := Lib.hid (show ttot t = S by rw [ttot, if_pos HTK.out]; exact HS.out)
        have HCA := Lib.hid ((costN_all HTB.out).trans HS.out)
        clear hg2 hc
        go_wp2_with fail
        refine (iCost_is _ t _ HT5.out x _ HX5.out g2 HG2.out _ (Below.refl _ _) HTW5.out).mono ?_
        rintro e y1 ⟨rfl, k1⟩
        go_wp2_with fail
        refine (iTotal_is _ t _ HT5.out S HTT.out _ k1).mono ?_
        rintro e y2 ⟨rfl, k2⟩
        go_wp2_with fail
        refine (lAll_is _ t _ HT5.out (wd t) HTL.out HTD.out HTD6.out true (allM t true) rfl _ k2).mono ?_
        rintro e y3 ⟨v4, rfl, ho4, h4⟩
        have k3 := below_step k2 h4
        have HV4 := Lib.hid ho4.is
        have HT6 := Lib.hid (HT5.out.below k3)
        have HTW6 := Lib.hid (HTW5.out.below k3)
        clear ho4 h4
        go_wp2_with fail
        refine (iCost_is _ t _ HT6.out (allM t true) _ HV4.out S HCA.out _ (Below.refl _ _) HTW6.out).mono ?_
        rintro e y4 ⟨rfl, k4⟩
        have k5 := below_step k3 k4
        go_wp2_with fail
        refine (iTotal_is _ t _ HT5.out S HTT.out _ k5).mono ?_
        rintro e y5 ⟨rfl, k6⟩
        have HK := Lib.hid (HBB.out _ (below_step HB5.out k6))
        clear k1 k2 k3 k4 k5 k6
        go_wp2
        all_goals
          go_ret
          exact ⟨by first | rfl | exact retb (by simp), HK.out⟩
end Go.Proofs.YtdjjkfhdgnlkeaaDoor
