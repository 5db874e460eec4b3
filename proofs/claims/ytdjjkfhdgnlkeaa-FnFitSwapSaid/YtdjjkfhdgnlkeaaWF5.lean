/- A law of chapter 13: FitSwap. -/
import Derived.Test.YtdjjkfhdgnlkeaaWN0
import Derived.Deep.RegionHeld3
import Derived.Test.YtdjjkfhdgnlkeaaWL0
import Derived.Test.YtdjjkfhdgnlkeaaRQ
import Derived.StillTailTactics
import Derived.Test.YtdjjkfhdgnlkeaaTD8
import Derived.Test.YtdjjkfhdgnlkeaaIV11
import Derived.Test.YtdjjkfhdgnlkeaaSB6
namespace Go.Proofs.Ytdjjkfhdgnlkeaa
open Go.RowKit
set_option maxRecDepth 100000 in
set_option maxHeartbeats 40000000 in
theorem w_FitSwap (A : Option Addr) (n c : Nat) (hnc : n ≤ c) (hn : n ≤ maxLen) (w : World) (hb : Bytes w w.heap.size A n) :
    Calls Try.prog 4 #[.slice A n c] w fun e w' => e = .returned (.bool true) ∧ Below w.heap.size w w' := by
  have hn2 := hn
  unfold maxLen at hn2
  rcases (show 1048576 < n ∨ ¬ 1048576 < n by omega) with hbig | hbig
  · go_enter Try.func4, Try.ntmps4
    go_wp2
    go_ret
    exact ⟨rfl, Below.refl _ _⟩
  · go_enter Try.func4, Try.ntmps4
    go_wp2_with fail
    refine (dFit_any A n c hnc hn _ hb).mono ?_
    rintro e W ⟨tv, uv, xv, t, m, x, rfl, ht, hu, hx, hl, hlr, hml, hmr, hxl, hxr, hbW⟩
    have HT := Lib.hid ht
    have HU := Lib.hid hu
    have HX := Lib.hid hx
    have HBW := Lib.hid hbW
    obtain ⟨g, hg⟩ : ∃ g, fitB t m x = g := ⟨_, rfl⟩
    have HG := Lib.hid hg
    clear hb ht hu hx hbW hl hlr hml hmr hg hn hxl hxr
    go_wp2_with fail
    refine (iFit_is W t _ HT.out m _ HU.out x _ HX.out g HG.out _ (Below.refl _ _)).mono ?_
    rintro e w1 ⟨rfl, b1⟩
    go_wp2_with fail
    refine (sFit_is W t _ HT.out m _ HU.out x _ HX.out g HG.out _ b1).mono ?_
    rintro e w2 ⟨rfl, b2⟩
    cases g
    · go_wp2
      go_ret
      exact ⟨rfl, HBW.out.trans (b2.mono HBW.out.size)⟩
    have hf := fitB_iff.1 HG.out
    have HFP := Lib.hid hf
    obtain ⟨hmk, hxl, hxr, hff⟩ := hf
    obtain ⟨htb, hml, hmr⟩ := mk_parts.1 hmk
    have HMK := Lib.hid hmk
    have HTB := Lib.hid htb
    have HTK := Lib.hid (tab_iff.2 htb)
    have HML := Lib.hid (show m.length ≤ 1000 by have := htb.h4; omega)
    have HMR := Lib.hid (show ∀ r ∈ m, r.length ≤ 100000 from fun r hr => by have := hmr r hr; have := htb.w4; omega)
    have HMR2 := Lib.hid hmr
    have HM1 := Lib.hid (show 1 ≤ m.length by have := htb.h1; omega)
    have HTL := Lib.hid (show t.length ≤ 1000 by have := htb.h4; omega)
    have HTD := Lib.hid htb.len
    have HTD6 := Lib.hid (show wd t ≤ 1000 by have := htb.w4; omega)
    have HTR := Lib.hid (show ∀ r ∈ t, r.length ≤ 100000 from fun r hr => by have := htb.len r hr; have := htb.w4; omega)
    clear b1 hff
    obtain ⟨gx, hgx⟩ : ∃ gx, tabOk x = gx := ⟨_, rfl⟩
    have HGX := Lib.hid hgx
    clear hgx
    go_wp2_with fail
    refine (iTab_is W x _ HX.out gx HGX.out _ b2).mono ?_
    rintro e w3 ⟨rfl, b3⟩
    cases gx
    · go_wp2_with fail
      refine (iTab_is W t _ HT.out true HTK.out _ b3).mono ?_
      rintro e w4 ⟨rfl, b4⟩
      go_wp2
      go_ret
      exact ⟨by first | rfl | exact retb (by simp), HBW.out.trans (b4.mono HBW.out.size)⟩
    have HTX := Lib.hid (tab_iff.1 HGX.out)
    have HT3 := Lib.hid (HT.out.below b3)
    have HX3 := Lib.hid (HX.out.below b3)
    have HU3 := Lib.hid (HU.out.below b3)
    obtain ⟨bt, ot, ct, tb, tf, tc, htv, htall⟩ := HT3.out.all htb
    obtain ⟨bx, ox, cx, xb, xo, xc, hxv, hxall⟩ := HX3.out.all HTX.out
    rw [hxl] at hxv hxall
    rw [HFP.out.wd_eq] at hxall
    subst htv hxv
    have ht1 := htb.h1
    have hw1 := htb.w1
    have ht4 := htb.h4
    have hw4 := htb.w4
    obtain ⟨q, hq⟩ : ∃ q, t.length = q := ⟨_, rfl⟩
    obtain ⟨d, hd⟩ : ∃ d, wd t = d := ⟨_, rfl⟩
    have HQ := Lib.hid hq
    have HD := Lib.hid hd
    rw [hq, hd] at htall hxall
    have HTA := Lib.hid (show ∀ w', Below w3.heap.size w3 w' → w'.cell? ⟨bt, ot, none⟩ = some (.slice (some ⟨tb 0, tf 0, none⟩) d (tc 0)) ∧ (∀ i, i < q → w'.cell? ⟨bt, ot + i, none⟩ = some (.slice (some ⟨tb i, tf i, none⟩) d (tc i))) ∧ ∀ i j, i < q → j < d → w'.cell? ⟨tb i, tf i + j, none⟩ = some (.int .i64 (cF t i j)) from
      fun w' h => ⟨(htall w' h).1 0 (by omega), htall w' h⟩)
    have HXA := Lib.hid (show ∀ w', Below w3.heap.size w3 w' → w'.cell? ⟨bx, ox, none⟩ = some (.slice (some ⟨xb 0, xo 0, none⟩) d (xc 0)) ∧ (∀ i, i < q → w'.cell? ⟨bx, ox + i, none⟩ = some (.slice (some ⟨xb i, xo i, none⟩) d (xc i))) ∧ ∀ i j, i < q → j < d → w'.cell? ⟨xb i, xo i + j, none⟩ = some (.int .i64 (cF x i j)) from
      fun w' h => ⟨(hxall w' h).1 0 (by omega), hxall w' h⟩)
    have HXL := Lib.hid hxl
    have HBB := Lib.hid (show ∀ w', Below w3.heap.size w3 w' → Below w.heap.size w w' from fun w' h => HBW.out.trans ((below_step b3 h).mono HBW.out.size))
    have hlen : ∀ i, i < t.length → (t.getD i []).length = wd t := fun i hi => htb.rlenD hi
    have HLEN := Lib.hid hlen
    rw [hq] at HT3 HX3 ht1 ht4 ⊢
    rw [hd] at hw1 hw4
    clear htall hxall hmk htb hml hmr hxl hxr hq hd b2 b3 hlen
    go_wp2_with fail
    refine (lCopyR_is w3 t _ HT3.out HTL.out HTR.out _ (Below.refl _ _)).mono ?_
    rintro e w4 ⟨v4, rfl, ho4, h4⟩
    obtain ⟨B, hB⟩ : ∃ B, w3.heap.size = B := ⟨_, rfl⟩
    obtain ⟨T, hT⟩ : ∃ T, w4.heap.size = T := ⟨_, rfl⟩
    obtain ⟨A3, c3, hv4, _, _, _⟩ := ho4.is
    rw [HQ.out] at hv4
    subst hv4
    rw [hT] at ho4
    rw [hB] at ho4
    have HX0 := Lib.hid ho4
    have HB4 := Lib.hid h4
    have HBB3 := Lib.hid hB
    clear ho4 hT h4
    go_wp2
    go_loopw [9, 10] (fun u i wr => ∃ k : Nat, k ≤ q ∧ i = .int .i64 k ∧ Below w3.heap.size w3 wr ∧ ∃ g9 y, u = .bool g9 ∧ Mine wr B T (.slice A3 q c3) y ∧ y.length = t.length ∧ (∀ i, i < t.length → (y.getD i []).length = wd t) ∧ (∀ i j, i < t.length → j < wd t → i < k → cF y i j = (cF t i j + cF x i j) / 2) ∧ (g9 = true → ∀ i j, i < t.length → j < wd t → i < k → (cF t i j + cF x i j) % 2 = 0)) (fun _ i _ => q - (intOf i).toNat)
    case atStart => exact ⟨0, Nat.zero_le _, rfl, HB4.out, true, t, rfl, HX0.out, rfl, HLEN.out, fun i j _ _ h => absurd h (Nat.not_lt_zero _), fun _ i j _ _ h => absurd h (Nat.not_lt_zero _)⟩
    case round =>
      obtain ⟨k, hk, rfl, hb5, g8, y, rfl, hy1, hy2, hy3, hy4, hy5⟩ := hrel
      have HB5 := Lib.hid hb5
      have HY1 := Lib.hid hy1
      have HY2 := Lib.hid hy2
      have HY3 := Lib.hid hy3
      have HY4 := Lib.hid hy4
      have HY5 := Lib.hid hy5
      clear hb5 hy1 hy2 hy3 hy4 hy5
      by_cases hlt : k < q
      · have hki : (k : Int) < (q : Int) := by omega
        go_wp2
        go_loopw [9, 11] (fun u i wr' => ∃ p : Nat, p ≤ d ∧ i = .int .i64 p ∧ Below w3.heap.size w3 wr' ∧ ∃ g9 y, u = .bool g9 ∧ Mine wr' B T (.slice A3 q c3) y ∧ y.length = t.length ∧ (∀ i, i < t.length → (y.getD i []).length = wd t) ∧ (∀ i j, i < t.length → j < wd t → (i < k ∨ (i = k ∧ j < p)) → cF y i j = (cF t i j + cF x i j) / 2) ∧ (g9 = true → ∀ i j, i < t.length → j < wd t → (i < k ∨ (i = k ∧ j < p)) → (cF t i j + cF x i j) % 2 = 0)) (fun _ i _ => d - (intOf i).toNat)
        case atStart => exact ⟨0, Nat.zero_le _, rfl, HB5.out, g8, y, rfl, HY1.out, HY2.out, HY3.out, fun i j hi hj h => HY4.out i j hi hj (by omega), fun e i j hi hj h => HY5.out e i j hi hj (by omega)⟩
        case round =>
          clear HY1 HY2 HY3 HY4 HY5
          obtain ⟨p, hp, rfl, hb6, g7, y, rfl, hy1, hy2, hy3, hy4, hy5⟩ := hrel
          have HB6 := Lib.hid hb6
          have HY2 := Lib.hid hy2
          have HY3 := Lib.hid hy3
          have HY4 := Lib.hid hy4
          have HY5 := Lib.hid hy5
          clear hy2 hy3 hy4 hy5
          have r1 := (HTA.out _ hb6).2.1 k hlt
          by_cases hpd : p < d
          · have hpi : (p : Int) < (d : Int) := by omega
            have c1 := (HTA.out _ hb6).2.2 k p hlt hpd
            have r2 := (HXA.out _ hb6).2.1 k hlt
            have c2 := (HXA.out _ hb6).2.2 k p hlt hpd
            have hkt : k < t.length := by rw [HQ.out]; exact hlt
            have hpt : p < wd t := by rw [HD.out]; exact hpd
            have hcb := HTB.out.cell hkt hpt
            have hcx := HTX.out.cell (k := k) (l := p) (by rw [HXL.out]; exact hkt) (by rw [HFP.out.wd_eq]; exact hpt)
            obtain ⟨z, hz⟩ : ∃ z, cF t k p = z := ⟨_, rfl⟩
            obtain ⟨v, hv⟩ : ∃ z, cF x k p = z := ⟨_, rfl⟩
            rw [hz] at c1 hcb
            rw [hv] at c2 hcx
            have HZ := Lib.hid hz
            have HV := Lib.hid hv
            have hwz : IntKind.i64.wrap (z + v) = z + v := by rw [IntKind.wrap_i64] <;> omega
            obtain ⟨h, hh⟩ : ∃ h, (z + v) / 2 = h := ⟨_, rfl⟩
            have HH := Lib.hid hh
            have hq1 : IntKind.i64.wrap ((z + v).tdiv 2) = h := by rw [Int.tdiv_eq_ediv_of_nonneg (by omega), hh, IntKind.wrap_i64] <;> omega
            have hq2 : IntKind.i64.wrap ((z + v) / 2) = h := by rw [hh, IntKind.wrap_i64] <;> omega
            obtain ⟨r, hr⟩ : ∃ r, (z + v) % 2 = r := ⟨_, rfl⟩
            have hr2 : (z + v).tmod 2 = r := by rw [Int.tmod_eq_emod_of_nonneg (by omega)]; exact hr
            have HRR := Lib.hid hr
            have L0 := Later.cell1 r1
            have L1 := Later.cell1 c1
            have L2 := Later.cell1 r2
            have L3 := Later.cell1 c2
            clear hz hv hcb hcx hh c1 r2 c2
            cases g7
            · go_wp2_with fail
              refine region_quiet_later (by kernel_rfl) (by kernel_rfl) ?_
              repeat (go_big_quiet_step (fail))
              refine wpQuiet_nil ?_
              rintro wz ⟨L, hL⟩
              have hwl : Below wr.heap.size wr wz := by rw [hL]; exact L.h
              have hb7 := below_step hb6 hwl
              have hyz := hy1.below hwl
              clear hL hwl L
              clear L0 L1 L2 L3 hy1 hb6 r1
              have r1 := (HTA.out _ hb7).2.1 k hlt
              have c1 := (HTA.out _ hb7).2.2 k p hlt hpd
              have r2 := (HXA.out _ hb7).2.1 k hlt
              have c2 := (HXA.out _ hb7).2.2 k p hlt hpd
              rw [HZ.out] at c1
              rw [HV.out] at c2
              obtain ⟨g5, c5, gi, ci, hv5, f5, ⟨hgB, hgT⟩, ⟨hgi, hgiT⟩, hgg, f6, hfz, hset⟩ := Mine.cell hyz (i := k) (j := p) (by rw [HY2.out]; exact hkt) (by rw [HY3.out k hkt]; exact hpt)
              rw [HY3.out k hkt, HD.out] at f5
              injection hv5 with hv1 hv2 hv3
              subst hv1
              obtain ⟨Y3, hY3⟩ : ∃ Y, wz.drew = Y := ⟨_, rfl⟩
              have hset2 : Mine (Y3.setCell ⟨gi, p, none⟩ (.int .i64 h)) B T (.slice (some ⟨g5, 0, none⟩) q c3) (y.set k ((y.getD k []).set p h)) := by rw [← hY3]; exact hset h
              have hs4 : Below w3.heap.size w3 (Y3.setCell ⟨gi, p, none⟩ (.int .i64 h)) := by rw [← hY3]; exact (Below.drew hb7).setCell (p := ⟨gi, p, none⟩) (by rw [HBB3.out]; exact hgi) _
              have f5Y : Y3.cell? ⟨g5, k, none⟩ = some (.slice (some ⟨gi, 0, none⟩) d ci) := by rw [← hY3]; exact f5
              have fzY : Y3.frozen? ⟨gi, p, none⟩ = false := by rw [← hY3]; exact hfz
              have f6Y : Y3.cell? ⟨gi, p, none⟩ = some (.int .i64 ((y.getD k []).getD p 0)) := by rw [← hY3]; exact f6
              have HFIN := Lib.hid (show Below w3.heap.size w3 (Y3.setCell ⟨gi, p, none⟩ (.int .i64 h)) ∧ ∃ g9' y, .bool false = Value.bool g9' ∧ Mine (Y3.setCell ⟨gi, p, none⟩ (.int .i64 h)) B T (.slice (some ⟨g5, 0, none⟩) q c3) y ∧ y.length = t.length ∧ (∀ i, i < t.length → (y.getD i []).length = wd t) ∧ (∀ i j, i < t.length → j < wd t → (i < k ∨ (i = k ∧ j < p + 1)) → cF y i j = (cF t i j + cF x i j) / 2) ∧ (g9' = true → ∀ i j, i < t.length → j < wd t → (i < k ∨ (i = k ∧ j < p + 1)) → (cF t i j + cF x i j) % 2 = 0) from
                ⟨hs4, false, _, rfl, hset2, by rw [List.length_set, HY2.out], fun i hi => by
                  by_cases e : k = i
                  · subst e; rw [getD_of _ _ (by rw [List.length_set, HY2.out]; exact hi), List.getElem_set_self, List.length_set]; exact HY3.out k hi
                  · rw [getD_of _ _ (by rw [List.length_set, HY2.out]; exact hi), List.getElem_set_ne e, ← getD_of y [] (by rw [HY2.out]; exact hi)]; exact HY3.out i hi, fun i j hi hj hij => by
                  rw [cF_set (by rw [HY2.out]; exact hkt) (by rw [HY3.out k hkt]; exact hpt)]
                  unfold up1
                  by_cases e : i = k ∧ j = p
                  · obtain ⟨rfl, rfl⟩ := e
                    rw [if_pos ⟨rfl, rfl⟩, HZ.out, HV.out, HH.out]; omega
                  · rw [if_neg e]; exact HY4.out i j hi hj (by omega), fun e => by cases e⟩)
              have HF5 := Lib.hid f5Y
              have HF6 := Lib.hid f6Y
              have HFZ := Lib.hid fzY
              have HY9 := Lib.hid hY3
              clear hset hset2 hs4 f5Y fzY f6Y hY3 hyz hv2 hv3 hb7 hfz f6
              go_wp2_with fail
              refine wp_region_still_tail 22 (by kernel_rfl) (by kernel_rfl) ?_
              simp only [List.take_succ_cons, List.take_zero, List.drop_succ_cons, List.drop_zero]
              repeat still_step
              try refine wpStill_nil ?_
              change wpList _ _ _ _ _ wz.drew
              rw [HY9.out]
              clear f5 r1 c1 r2 c2
              have f5 := HF5.out
              have f6 := HF6.out
              have f7 := HFZ.out
              go_wp2
              go_roundw
              case rel => exact ⟨p + 1, by omega, by go_num, HFIN.out⟩
              case measure => simp [intOf]; omega
            by_cases hr0 : r = 0
            · subst hr0
              go_wp2_with fail
              refine region_quiet_later (by kernel_rfl) (by kernel_rfl) ?_
              repeat (go_big_quiet_step (fail))
              refine wpQuiet_nil ?_
              rintro wz ⟨L, hL⟩
              have hwl : Below wr.heap.size wr wz := by rw [hL]; exact L.h
              have hb7 := below_step hb6 hwl
              have hyz := hy1.below hwl
              clear hL hwl L
              clear L0 L1 L2 L3 hy1 hb6 r1
              have r1 := (HTA.out _ hb7).2.1 k hlt
              have c1 := (HTA.out _ hb7).2.2 k p hlt hpd
              have r2 := (HXA.out _ hb7).2.1 k hlt
              have c2 := (HXA.out _ hb7).2.2 k p hlt hpd
              rw [HZ.out] at c1
              rw [HV.out] at c2
              obtain ⟨g5, c5, gi, ci, hv5, f5, ⟨hgB, hgT⟩, ⟨hgi, hgiT⟩, hgg, f6, hfz, hset⟩ := Mine.cell hyz (i := k) (j := p) (by rw [HY2.out]; exact hkt) (by rw [HY3.out k hkt]; exact hpt)
              rw [HY3.out k hkt, HD.out] at f5
              injection hv5 with hv1 hv2 hv3
              subst hv1
              obtain ⟨Y3, hY3⟩ : ∃ Y, wz.drew = Y := ⟨_, rfl⟩
              have hset2 : Mine (Y3.setCell ⟨gi, p, none⟩ (.int .i64 h)) B T (.slice (some ⟨g5, 0, none⟩) q c3) (y.set k ((y.getD k []).set p h)) := by rw [← hY3]; exact hset h
              have hs4 : Below w3.heap.size w3 (Y3.setCell ⟨gi, p, none⟩ (.int .i64 h)) := by rw [← hY3]; exact (Below.drew hb7).setCell (p := ⟨gi, p, none⟩) (by rw [HBB3.out]; exact hgi) _
              have f5Y : Y3.cell? ⟨g5, k, none⟩ = some (.slice (some ⟨gi, 0, none⟩) d ci) := by rw [← hY3]; exact f5
              have fzY : Y3.frozen? ⟨gi, p, none⟩ = false := by rw [← hY3]; exact hfz
              have f6Y : Y3.cell? ⟨gi, p, none⟩ = some (.int .i64 ((y.getD k []).getD p 0)) := by rw [← hY3]; exact f6
              have HFIN := Lib.hid (show Below w3.heap.size w3 (Y3.setCell ⟨gi, p, none⟩ (.int .i64 h)) ∧ ∃ g9' y, .bool true = Value.bool g9' ∧ Mine (Y3.setCell ⟨gi, p, none⟩ (.int .i64 h)) B T (.slice (some ⟨g5, 0, none⟩) q c3) y ∧ y.length = t.length ∧ (∀ i, i < t.length → (y.getD i []).length = wd t) ∧ (∀ i j, i < t.length → j < wd t → (i < k ∨ (i = k ∧ j < p + 1)) → cF y i j = (cF t i j + cF x i j) / 2) ∧ (g9' = true → ∀ i j, i < t.length → j < wd t → (i < k ∨ (i = k ∧ j < p + 1)) → (cF t i j + cF x i j) % 2 = 0) from
                ⟨hs4, true, _, rfl, hset2, by rw [List.length_set, HY2.out], fun i hi => by
                  by_cases e : k = i
                  · subst e; rw [getD_of _ _ (by rw [List.length_set, HY2.out]; exact hi), List.getElem_set_self, List.length_set]; exact HY3.out k hi
                  · rw [getD_of _ _ (by rw [List.length_set, HY2.out]; exact hi), List.getElem_set_ne e, ← getD_of y [] (by rw [HY2.out]; exact hi)]; exact HY3.out i hi, fun i j hi hj hij => by
                  rw [cF_set (by rw [HY2.out]; exact hkt) (by rw [HY3.out k hkt]; exact hpt)]
                  unfold up1
                  by_cases e : i = k ∧ j = p
                  · obtain ⟨rfl, rfl⟩ := e
                    rw [if_pos ⟨rfl, rfl⟩, HZ.out, HV.out, HH.out]; omega
                  · rw [if_neg e]; exact HY4.out i j hi hj (by omega), fun _ i j hi hj hij => by
                    by_cases e : i = k ∧ j = p
                    · obtain ⟨rfl, rfl⟩ := e
                      rw [HZ.out, HV.out]; exact HRR.out
                    · exact HY5.out (by first | exact rfl | exact trivial) i j hi hj (by omega)⟩)
              have HF5 := Lib.hid f5Y
              have HF6 := Lib.hid f6Y
              have HFZ := Lib.hid fzY
              have HY9 := Lib.hid hY3
              clear hset hset2 hs4 f5Y fzY f6Y hY3 hyz hv2 hv3 hb7 hfz f6
              go_wp2_with fail
              refine wp_region_still_tail 22 (by kernel_rfl) (by kernel_rfl) ?_
              simp only [List.take_succ_cons, List.take_zero, List.drop_succ_cons, List.drop_zero]
              repeat still_step
              try refine wpStill_nil ?_
              change wpList _ _ _ _ _ wz.drew
              rw [HY9.out]
              clear f5 r1 c1 r2 c2
              have f5 := HF5.out
              have f6 := HF6.out
              have f7 := HFZ.out
              go_wp2
              go_roundw
              case rel => exact ⟨p + 1, by omega, by go_num, HFIN.out⟩
              case measure => simp [intOf]; omega
            have hr9 : (r == 0) = false := by rw [beq_eq_false_iff_ne]; exact hr0
            go_wp2_with fail
            refine region_quiet_later (by kernel_rfl) (by kernel_rfl) ?_
            repeat (go_big_quiet_step (fail))
            refine wpQuiet_nil ?_
            rintro wz ⟨L, hL⟩
            have hwl : Below wr.heap.size wr wz := by rw [hL]; exact L.h
            have hb7 := below_step hb6 hwl
            have hyz := hy1.below hwl
            clear hL hwl L
            clear L0 L1 L2 L3 hy1 hb6 r1
            have r1 := (HTA.out _ hb7).2.1 k hlt
            have c1 := (HTA.out _ hb7).2.2 k p hlt hpd
            have r2 := (HXA.out _ hb7).2.1 k hlt
            have c2 := (HXA.out _ hb7).2.2 k p hlt hpd
            rw [HZ.out] at c1
            rw [HV.out] at c2
            obtain ⟨g5, c5, gi, ci, hv5, f5, ⟨hgB, hgT⟩, ⟨hgi, hgiT⟩, hgg, f6, hfz, hset⟩ := Mine.cell hyz (i := k) (j := p) (by rw [HY2.out]; exact hkt) (by rw [HY3.out k hkt]; exact hpt)
            rw [HY3.out k hkt, HD.out] at f5
            injection hv5 with hv1 hv2 hv3
            subst hv1
            obtain ⟨Y3, hY3⟩ : ∃ Y, wz.drew = Y := ⟨_, rfl⟩
            have hset2 : Mine (Y3.setCell ⟨gi, p, none⟩ (.int .i64 h)) B T (.slice (some ⟨g5, 0, none⟩) q c3) (y.set k ((y.getD k []).set p h)) := by rw [← hY3]; exact hset h
            have hs4 : Below w3.heap.size w3 (Y3.setCell ⟨gi, p, none⟩ (.int .i64 h)) := by rw [← hY3]; exact (Below.drew hb7).setCell (p := ⟨gi, p, none⟩) (by rw [HBB3.out]; exact hgi) _
            have f5Y : Y3.cell? ⟨g5, k, none⟩ = some (.slice (some ⟨gi, 0, none⟩) d ci) := by rw [← hY3]; exact f5
            have fzY : Y3.frozen? ⟨gi, p, none⟩ = false := by rw [← hY3]; exact hfz
            have f6Y : Y3.cell? ⟨gi, p, none⟩ = some (.int .i64 ((y.getD k []).getD p 0)) := by rw [← hY3]; exact f6
            have HFIN := Lib.hid (show Below w3.heap.size w3 (Y3.setCell ⟨gi, p, none⟩ (.int .i64 h)) ∧ ∃ g9' y, .bool false = Value.bool g9' ∧ Mine (Y3.setCell ⟨gi, p, none⟩ (.int .i64 h)) B T (.slice (some ⟨g5, 0, none⟩) q c3) y ∧ y.length = t.length ∧ (∀ i, i < t.length → (y.getD i []).length = wd t) ∧ (∀ i j, i < t.length → j < wd t → (i < k ∨ (i = k ∧ j < p + 1)) → cF y i j = (cF t i j + cF x i j) / 2) ∧ (g9' = true → ∀ i j, i < t.length → j < wd t → (i < k ∨ (i = k ∧ j < p + 1)) → (cF t i j + cF x i j) % 2 = 0) from
              ⟨hs4, false, _, rfl, hset2, by rw [List.length_set, HY2.out], fun i hi => by
                by_cases e : k = i
                · subst e; rw [getD_of _ _ (by rw [List.length_set, HY2.out]; exact hi), List.getElem_set_self, List.length_set]; exact HY3.out k hi
                · rw [getD_of _ _ (by rw [List.length_set, HY2.out]; exact hi), List.getElem_set_ne e, ← getD_of y [] (by rw [HY2.out]; exact hi)]; exact HY3.out i hi, fun i j hi hj hij => by
                rw [cF_set (by rw [HY2.out]; exact hkt) (by rw [HY3.out k hkt]; exact hpt)]
                unfold up1
                by_cases e : i = k ∧ j = p
                · obtain ⟨rfl, rfl⟩ := e
                  rw [if_pos ⟨rfl, rfl⟩, HZ.out, HV.out, HH.out]; omega
                · rw [if_neg e]; exact HY4.out i j hi hj (by omega), fun e => by cases e⟩)
            have HF5 := Lib.hid f5Y
            have HF6 := Lib.hid f6Y
            have HFZ := Lib.hid fzY
            have HY9 := Lib.hid hY3
            clear hset hset2 hs4 f5Y fzY f6Y hY3 hyz hv2 hv3 hb7 hfz f6
            go_wp2_with fail
            refine wp_region_still_tail 22 (by kernel_rfl) (by kernel_rfl) ?_
            simp only [List.take_succ_cons, List.take_zero, List.drop_succ_cons, List.drop_zero]
            repeat still_step
            try refine wpStill_nil ?_
            change wpList _ _ _ _ _ wz.drew
            rw [HY9.out]
            clear f5 r1 c1 r2 c2
            have f5 := HF5.out
            have f6 := HF6.out
            have f7 := HFZ.out
            go_wp2
            go_roundw
            case rel => exact ⟨p + 1, by omega, by go_num, HFIN.out⟩
            case measure => simp [intOf]; omega
          · obtain rfl : d = p := by omega
            have HE := Lib.hid (show ∃ g9 y', Value.bool g7 = .bool g9 ∧ Mine wr B T (.slice A3 q c3) y' ∧ y'.length = t.length ∧ (∀ i, i < t.length → (y'.getD i []).length = wd t) ∧ (∀ i j, i < t.length → j < wd t → i < k + 1 → cF y' i j = (cF t i j + cF x i j) / 2) ∧ (g9 = true → ∀ i j, i < t.length → j < wd t → i < k + 1 → (cF t i j + cF x i j) % 2 = 0) from
              ⟨g7, y, rfl, hy1, HY2.out, HY3.out, fun i j hi hj h => HY4.out i j hi hj (by rw [HD.out] at hj; omega), fun e i j hi hj h => HY5.out e i j hi hj (by rw [HD.out] at hj; omega)⟩)
            clear hy1 hb6
            go_wp2
            go_roundw
            case rel => exact ⟨k + 1, by omega, by go_num, HB6.out, HE.out⟩
            case measure => simp [intOf]; omega
      · obtain rfl : q = k := by omega
        have HT5 := Lib.hid (HT3.out.below HB5.out)
        have HX5 := Lib.hid (HX3.out.below HB5.out)
        have HU5 := Lib.hid (HU3.out.below HB5.out)
        have HY6 := Lib.hid HY1.out.is
        have HF1 := Lib.hid (fitB_iff.2 (m_fitSwap HFP.out HGX.out))
        go_wp2_with fail
        refine (iFit_is _ x _ HX5.out m _ HU5.out t _ HT5.out true HF1.out _ (Below.refl _ _)).mono ?_
        rintro e x1 ⟨rfl, z1⟩
        cases g8
        · go_wp2
          all_goals
            go_ret
            exact ⟨by first | rfl | exact retb (by simp), HBB.out _ (below_step HB5.out z1)⟩
        have HF2 := Lib.hid (fitB_iff.2 (m_fitHalf HFP.out HY2.out (fun r hr => by
          obtain ⟨i, hi, rfl⟩ := List.mem_iff_getElem.1 hr
          have := HY3.out i (by rw [← HY2.out]; exact hi)
          rw [getD_of _ _ hi] at this; exact this) (fun k l hk hl => by
          have h1 := HY4.out k l hk hl (by rw [HQ.out] at hk; exact hk)
          have h2 := HY5.out rfl k l hk hl (by rw [HQ.out] at hk; exact hk)
          rw [h1]; omega)))
        go_wp2_with fail
        refine (iFit_is _ t _ HT5.out m _ HU5.out y _ HY6.out true HF2.out _ z1).mono ?_
        rintro e x2 ⟨rfl, z2⟩
        go_wp2
        all_goals
          go_ret
          exact ⟨by first | rfl | exact retb (by simp), HBB.out _ (below_step HB5.out z2)⟩
end Go.Proofs.Ytdjjkfhdgnlkeaa
