/- A law of chapter 13: BoundShown. -/
import Derived.Test.YtpdjehiohaigfaaWN0
import Derived.Deep.RegionHeld3
namespace Go.Proofs.Ytpdjehiohaigfaa
open Go.RowKit
set_option maxRecDepth 100000 in
set_option maxHeartbeats 4000000 in
theorem w_BoundShown (A : Option Addr) (n c : Nat) (hnc : n ≤ c) (hn : n ≤ maxLen) (A2 : Option Addr) (n2 c2 : Nat) (_hmc : n2 ≤ c2) (hm : n2 ≤ maxLen) (w : World) (hb : Bytes w w.heap.size A n) (_hb2 : Bytes w w.heap.size A2 n2) :
    Calls Try.prog 11 #[.slice A n c, .slice A2 n2 c2] w fun e w' => e = .returned (.bool true) ∧ Below w.heap.size w w' := by
  have hn2 := hn
  have hm2 := hm
  unfold maxLen at hn2 hm2
  rcases (show 1048576 < n ∨ (¬ 1048576 < n ∧ 1048576 < n2) ∨ ¬ 1048576 < n ∧ ¬ 1048576 < n2 by omega) with hbig | ⟨hbig, hbig2⟩ | ⟨hbig, hbig2⟩
  · go_enter Try.func11, Try.ntmps11
    go_wp2
    go_ret
    exact ⟨rfl, Below.refl _ _⟩
  · go_enter Try.func11, Try.ntmps11
    go_wp2
    go_ret
    exact ⟨rfl, Below.refl _ _⟩
  · go_enter Try.func11, Try.ntmps11
    go_wp2_with fail
    refine (dBoundHigh_any A n c hnc hn _ hb).mono ?_
    rintro e W ⟨tv, uv, t, m, i, j, rfl, ht, hu, hl, hlr, hml, hmr, hbW⟩
    have HT := Lib.hid ht
    have HU := Lib.hid hu
    have HBW := Lib.hid hbW
    obtain ⟨g, hg⟩ : ∃ g, hiI t m i j = g := ⟨_, rfl⟩
    have HG := Lib.hid hg
    clear hb ht hu hbW hl hlr hml hmr hg hn
    go_wp2_with fail
    refine (iHigh_is W t _ HT.out m _ HU.out i j g HG.out _ (Below.refl _ _)).mono ?_
    rintro e w1 ⟨rfl, b1⟩
    go_wp2_with fail
    refine (sHigh_is W t _ HT.out m _ HU.out i j g HG.out _ b1).mono ?_
    rintro e w2 ⟨rfl, b2⟩
    by_cases hneg : g < 0
    · go_wp2
      go_ret
      exact ⟨rfl, HBW.out.trans (b2.mono HBW.out.size)⟩
    have hok : bOk t m i j = true := by
      cases e : bOk t m i j
      · exfalso; have h9 := HG.out; rw [hiI, if_neg (by simp [e])] at h9; omega
      · rfl
    obtain ⟨hmk, hi0, hiq, hj0, hjd⟩ := bOk_iff.1 hok
    obtain ⟨a, rfl⟩ := Int.eq_ofNat_of_zero_le hi0
    obtain ⟨b, rfl⟩ := Int.eq_ofNat_of_zero_le hj0
    obtain ⟨htb, hml, hmr⟩ := mk_parts.1 hmk
    have haq : a < t.length := by omega
    have hbd : b < wd t := by omega
    have HMK := Lib.hid hmk
    have HTB := Lib.hid htb
    have HAQ := Lib.hid haq
    have HBD := Lib.hid hbd
    have HML := Lib.hid (show m.length ≤ 1000 by have := htb.h4; omega)
    have HMR := Lib.hid (show ∀ r ∈ m, r.length ≤ 100000 from fun r hr => by have := hmr r hr; have := htb.w4; omega)
    have HTL := Lib.hid (show t.length ≤ 1000 by have := htb.h4; omega)
    have HTD := Lib.hid htb.len
    have HTD6 := Lib.hid (show wd t ≤ 1000 by have := htb.w4; omega)
    have HTR := Lib.hid (show ∀ r ∈ t, r.length ≤ 100000 from fun r hr => by have := htb.len r hr; have := htb.w4; omega)
    clear hok hi0 hj0 b1
    have ht1 := htb.h1
    have ht4 := htb.h4
    have hw1 := htb.w1
    have hw4 := htb.w4
    obtain ⟨k, l, hk, hkq, hl, hl2, hld⟩ := modTwo n2 t.length (wd t) (by assumption) ht1 hw1
    have hge := (hi_ge hmk haq hbd).1
    rw [HG.out] at hge
    obtain ⟨At, ct, htv, htc, htm, hrt⟩ := HT.out.below b2
    obtain ⟨bt, ot, A0, c0, hAt, hbt, e0, _, _, _⟩ := hrt.at_ 0 ht1
    have hw0 : (t.getD 0 []).length = wd t := htb.len _ (by rw [getD_of _ _ ht1]; exact List.getElem_mem _)
    rw [hw0] at e0
    subst hAt htv
    have HT2 := Lib.hid (HT.out.below b2)
    have HU2 := Lib.hid (HU.out.below b2)
    clear hrt
    obtain ⟨q, hq⟩ : ∃ q, t.length = q := ⟨_, rfl⟩
    obtain ⟨d, hd⟩ : ∃ d, wd t = d := ⟨_, rfl⟩
    have HQ := Lib.hid hq
    have HD := Lib.hid hd
    rw [hq] at HT2 ht1 ht4 haq ⊢
    rw [hd] at e0 hw1 hw4 hbd
    have hq0i : (0 : Int) < (q : Int) := by omega
    have hq0 : 0 < q := ht1
    rw [Nat.add_zero] at e0
    rw [hq] at hk hl hl2 hkq hiq
    rw [hd] at hl hl2 hld hjd
    have HKM := Lib.hid hk
    have HLM := Lib.hid hl2
    clear hk hl hl2
    have hki : (k : Int) < (q : Int) := by omega
    have hli : (l : Int) < (d : Int) := by omega
    have hqn : ¬ q = 0 := Nat.ne_of_gt ht1
    have hdn : ¬ d = 0 := Nat.ne_of_gt hw1
    obtain ⟨g2, hg2⟩ : ∃ g, loI t m a b = g := ⟨_, rfl⟩
    have HG2 := Lib.hid hg2
    have hmq : m.length = q := by rw [hml, hq]
    obtain ⟨bm, om, cm, mb, mo, mc, huv, hmall⟩ := HU2.out.all (d := d) (by omega) (by omega) (fun r hr => by rw [hmr r hr, hd])
    rw [hmq] at huv hmall
    subst huv
    obtain ⟨bt9, ot9, ct9, tb, to, tc, htv9, htall⟩ := HT2.out.all htb
    injection htv9 with x1 x2 x3
    injection x1 with x1
    injection x1 with x1 x4 _
    subst x1 x4 x3
    clear x2
    rw [hq, hd] at htall
    obtain ⟨f1, hf1⟩ : ∃ f, hF m k l = f := ⟨_, rfl⟩
    obtain ⟨f2, hf2⟩ : ∃ f, hF m a b = f := ⟨_, rfl⟩
    obtain ⟨p, hp⟩ : ∃ p, cF t a b = p := ⟨_, rfl⟩
    rw [hp] at hge
    have hpk := htb.cell (k := k) (l := l) (by omega) (by omega)
    obtain ⟨y, hy⟩ : ∃ p, cF t k l = p := ⟨_, rfl⟩
    rw [hy] at hpk
    have hwy : IntKind.i64.wrap (y + 1) = y + 1 := by rw [IntKind.wrap_i64] <;> omega
    have hlk : (t.getD k []).length = wd t := htb.len _ (by rw [getD_of _ _ (by omega)]; exact List.getElem_mem _)
    have HLK := Lib.hid hlk
    have HCE := Lib.hid (show ∀ w', Below w2.heap.size w2 w' → w'.cell? ⟨bt, ot + a, none⟩ = some (.slice (some ⟨tb a, to a, none⟩) d (tc a)) ∧ w'.cell? ⟨tb a, to a + b, none⟩ = some (.int .i64 p) ∧ w'.cell? ⟨bm, om + k, none⟩ = some (.slice (some ⟨mb k, mo k, none⟩) d (mc k)) ∧ w'.cell? ⟨mb k, mo k + l, none⟩ = some (.bool f1) ∧
      w'.cell? ⟨bm, om + a, none⟩ = some (.slice (some ⟨mb a, mo a, none⟩) d (mc a)) ∧ w'.cell? ⟨mb a, mo a + b, none⟩ = some (.bool f2) from fun w' h => by
      obtain ⟨hR, hC⟩ := htall w' h
      obtain ⟨hR2, hC2⟩ := hmall w' h
      have i2 := hC a b haq hbd
      have i4 := hC2 k l hkq hld
      have i6 := hC2 a b haq hbd
      rw [hp] at i2
      rw [hf1] at i4
      rw [hf2] at i6
      exact ⟨hR a haq, i2, hR2 k hkq, i4, hR2 a haq, i6⟩)
    have HF1 := Lib.hid hf1
    have HF2 := Lib.hid hf2
    have HY := Lib.hid hy
    clear hq hd hw0 htc htm hg2 htb hml hmr hmk hmq hmall htall hf1 hf2 hp hy hlk
    have bd : Below w2.heap.size w2 w2.drew := (Below.refl _ _).drew
    go_wp2_with fail
    go_region_held3 (fun w' => w'.cell? ⟨bt, ot, none⟩ = some (.slice A0 d c0)) (first | assumption | exact e0) (fail)
    rw [HKM.out, HLM.out]
    go_wp2_with fail
    refine (lCopyR_is w2 t _ HT2.out HTL.out HTR.out _ bd).mono ?_
    rintro e w3 ⟨v3, rfl, ho3, h3⟩
    obtain ⟨g5, c5, gi, ci, hv5, f5, ⟨hgB, hgT⟩, ⟨hgi, hgiT⟩, hgg, f6, hfz, hset⟩ := Mine.cell ho3 (i := k) (j := l) (by rw [HQ.out]; exact hkq) (by rw [HLK.out, HD.out]; exact hld)
    rw [HLK.out, HD.out] at f5
    rw [HQ.out] at hv5
    have f6' : w3.cell? ⟨gi, l, none⟩ = some (.int .i64 y) := by rw [f6, show (t.getD k []).getD l 0 = y from HY.out]
    clear f6
    subst hv5
    obtain ⟨x, hx⟩ : ∃ x, t.set k ((t.getD k []).set l (y + 1)) = x := ⟨_, rfl⟩
    obtain ⟨Y3, hY3⟩ : ∃ Y, w3.drew = Y := ⟨_, rfl⟩
    have hs4 : Below w2.heap.size w2 (Y3.setCell ⟨gi, l, none⟩ (.int .i64 (y + 1))) := by rw [← hY3]; exact (Below.drew (below_step bd h3)).setCell (p := ⟨gi, l, none⟩) hgi _
    have hx4 : IsR (Y3.setCell ⟨gi, l, none⟩ (.int .i64 (y + 1))) (.slice (some ⟨g5, 0, none⟩) q c5) x := by rw [← hx, ← hY3]; exact (hset (y + 1)).is
    have f5Y : Y3.cell? ⟨g5, k, none⟩ = some (.slice (some ⟨gi, 0, none⟩) d ci) := by rw [← hY3]; exact f5
    have fzY : Y3.frozen? ⟨gi, l, none⟩ = false := by rw [← hY3]; exact hfz
    have f6Y : Y3.cell? ⟨gi, l, none⟩ = some (.int .i64 y) := by rw [← hY3]; exact f6'
    have HX4 := Lib.hid hx4
    have HXX := Lib.hid hx
    have HT4 := Lib.hid (HT2.out.below hs4)
    have HU4 := Lib.hid (HU2.out.below hs4)
    have HB4 := Lib.hid (below_step b2 hs4)
    have HS4 := Lib.hid hs4
    have HY3 := Lib.hid hY3
    have F5Y := Lib.hid f5Y
    have FZY := Lib.hid fzY
    have F6Y := Lib.hid f6Y
    obtain ⟨gx, hgx⟩ : ∃ gx, tabOk x = gx := ⟨_, rfl⟩
    have HGX := Lib.hid hgx
    clear hset hx4 ho3 h3 HKM HLM hs4 e0 bd hx hgx hfz hY3 f5Y fzY f6Y
    go_wp2
    go_still_tail 14, (by kernel_rfl)
    change wpList _ _ _ _ _ w3.drew
    rw [HY3.out]
    clear f5 f6'
    have f5 := F5Y.out
    have f6 := F6Y.out
    have f7 := FZY.out
    have HBB := Lib.hid (show ∀ w', Below (Y3.setCell ⟨gi, l, none⟩ (.int .i64 (y + 1))).heap.size (Y3.setCell ⟨gi, l, none⟩ (.int .i64 (y + 1))) w' → Below w.heap.size w w' from fun w' h => HBW.out.trans ((below_step HB4.out h).mono HBW.out.size))
    by_cases hf : f1 = true ∨ f2 = false
    · obtain ⟨c1, c2, c3, c4, c5', c6⟩ := HCE.out _ HS4.out
      rcases hf with rfl | rfl
      · go_wp2
        try (go_quiet (fail); go_wp2)
        go_ret
        exact ⟨by first | rfl | exact retb (by simp) | exact retb (by simp; omega), HBB.out _ (by first | exact Below.refl _ _ | exact below_drewN (Below.refl _ _) _)⟩
      · cases f1
        · go_wp2
          try (go_quiet (fail); go_wp2)
          go_ret
          exact ⟨by first | rfl | exact retb (by simp) | exact retb (by simp; omega), HBB.out _ (by first | exact Below.refl _ _ | exact below_drewN (Below.refl _ _) _)⟩
        · go_wp2
          try (go_quiet (fail); go_wp2)
          go_ret
          exact ⟨by first | rfl | exact retb (by simp) | exact retb (by simp; omega), HBB.out _ (by first | exact Below.refl _ _ | exact below_drewN (Below.refl _ _) _)⟩
    obtain rfl : f1 = false := by cases f1 <;> simp_all
    obtain rfl : f2 = true := by cases f2 <;> simp_all
    clear hf
    have hxl : x.length = t.length := by rw [← HXX.out, List.length_set]
    have hxw : wd x = wd t := by rw [← HXX.out, wd_setC _ _ (by rw [HQ.out]; exact hkq)]
    obtain ⟨c1, c2, c3, c4, c5', c6⟩ := HCE.out _ HS4.out
    go_wp2_with fail
    refine (iTab_is (Y3.setCell ⟨gi, l, none⟩ (.int .i64 (y + 1))) x _ HX4.out gx HGX.out _ (Below.refl _ _)).mono ?_
    rintro e x1 ⟨rfl, y1⟩
    clear c1 c2 c3 c4 c5' c6
    cases gx
    · obtain ⟨c1, c2, c3, c4, c5', c6⟩ := HCE.out _ (below_step HS4.out y1)
      go_wp2
      try (go_quiet (fail); go_wp2)
      go_ret
      exact ⟨by first | rfl | exact retb (by simp) | exact retb (by simp; omega), HBB.out _ (by first | exact y1 | exact below_drewN (y1) _)⟩
    have hms := m_shown HMK.out hxl hxw HGX.out (fun a' b' _ _ => by rw [← HXX.out, cF_set (by rw [HQ.out]; exact hkq) (by rw [HLK.out, HD.out]; exact hld), HY.out, show y + 1 - y = 1 by omega]) (by rw [HQ.out]; exact hkq) (by rw [HD.out]; exact hld) HF1.out HF2.out HAQ.out HBD.out
    rw [HG.out, HG2.out] at hms
    have HG3 := Lib.hid hms.1
    have HG4 := Lib.hid hms.2
    clear hms hxl hxw
    go_wp2_with fail
    refine (iHigh_is (Y3.setCell ⟨gi, l, none⟩ (.int .i64 (y + 1))) x _ HX4.out m _ HU4.out a b g HG3.out _ y1).mono ?_
    rintro e x2 ⟨rfl, y2⟩
    go_wp2_with fail
    refine (iLow_is (Y3.setCell ⟨gi, l, none⟩ (.int .i64 (y + 1))) x _ HX4.out m _ HU4.out a b g2 HG4.out _ y2).mono ?_
    rintro e x3 ⟨rfl, y3⟩
    go_wp2_with fail
    refine (iLow_is (Y3.setCell ⟨gi, l, none⟩ (.int .i64 (y + 1))) t _ HT4.out m _ HU4.out a b g2 HG2.out _ y3).mono ?_
    rintro e x4 ⟨rfl, y4⟩
    go_wp2
    go_ret
    exact ⟨by first | rfl | exact retb (by simp) | exact retb (by simp; omega), HBB.out _ y4⟩
end Go.Proofs.Ytpdjehiohaigfaa
