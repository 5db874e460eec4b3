/- A law of chapter 13: HighPair. -/
import Derived.Test.YtpajbgkgleeifaaWN0
import Derived.Deep.RegionHeld3
import Derived.Test.YtpajbgkgleeifaaWL0
namespace Go.Proofs.Ytpajbgkgleeifaa
open Go.RowKit
set_option maxRecDepth 100000 in
set_option maxHeartbeats 4000000 in
theorem w_HighPair (A : Option Addr) (n c : Nat) (hnc : n ≤ c) (hn : n ≤ maxLen) (w : World) (hb : Bytes w w.heap.size A n) :
    Calls Try.prog 11 #[.slice A n c] w fun e w' => e = .returned (.bool true) ∧ Below w.heap.size w w' := by
  have hn2 := hn
  unfold maxLen at hn2
  rcases (show 1048576 < n ∨ ¬ 1048576 < n by omega) with hbig | hbig
  · go_enter Try.func11, Try.ntmps11
    go_wp2
    go_ret
    exact ⟨rfl, Below.refl _ _⟩
  · go_enter Try.func11, Try.ntmps11
    go_wp2_with fail
    refine (dBoundHigh_any A n c hnc hn _ hb).mono ?_
    rintro e W ⟨tv, uv, t, m, i, j, rfl, ht, hu, hl, hlr, hml, hmr, hbW⟩
    have HT := Lib.hid ht
    have HU := Lib.hid hu
    have HBW := Lib.hid hbW
    obtain ⟨g, hg⟩ : ∃ g, hiI t m i j = g := ⟨_, rfl⟩
    have HG := Lib.hid hg
    clear hb ht hu hbW hl hlr hml hmr hg hn
    go_wp2_with fail
    refine (iHigh_is W t _ HT.out m _ HU.out i j g HG.out _ (Below.refl _ _)).mono ?_
    rintro e w1 ⟨rfl, b1⟩
    go_wp2_with fail
    refine (sHigh_is W t _ HT.out m _ HU.out i j g HG.out _ b1).mono ?_
    rintro e w2 ⟨rfl, b2⟩
    by_cases hneg : g < 0
    · go_wp2
      go_ret
      exact ⟨rfl, HBW.out.trans (b2.mono HBW.out.size)⟩
    have hok : bOk t m i j = true := by
      cases e : bOk t m i j
      · exfalso; have h9 := HG.out; rw [hiI, if_neg (by simp [e])] at h9; omega
      · rfl
    obtain ⟨hmk, hi0, hiq, hj0, hjd⟩ := bOk_iff.1 hok
    obtain ⟨a, rfl⟩ := Int.eq_ofNat_of_zero_le hi0
    obtain ⟨b, rfl⟩ := Int.eq_ofNat_of_zero_le hj0
    obtain ⟨htb, hml, hmr⟩ := mk_parts.1 hmk
    have haq : a < t.length := by omega
    have hbd : b < wd t := by omega
    have HMK := Lib.hid hmk
    have HTB := Lib.hid htb
    have HAQ := Lib.hid haq
    have HBD := Lib.hid hbd
    have HML := Lib.hid (show m.length ≤ 1000 by have := htb.h4; omega)
    have HMR := Lib.hid (show ∀ r ∈ m, r.length ≤ 100000 from fun r hr => by have := hmr r hr; have := htb.w4; omega)
    have HTL := Lib.hid (show t.length ≤ 1000 by have := htb.h4; omega)
    have HTD := Lib.hid htb.len
    have HTD6 := Lib.hid (show wd t ≤ 1000 by have := htb.w4; omega)
    have HTR := Lib.hid (show ∀ r ∈ t, r.length ≤ 100000 from fun r hr => by have := htb.len r hr; have := htb.w4; omega)
    clear hok hi0 hj0 b1
    have ht1 := htb.h1
    have ht4 := htb.h4
    have hw1 := htb.w1
    have hw4 := htb.w4
    have HT2 := Lib.hid (HT.out.below b2)
    have HU2 := Lib.hid (HU.out.below b2)
    obtain ⟨bt, ot, ct, tb, to, tc, htv, htall⟩ := HT2.out.all htb
    obtain ⟨bm, om, cm, mb, mo, mc, huv, hmall⟩ := HU2.out.all (d := wd t) (by omega) hw1 hmr
    rw [hml] at huv
    subst htv huv
    obtain ⟨q, hq⟩ : ∃ q, t.length = q := ⟨_, rfl⟩
    obtain ⟨d, hd⟩ : ∃ d, wd t = d := ⟨_, rfl⟩
    have HQ := Lib.hid hq
    have HD := Lib.hid hd
    rw [hml, hq, hd] at hmall
    rw [hq, hd] at htall
    have HTA := Lib.hid (show ∀ w', Below w2.heap.size w2 w' → w'.cell? ⟨bt, ot, none⟩ = some (.slice (some ⟨tb 0, to 0, none⟩) d (tc 0)) ∧ (∀ i, i < q → w'.cell? ⟨bt, ot + i, none⟩ = some (.slice (some ⟨tb i, to i, none⟩) d (tc i))) ∧ ∀ i j, i < q → j < d → w'.cell? ⟨tb i, to i + j, none⟩ = some (.int .i64 (cF t i j)) from
      fun w' h => ⟨(htall w' h).1 0 (by omega), htall w' h⟩)
    have HUA := Lib.hid hmall
    rw [hq] at HT2 HU2 hiq ht1 ht4 haq ⊢
    rw [hd] at hw1 hw4 hbd hjd
    have hq0i : (0 : Int) < (q : Int) := by omega
    have hq0 : 0 < q := ht1
    have HB2 := Lib.hid b2
    have HBB := Lib.hid (show ∀ w', Below w2.heap.size w2 w' → Below w.heap.size w w' from fun w' h => HBW.out.trans ((below_step HB2.out h).mono HBW.out.size))
    clear htall hmall hmk hml hmr htb hq hd b2
    obtain ⟨p, hp⟩ : ∃ p, cF t a b = p := ⟨_, rfl⟩
    have HP := Lib.hid hp
    clear hp
    have hge := (hi_ge HMK.out HAQ.out HBD.out).1
    rw [HG.out] at hge
    rw [HP.out] at hge
    obtain ⟨fb, hfb⟩ : ∃ f, hF m a b = f := ⟨_, rfl⟩
    have HFB := Lib.hid hfb
    clear hfb
    go_wp2
    go_loopw [9, 10, 11] (fun n o l wr => ∃ k x : Nat, k ≤ d ∧ l = .int .i64 k ∧ o = .int .i64 x ∧ n = .int .i64 (sm k (one01 fun x => hF m a x && !decide (x = b))) ∧ (1 ≤ sm k (one01 fun x => hF m a x && !decide (x = b)) → x < k ∧ (hF m a x && !decide (x = b)) = true) ∧ Below w2.heap.size w2 wr) (fun _ _ l _ => d - (intOf l).toNat)
    case atStart => exact ⟨0, 0, Nat.zero_le _, rfl, rfl, rfl, fun h => by simp [sm] at h, Below.refl _ _⟩
    case round =>
      obtain ⟨k, x, hk, rfl, rfl, rfl, hx, hb5⟩ := hrel
      obtain ⟨e0, hR, hC⟩ := HTA.out _ hb5
      obtain ⟨hR2, hC2⟩ := HUA.out _ hb5
      have HB5 := Lib.hid hb5
      clear hb5
      have hcnt := sm01 (fun x => hF m a x && !decide (x = b)) k
      by_cases hlt : k < d
      · have hki : (k : Int) < (d : Int) := by omega
        have r1 := hR2 a haq
        have c1 := hC2 a k haq hlt
        have hs : sm (k + 1) (one01 fun x => hF m a x && !decide (x = b)) = sm k (one01 fun x => hF m a x && !decide (x = b)) + if (hF m a k && !decide (k = b)) = true then 1 else 0 := rfl
        obtain ⟨f, hf⟩ : ∃ f, hF m a k = f := ⟨_, rfl⟩
        rw [hf] at c1 hs
        obtain ⟨s, hsx⟩ : ∃ s, sm k (one01 fun x => hF m a x && !decide (x = b)) = s := ⟨_, rfl⟩
        rw [hsx] at hs hcnt hx ⊢
        have hws : IntKind.i64.wrap (s + 1) = s + 1 := by rw [IntKind.wrap_i64] <;> omega
        have HSS := Lib.hid hs
        have HXX := Lib.hid hx
        have HF := Lib.hid hf
        clear hR hC hR2 hC2 hf hsx hs hx
        cases f
        · go_wp2
          try (go_quiet (fail); go_wp2)
          go_roundw
          case rel => exact ⟨k + 1, x, by omega, by go_num, rfl, by rw [HSS.out]; simp, fun h => by rw [HSS.out] at h; have := HXX.out (by simpa using h); exact ⟨by omega, this.2⟩, by first | exact HB5.out | exact below_drewN HB5.out _⟩
          case measure => simp [intOf]; omega
        · by_cases hkb : k = b
          · subst hkb
            go_wp2
            try (go_quiet (fail); go_wp2)
            go_roundw
            case rel => exact ⟨k + 1, x, by omega, by go_num, rfl, by rw [HSS.out]; simp, fun h => by rw [HSS.out] at h; have := HXX.out (by simpa using h); exact ⟨by omega, this.2⟩, by first | exact HB5.out | exact below_drewN HB5.out _⟩
            case measure => simp [intOf]; omega
          · have hkb1 : ¬ (k : Int) = (b : Int) := by omega
            go_wp2
            try (go_quiet (fail); go_wp2)
            go_roundw
            case rel => exact ⟨k + 1, k, by omega, by go_num, by go_num, by rw [HSS.out]; simp [hkb], fun h => ⟨by omega, by rw [HF.out]; simp [hkb]⟩, by first | exact HB5.out | exact below_drewN HB5.out _⟩
            case measure => simp [intOf]; omega
      · obtain rfl : k = d := by omega
        obtain ⟨N, hN⟩ : ∃ N, sm k (one01 fun x => hF m a x && !decide (x = b)) = N := ⟨_, rfl⟩
        rw [hN] at hx hcnt ⊢
        have r1 := hR a haq
        have r2 := hR2 a haq
        have c1 := hC a b haq hbd
        rw [HP.out] at c1
        have c2 := hC2 a b haq hbd
        rw [HFB.out] at c2
        have HNN := Lib.hid hN
        by_cases hn1 : ¬ N = 1
        · clear hx hN hR hC hR2 hC2
          go_wp2
          try (go_quiet (fail); go_wp2)
          go_ret
          exact ⟨by first | rfl | exact retb (by simp; omega), HBB.out _ (by first | exact HB5.out | exact below_drewN HB5.out _)⟩
        obtain rfl : N = 1 := by omega
        cases fb
        · clear hx hN hR hC hR2 hC2
          go_wp2
          try (go_quiet (fail); go_wp2)
          go_ret
          exact ⟨by first | rfl | exact retb (by simp; omega), HBB.out _ (by first | exact HB5.out | exact below_drewN HB5.out _)⟩
        obtain ⟨hxd, hxf⟩ := hx (by omega)
        simp only [Bool.and_eq_true, Bool.not_eq_true', decide_eq_false_iff_not] at hxf
        have hmp := m_pair HMK.out HAQ.out HBD.out (o := x) (by rw [HD.out]; exact hxd) hxf.2 (fun l hl hlb hlo => by
          have := sm01_alone (fun x => hF m a x && !decide (x = b)) (k := k) (o := x) (by rw [hN]; omega) (by simp [hxf.1, hxf.2]) hxd l (by rw [HD.out] at hl; exact hl) hlo
          simpa [hlb] using this)
        have hbd1 := HTB.out.cell HAQ.out HBD.out
        have hbd2 := HTB.out.cell (k := a) (l := x) HAQ.out (by rw [HD.out]; exact hxd)
        have hbd3 := loI_bd HMK.out HAQ.out (l := x) (by rw [HD.out]; exact hxd)
        have hbd4 := hiI_bd HMK.out HAQ.out HBD.out
        rw [HP.out] at hmp hbd1
        rw [HG.out] at hmp hbd4
        obtain ⟨p2, hp2⟩ : ∃ p, cF t a x = p := ⟨_, rfl⟩
        obtain ⟨g3, hg3⟩ : ∃ g, loI t m a x = g := ⟨_, rfl⟩
        have c3 := hC a x haq hxd
        rw [hp2] at c3 hmp hbd2
        rw [hg3] at hmp hbd3
        have HG3 := Lib.hid hg3
        have hxi : (x : Int) < (k : Int) := by omega
        have hw1 : IntKind.i64.wrap (g + g3) = p + p2 := by rw [IntKind.wrap_i64]; omega
        have hw2 : IntKind.i64.wrap (p + p2) = p + p2 := by rw [IntKind.wrap_i64]; omega
        have bd9 := (HB5.out).drew
        have b5 := HB5.out
        have hxk : x < k := hxd
        have HCE := Lib.hid (show ∀ w', Below w2.heap.size w2 w' → Below w2.heap.size w2 w' ∧ w'.cell? ⟨bt, ot + a, none⟩ = some (.slice (some ⟨tb a, to a, none⟩) k (tc a)) ∧ w'.cell? ⟨tb a, to a + b, none⟩ = some (.int .i64 p) ∧ w'.cell? ⟨tb a, to a + x, none⟩ = some (.int .i64 p2) from fun w' h => by
          have h1 := (HTA.out w' h).2.1 a haq
          have h2 := (HTA.out w' h).2.2 a b haq hbd
          have h3 := (HTA.out w' h).2.2 a x haq hxd
          rw [HP.out] at h2
          rw [hp2] at h3
          exact ⟨h, h1, h2, h3⟩)
        clear hN hR hC hR2 hC2 hx hxf
        go_wp2_with fail
        go_region_held3 (fun w' => Below w2.heap.size w2 w' ∧ w'.cell? ⟨bt, ot + a, none⟩ = some (.slice (some ⟨tb a, to a, none⟩) k (tc a)) ∧ w'.cell? ⟨tb a, to a + b, none⟩ = some (.int .i64 p) ∧ w'.cell? ⟨tb a, to a + x, none⟩ = some (.int .i64 p2))
          (first | exact HCE.out _ (by assumption) | exact HCE.out _ bd9) (first
          | (go_at_call 19
             with_reducible refine (iLow_is w2 t _ HT2.out m _ HU2.out a x g3 HG3.out _ bd9).mono ?_
             rintro e x1 ⟨rfl, z1⟩))
        all_goals
          go_wp2
          all_goals
            go_ret
            exact ⟨by first | rfl | exact retb (by simp) | exact retb (by simp; omega), HBB.out _ (by first | exact z1 | exact bd9 | assumption)⟩
end Go.Proofs.Ytpajbgkgleeifaa
