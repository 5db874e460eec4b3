/- A law of chapter 13: HighZero. -/
import Derived.Test.YtpdjehiohaigfaaWN0
import Derived.Deep.RegionHeld3
import Derived.Test.YtpdjehiohaigfaaWL0
namespace Go.Proofs.Ytpdjehiohaigfaa
open Go.RowKit
set_option maxRecDepth 100000 in
set_option maxHeartbeats 4000000 in
theorem w_HighZero (A : Option Addr) (n c : Nat) (hnc : n ≤ c) (hn : n ≤ maxLen) (w : World) (hb : Bytes w w.heap.size A n) :
    Calls Try.prog 12 #[.slice A n c] w fun e w' => e = .returned (.bool true) ∧ Below w.heap.size w w' := by
  have hn2 := hn
  unfold maxLen at hn2
  rcases (show 1048576 < n ∨ ¬ 1048576 < n by omega) with hbig | hbig
  · go_enter Try.func12, Try.ntmps12
    go_wp2
    go_ret
    exact ⟨rfl, Below.refl _ _⟩
  · go_enter Try.func12, Try.ntmps12
    go_wp2_with fail
    refine (dBoundHigh_any A n c hnc hn _ hb).mono ?_
    rintro e W ⟨tv, uv, t, m, i, j, rfl, ht, hu, hl, hlr, hml, hmr, hbW⟩
    have HT := Lib.hid ht
    have HU := Lib.hid hu
    have HBW := Lib.hid hbW
    obtain ⟨g, hg⟩ : ∃ g, hiI t m i j = g := ⟨_, rfl⟩
    have HG := Lib.hid hg
    clear hb ht hu hbW hl hlr hml hmr hg hn
    go_wp2_with fail
    refine (iHigh_is W t _ HT.out m _ HU.out i j g HG.out _ (Below.refl _ _)).mono ?_
    rintro e w1 ⟨rfl, b1⟩
    go_wp2_with fail
    refine (sHigh_is W t _ HT.out m _ HU.out i j g HG.out _ b1).mono ?_
    rintro e w2 ⟨rfl, b2⟩
    by_cases hneg : g < 0
    · go_wp2
      go_ret
      exact ⟨rfl, HBW.out.trans (b2.mono HBW.out.size)⟩
    have hok : bOk t m i j = true := by
      cases e : bOk t m i j
      · exfalso; have h9 := HG.out; rw [hiI, if_neg (by simp [e])] at h9; omega
      · rfl
    obtain ⟨hmk, hi0, hiq, hj0, hjd⟩ := bOk_iff.1 hok
    obtain ⟨a, rfl⟩ := Int.eq_ofNat_of_zero_le hi0
    obtain ⟨b, rfl⟩ := Int.eq_ofNat_of_zero_le hj0
    obtain ⟨htb, hml, hmr⟩ := mk_parts.1 hmk
    have haq : a < t.length := by omega
    have hbd : b < wd t := by omega
    have HMK := Lib.hid hmk
    have HTB := Lib.hid htb
    have HAQ := Lib.hid haq
    have HBD := Lib.hid hbd
    have HML := Lib.hid (show m.length ≤ 1000 by have := htb.h4; omega)
    have HMR := Lib.hid (show ∀ r ∈ m, r.length ≤ 100000 from fun r hr => by have := hmr r hr; have := htb.w4; omega)
    have HTL := Lib.hid (show t.length ≤ 1000 by have := htb.h4; omega)
    have HTD := Lib.hid htb.len
    have HTD6 := Lib.hid (show wd t ≤ 1000 by have := htb.w4; omega)
    have HTR := Lib.hid (show ∀ r ∈ t, r.length ≤ 100000 from fun r hr => by have := htb.len r hr; have := htb.w4; omega)
    clear hok hi0 hj0 b1
    have ht1 := htb.h1
    have ht4 := htb.h4
    have hw1 := htb.w1
    have hw4 := htb.w4
    have HT2 := Lib.hid (HT.out.below b2)
    have HU2 := Lib.hid (HU.out.below b2)
    obtain ⟨bt, ot, ct, tb, to, tc, htv, htall⟩ := HT2.out.all htb
    obtain ⟨bm, om, cm, mb, mo, mc, huv, hmall⟩ := HU2.out.all (d := wd t) (by omega) hw1 hmr
    rw [hml] at huv
    subst htv huv
    obtain ⟨q, hq⟩ : ∃ q, t.length = q := ⟨_, rfl⟩
    obtain ⟨d, hd⟩ : ∃ d, wd t = d := ⟨_, rfl⟩
    have HQ := Lib.hid hq
    have HD := Lib.hid hd
    rw [hml, hq, hd] at hmall
    rw [hq, hd] at htall
    have HTA := Lib.hid (show ∀ w', Below w2.heap.size w2 w' → w'.cell? ⟨bt, ot, none⟩ = some (.slice (some ⟨tb 0, to 0, none⟩) d (tc 0)) ∧ (∀ i, i < q → w'.cell? ⟨bt, ot + i, none⟩ = some (.slice (some ⟨tb i, to i, none⟩) d (tc i))) ∧ ∀ i j, i < q → j < d → w'.cell? ⟨tb i, to i + j, none⟩ = some (.int .i64 (cF t i j)) from
      fun w' h => ⟨(htall w' h).1 0 (by omega), htall w' h⟩)
    have HUA := Lib.hid hmall
    rw [hq] at HT2 HU2 hiq ht1 ht4 haq ⊢
    rw [hd] at hw1 hw4 hbd hjd
    have hq0i : (0 : Int) < (q : Int) := by omega
    have hq0 : 0 < q := ht1
    have HB2 := Lib.hid b2
    have HBB := Lib.hid (show ∀ w', Below w2.heap.size w2 w' → Below w.heap.size w w' from fun w' h => HBW.out.trans ((below_step HB2.out h).mono HBW.out.size))
    clear htall hmall hmk hml hmr htb hq hd b2
    obtain ⟨p, hp⟩ : ∃ p, cF t a b = p := ⟨_, rfl⟩
    have HP := Lib.hid hp
    clear hp
    obtain ⟨S, hS⟩ : ∃ S, (t.getD a []).sum = S := ⟨_, rfl⟩
    have hrI := HT2.out.rowI (by rw [HQ.out]; exact haq) ((HTA.out w2 (Below.refl _ _)).2.1 a haq)
    have HRI := Lib.hid hrI
    have HS := Lib.hid hS
    have hRS := rsum_getD t (i := a) (by rw [HQ.out]; exact haq)
    rw [hS] at hRS
    have HRS := Lib.hid hRS
    have HRL := Lib.hid (show (t.getD a []).length ≤ 1000 by have := HTD6.out; rw [HTB.out.len _ (by rw [getD_of _ _ HAQ.out]; exact List.getElem_mem _)]; exact this)
    have HRB := Lib.hid (show ∀ y ∈ t.getD a [], 0 ≤ y ∧ y ≤ 1000000 from fun y hy => by
      have := HTB.out.bd _ (show t.getD a [] ∈ t by rw [getD_of _ _ HAQ.out]; exact List.getElem_mem _) y hy
      omega)
    clear hrI hS hRS
    go_wp2
    go_loopw [9, 10] (fun x l wr => ∃ k : Nat, k ≤ d ∧ l = .int .i64 k ∧ x = .int .i64 (sm k fun l => if hF m a l = true ∧ l ≠ b then cF t a l else 0) ∧ Below w2.heap.size w2 wr) (fun _ l _ => d - (intOf l).toNat)
    case atStart => exact ⟨0, Nat.zero_le _, rfl, rfl, Below.refl _ _⟩
    case round =>
      obtain ⟨k, hk, rfl, rfl, hb5⟩ := hrel
      obtain ⟨e0, hR, hC⟩ := HTA.out _ hb5
      obtain ⟨hR2, hC2⟩ := HUA.out _ hb5
      have HB5 := Lib.hid hb5
      clear hb5
      have hzb := sm_bdC (fun l => if hF m a l = true ∧ l ≠ b then cF t a l else 0) 99 k (fun i hi => by
        have := HTB.out.cell (k := a) (l := i) HAQ.out (by rw [HD.out]; omega)
        show 0 ≤ (if hF m a i = true ∧ i ≠ b then cF t a i else 0) ∧ (if hF m a i = true ∧ i ≠ b then cF t a i else 0) ≤ 99
        split <;> omega)
      have hk4 : (99 : Int) * k ≤ 400 := by have : (k : Int) ≤ 4 := by omega
                                            omega
      by_cases hlt : k < d
      · have hki : (k : Int) < (d : Int) := by omega
        have hs1 : (sm (k + 1) fun l => if hF m a l = true ∧ l ≠ b then cF t a l else 0) = (sm k fun l => if hF m a l = true ∧ l ≠ b then cF t a l else 0) + if hF m a k = true ∧ k ≠ b then cF t a k else 0 := rfl
        obtain ⟨s1, hsx1⟩ : ∃ s, (sm k fun l => if hF m a l = true ∧ l ≠ b then cF t a l else 0) = s := ⟨_, rfl⟩
        have hcb := HTB.out.cell (k := a) (l := k) HAQ.out (by rw [HD.out]; omega)
        have r1 := hR a haq
        have r2 := hR2 a haq
        have c1 := hC a k haq hlt
        have c2 := hC2 a k haq hlt
        obtain ⟨y1, hy1⟩ : ∃ y, cF t a k = y := ⟨_, rfl⟩
        obtain ⟨f, hf⟩ : ∃ f, hF m a k = f := ⟨_, rfl⟩
        rw [hy1] at hs1 hcb c1
        rw [hf] at hs1 c2
        rw [hsx1] at hs1 hzb ⊢
        have HS1 := Lib.hid hs1
        have hw1 : IntKind.i64.wrap (s1 + y1) = s1 + y1 := by rw [IntKind.wrap_i64] <;> omega
        clear hC hs1 hsx1 hy1 hf hR hR2 hC2
        cases f
        · go_wp2
          try (go_quiet (fail); go_wp2)
          go_roundw
          case rel => exact ⟨k + 1, by omega, by go_num, by rw [HS1.out]; simp, by first | exact HB5.out | exact below_drewN HB5.out _⟩
          case measure => simp [intOf]; omega
        · by_cases hkb : k = b
          · subst hkb
            go_wp2
            try (go_quiet (fail); go_wp2)
            go_roundw
            case rel => exact ⟨k + 1, by omega, by go_num, by rw [HS1.out]; simp, by first | exact HB5.out | exact below_drewN HB5.out _⟩
            case measure => simp [intOf]; omega
          · have hkb1 : ¬ (k : Int) = (b : Int) := by omega
            go_wp2
            try (go_quiet (fail); go_wp2)
            go_roundw
            case rel => exact ⟨k + 1, by omega, by go_num, by rw [HS1.out]; simp [hkb], by first | exact HB5.out | exact below_drewN HB5.out _⟩
            case measure => simp [intOf]; omega
      · obtain rfl : d = k := by omega
        obtain ⟨Z, hZ⟩ : ∃ s, (sm d fun l => if hF m a l = true ∧ l ≠ b then cF t a l else 0) = s := ⟨_, rfl⟩
        rw [hZ] at hzb ⊢
        have hz0 : S ≤ 0 → g = 0 := fun h => by
          have := m_zero HMK.out HAQ.out HBD.out (by rw [HRS.out]; exact h)
          rw [HG.out] at this; exact this
        have hz1 : Z ≤ 0 → g = p := fun h => by
          have := m_rest HMK.out HAQ.out HBD.out (by rw [HD.out, hZ]; exact h)
          rw [HG.out, HP.out] at this; exact this
        have r1 := hR a haq
        have hb5 := HB5.out
        have HZ0 := Lib.hid hz0
        have HZ1 := Lib.hid hz1
        clear hC hR hR2 hC2 hZ hz0 hz1 hzb hk4
        go_wp2_with fail
        refine (lSum_is w2 _ _ HRI.out HRB.out HRL.out S HS.out _ ?_).mono ?_
        · first | exact HB5.out | exact HB5.out.drew
        rintro e x1 ⟨rfl, z1⟩
        have hz0 := HZ0.out
        have hz1 := HZ1.out
        have c1 := (HTA.out _ z1).2.2 a b haq hbd
        have r1 := (HTA.out _ z1).2.1 a haq
        rw [HP.out] at c1
        by_cases hS1 : 0 < S
        · by_cases hZ1 : 0 < Z
          · clear hz0 hz1
            go_wp2
            try (go_quiet (fail); go_wp2)
            all_goals
              go_ret
              exact ⟨by first | rfl | exact retb (by simp) | exact retb (by simp; omega), HBB.out _ (by first | exact z1 | exact below_drewN z1 _)⟩
          · have hgp := hz1 (by omega)
            subst hgp
            clear hz0 hz1
            go_wp2
            try (go_quiet (fail); go_wp2)
            all_goals
              go_ret
              exact ⟨by first | rfl | exact retb (by simp) | exact retb (by simp; omega), HBB.out _ (by first | exact z1 | exact below_drewN z1 _)⟩
        · have hg0 := hz0 (by omega)
          subst hg0
          by_cases hZ1 : 0 < Z
          · clear hz0 hz1
            go_wp2
            try (go_quiet (fail); go_wp2)
            all_goals
              go_ret
              exact ⟨by first | rfl | exact retb (by simp) | exact retb (by simp; omega), HBB.out _ (by first | exact z1 | exact below_drewN z1 _)⟩
          · have hgp := hz1 (by omega)
            subst hgp
            clear hz0 hz1
            go_wp2
            try (go_quiet (fail); go_wp2)
            all_goals
              go_ret
              exact ⟨by first | rfl | exact retb (by simp) | exact retb (by simp; omega), HBB.out _ (by first | exact z1 | exact below_drewN z1 _)⟩
end Go.Proofs.Ytpdjehiohaigfaa
