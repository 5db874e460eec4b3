/- A law of chapter 13: HighRow. -/
import Derived.Test.YtpajbgkgleeifaaWN0
import Derived.Deep.RegionHeld3
import Derived.Test.YtpajbgkgleeifaaWL0
namespace Go.Proofs.Ytpajbgkgleeifaa
open Go.RowKit
set_option maxRecDepth 100000 in
set_option maxHeartbeats 4000000 in
theorem w_HighRow (A : Option Addr) (n c : Nat) (hnc : n ≤ c) (hn : n ≤ maxLen) (w : World) (hb : Bytes w w.heap.size A n) :
    Calls Try.prog 12 #[.slice A n c] w fun e w' => e = .returned (.bool true) ∧ Below w.heap.size w w' := by
  have hn2 := hn
  unfold maxLen at hn2
  rcases (show 1048576 < n ∨ ¬ 1048576 < n by omega) with hbig | hbig
  · go_enter Try.func12, Try.ntmps12
    go_wp2
    go_ret
    exact ⟨rfl, Below.refl _ _⟩
  · go_enter Try.func12, Try.ntmps12
    go_wp2_with fail
    refine (dBoundHigh_any A n c hnc hn _ hb).mono ?_
    rintro e W ⟨tv, uv, t, m, i, j, rfl, ht, hu, hl, hlr, hml, hmr, hbW⟩
    have HT := Lib.hid ht
    have HU := Lib.hid hu
    have HBW := Lib.hid hbW
    obtain ⟨g, hg⟩ : ∃ g, hiI t m i j = g := ⟨_, rfl⟩
    have HG := Lib.hid hg
    clear hb ht hu hbW hl hlr hml hmr hg hn
    go_wp2_with fail
    refine (iHigh_is W t _ HT.out m _ HU.out i j g HG.out _ (Below.refl _ _)).mono ?_
    rintro e w1 ⟨rfl, b1⟩
    go_wp2_with fail
    refine (sHigh_is W t _ HT.out m _ HU.out i j g HG.out _ b1).mono ?_
    rintro e w2 ⟨rfl, b2⟩
    by_cases hneg : g < 0
    · go_wp2
      go_ret
      exact ⟨rfl, HBW.out.trans (b2.mono HBW.out.size)⟩
    have hok : bOk t m i j = true := by
      cases e : bOk t m i j
      · exfalso; have h9 := HG.out; rw [hiI, if_neg (by simp [e])] at h9; omega
      · rfl
    obtain ⟨hmk, hi0, hiq, hj0, hjd⟩ := bOk_iff.1 hok
    obtain ⟨a, rfl⟩ := Int.eq_ofNat_of_zero_le hi0
    obtain ⟨b, rfl⟩ := Int.eq_ofNat_of_zero_le hj0
    obtain ⟨htb, hml, hmr⟩ := mk_parts.1 hmk
    have haq : a < t.length := by omega
    have hbd : b < wd t := by omega
    have HMK := Lib.hid hmk
    have HTB := Lib.hid htb
    have HAQ := Lib.hid haq
    have HBD := Lib.hid hbd
    have HML := Lib.hid (show m.length ≤ 1000 by have := htb.h4; omega)
    have HMR := Lib.hid (show ∀ r ∈ m, r.length ≤ 100000 from fun r hr => by have := hmr r hr; have := htb.w4; omega)
    have HTL := Lib.hid (show t.length ≤ 1000 by have := htb.h4; omega)
    have HTD := Lib.hid htb.len
    have HTD6 := Lib.hid (show wd t ≤ 1000 by have := htb.w4; omega)
    have HTR := Lib.hid (show ∀ r ∈ t, r.length ≤ 100000 from fun r hr => by have := htb.len r hr; have := htb.w4; omega)
    clear hok hi0 hj0 b1
    have ht1 := htb.h1
    have ht4 := htb.h4
    have hw1 := htb.w1
    have hw4 := htb.w4
    have HT2 := Lib.hid (HT.out.below b2)
    have HU2 := Lib.hid (HU.out.below b2)
    obtain ⟨bt, ot, ct, tb, to, tc, htv, htall⟩ := HT2.out.all htb
    obtain ⟨bm, om, cm, mb, mo, mc, huv, hmall⟩ := HU2.out.all (d := wd t) (by omega) hw1 hmr
    rw [hml] at huv
    subst htv huv
    obtain ⟨q, hq⟩ : ∃ q, t.length = q := ⟨_, rfl⟩
    obtain ⟨d, hd⟩ : ∃ d, wd t = d := ⟨_, rfl⟩
    have HQ := Lib.hid hq
    have HD := Lib.hid hd
    rw [hml, hq, hd] at hmall
    rw [hq, hd] at htall
    have HTA := Lib.hid (show ∀ w', Below w2.heap.size w2 w' → w'.cell? ⟨bt, ot, none⟩ = some (.slice (some ⟨tb 0, to 0, none⟩) d (tc 0)) ∧ (∀ i, i < q → w'.cell? ⟨bt, ot + i, none⟩ = some (.slice (some ⟨tb i, to i, none⟩) d (tc i))) ∧ ∀ i j, i < q → j < d → w'.cell? ⟨tb i, to i + j, none⟩ = some (.int .i64 (cF t i j)) from
      fun w' h => ⟨(htall w' h).1 0 (by omega), htall w' h⟩)
    have HUA := Lib.hid hmall
    rw [hq] at HT2 HU2 hiq ht1 ht4 haq ⊢
    rw [hd] at hw1 hw4 hbd hjd
    have hq0i : (0 : Int) < (q : Int) := by omega
    have hq0 : 0 < q := ht1
    have HB2 := Lib.hid b2
    have HBB := Lib.hid (show ∀ w', Below w2.heap.size w2 w' → Below w.heap.size w w' from fun w' h => HBW.out.trans ((below_step HB2.out h).mono HBW.out.size))
    clear htall hmall hmk hml hmr htb hq hd b2
    obtain ⟨p, hp⟩ : ∃ p, cF t a b = p := ⟨_, rfl⟩
    have HP := Lib.hid hp
    clear hp
    obtain ⟨S, hS⟩ : ∃ S, (t.getD a []).sum = S := ⟨_, rfl⟩
    have hrI := HT2.out.rowI (by rw [HQ.out]; exact haq) ((HTA.out w2 (Below.refl _ _)).2.1 a haq)
    have HRI := Lib.hid hrI
    have HS := Lib.hid hS
    have hRS := rsum_getD t (i := a) (by rw [HQ.out]; exact haq)
    rw [hS] at hRS
    have HRS := Lib.hid hRS
    have HRL := Lib.hid (show (t.getD a []).length ≤ 1000 by have := HTD6.out; rw [HTB.out.len _ (by rw [getD_of _ _ HAQ.out]; exact List.getElem_mem _)]; exact this)
    have HRB := Lib.hid (show ∀ y ∈ t.getD a [], 0 ≤ y ∧ y ≤ 1000000 from fun y hy => by
      have := HTB.out.bd _ (show t.getD a [] ∈ t by rw [getD_of _ _ HAQ.out]; exact List.getElem_mem _) y hy
      omega)
    clear hrI hS hRS
    go_wp2
    go_loopw [9, 10, 11] (fun x y l wr => ∃ k : Nat, k ≤ d ∧ l = .int .i64 k ∧ x = .int .i64 (sm k fun l => if l = b then 0 else loI t m a l) ∧ y = .int .i64 (sm k fun l => if l = b then 0 else hiI t m a l) ∧ Below w2.heap.size w2 wr) (fun _ _ l _ => d - (intOf l).toNat)
    case atStart => exact ⟨0, Nat.zero_le _, rfl, rfl, rfl, Below.refl _ _⟩
    case round =>
      obtain ⟨k, hk, rfl, rfl, rfl, hb5⟩ := hrel
      obtain ⟨e0, hR, hC⟩ := HTA.out _ hb5
      have HB5 := Lib.hid hb5
      clear hb5
      have hlb := sm_bdC (fun l => if l = b then 0 else loI t m a l) 396 k (fun i hi => by
        have := loI_bd HMK.out HAQ.out (l := i) (by rw [HD.out]; omega)
        show 0 ≤ (if i = b then 0 else loI t m a i) ∧ (if i = b then 0 else loI t m a i) ≤ 396
        split <;> omega)
      have hhb := sm_bdC (fun l => if l = b then 0 else hiI t m a l) 396 k (fun i hi => by
        have := hiI_bd HMK.out HAQ.out (l := i) (by rw [HD.out]; omega)
        show 0 ≤ (if i = b then 0 else hiI t m a i) ∧ (if i = b then 0 else hiI t m a i) ≤ 396
        split <;> omega)
      have hk4 : (396 : Int) * k ≤ 1584 := by have : (k : Int) ≤ 4 := by omega
                                              omega
      by_cases hlt : k < d
      · have hki : (k : Int) < (d : Int) := by omega
        have hs1 : (sm (k + 1) fun l => if l = b then 0 else loI t m a l) = (sm k fun l => if l = b then 0 else loI t m a l) + if k = b then 0 else loI t m a k := rfl
        have hs2 : (sm (k + 1) fun l => if l = b then 0 else hiI t m a l) = (sm k fun l => if l = b then 0 else hiI t m a l) + if k = b then 0 else hiI t m a k := rfl
        have hb1 := loI_bd HMK.out HAQ.out (l := k) (by rw [HD.out]; exact hlt)
        have hb2 := hiI_bd HMK.out HAQ.out (l := k) (by rw [HD.out]; exact hlt)
        obtain ⟨s1, hsx1⟩ : ∃ s, (sm k fun l => if l = b then 0 else loI t m a l) = s := ⟨_, rfl⟩
        obtain ⟨s2, hsx2⟩ : ∃ s, (sm k fun l => if l = b then 0 else hiI t m a l) = s := ⟨_, rfl⟩
        obtain ⟨y1, hy1⟩ : ∃ y, loI t m a k = y := ⟨_, rfl⟩
        obtain ⟨y2, hy2⟩ : ∃ y, hiI t m a k = y := ⟨_, rfl⟩
        rw [hy1] at hs1 hb1
        rw [hy2] at hs2 hb2
        rw [hsx1] at hs1 hlb ⊢
        rw [hsx2] at hs2 hhb ⊢
        have HS1 := Lib.hid hs1
        have HS2 := Lib.hid hs2
        have HY1 := Lib.hid hy1
        have HY2 := Lib.hid hy2
        clear hC hs1 hs2 hsx1 hsx2 hy1 hy2
        by_cases hkb : k = b
        · have hkb1 : (k : Int) = (b : Int) := by omega
          clear hR
          go_wp2
          go_roundw
          case rel => exact ⟨k + 1, by omega, by go_num, by rw [HS1.out]; simp [hkb], by rw [HS2.out]; simp [hkb], HB5.out⟩
          case measure => simp [intOf]; omega
        · have hkb1 : ¬ (k : Int) = (b : Int) := by omega
          have hw1 : IntKind.i64.wrap (s1 + y1) = s1 + y1 := by rw [IntKind.wrap_i64] <;> omega
          have hw2 : IntKind.i64.wrap (s2 + y2) = s2 + y2 := by rw [IntKind.wrap_i64] <;> omega
          clear hR
          go_wp2_with fail
          refine (iLow_is w2 t _ HT2.out m _ HU2.out a k y1 HY1.out _ HB5.out).mono ?_
          rintro e x1 ⟨rfl, z1⟩
          clear e0
          go_wp2_with fail
          refine (iHigh_is w2 t _ HT2.out m _ HU2.out a k y2 HY2.out _ z1).mono ?_
          rintro e x2 ⟨rfl, z2⟩
          go_wp2
          go_roundw
          case rel => exact ⟨k + 1, by omega, by go_num, by rw [HS1.out]; simp [hkb], by rw [HS2.out]; simp [hkb], z2⟩
          case measure => simp [intOf]; omega
      · obtain rfl : k = d := by omega
        have hroom := m_room HMK.out HAQ.out HBD.out
        rw [HD.out, HRS.out, HG.out] at hroom
        obtain ⟨s1, hsx1⟩ : ∃ s, (sm k fun l => if l = b then 0 else loI t m a l) = s := ⟨_, rfl⟩
        obtain ⟨s2, hsx2⟩ : ∃ s, (sm k fun l => if l = b then 0 else hiI t m a l) = s := ⟨_, rfl⟩
        obtain ⟨y1, hy1⟩ : ∃ y, loI t m a b = y := ⟨_, rfl⟩
        rw [hsx1] at hlb hroom ⊢
        rw [hsx2] at hhb hroom ⊢
        rw [hy1] at hroom
        have HY1 := Lib.hid hy1
        have hSb := sum_bdL _ HRB.out
        rw [HS.out] at hSb
        have hSb2 : 0 ≤ S ∧ S ≤ 1000000000 := by have := HRL.out; omega
        have hw1 : IntKind.i64.wrap (S - s1) = S - s1 := by rw [IntKind.wrap_i64] <;> omega
        have hw2 : IntKind.i64.wrap (S - s2) = S - s2 := by rw [IntKind.wrap_i64] <;> omega
        have r1 := hR a haq
        clear hsx1 hsx2 hy1 hSb hC hR
        go_wp2_with fail
        refine (lSum_is w2 _ _ HRI.out HRB.out HRL.out S HS.out _ HB5.out).mono ?_
        rintro e x1 ⟨rfl, z1⟩
        clear e0 r1
        obtain ⟨hr1, hr2⟩ := hroom
        go_wp2_with fail
        refine (iLow_is w2 t _ HT2.out m _ HU2.out a b y1 HY1.out _ z1).mono ?_
        rintro e x2 ⟨rfl, z2⟩
        go_wp2
        go_ret
        exact ⟨by first | rfl | exact retb (by simp) | exact retb (by simp; omega), HBB.out _ z2⟩
end Go.Proofs.Ytpajbgkgleeifaa
