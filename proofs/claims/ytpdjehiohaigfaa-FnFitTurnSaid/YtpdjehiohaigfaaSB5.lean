/- The model's bounds: told cells. -/
import Derived.Test.YtpdjehiohaigfaaSBA
namespace Go.Proofs.Ytpdjehiohaigfaa
open Go.RowKit
set_option maxRecDepth 100000 in
set_option maxHeartbeats 2000000 in
theorem sTold_is (W : World) (t : Tb) (v : Value) (hv : IsR W v t) (m : Mk) (u : Value) (hu : IsM W u m) (i j : Int) (g : Bool) (hg : toldB t m i j = g) (w : World) (hb : Below W.heap.size W w) :
    Calls Try.prog 46 #[v, u, .int .i64 i, .int .i64 j] w (Back (.bool g) W) := by
  have HV := Lib.hid hv
  have HU := Lib.hid hu
  have HB := Lib.hid hb
  obtain ⟨h, hh⟩ : ∃ h, hiI t m i j = h := ⟨_, rfl⟩
  obtain ⟨lo, hlo⟩ : ∃ lo, loI t m i j = lo := ⟨_, rfl⟩
  obtain ⟨ok, hok⟩ : ∃ ok, bOk t m i j = ok := ⟨_, rfl⟩
  have HH := Lib.hid hh
  have HLO := Lib.hid hlo
  rw [toldB, hok, hh, hlo] at hg
  have HG := Lib.hid hg
  cases ok
  · have h1 : h = -1 := by rw [← hh]; exact hiI_no hok
    subst h1
    clear hv hu hb hok hg hh hlo
    go_enter Try.func46, Try.ntmps46
    go_wp2_with fail
    refine (sHigh_is W t _ HV.out m _ HU.out i j (-1) HH.out _ HB.out).mono ?_
    rintro e w1 ⟨rfl, b1⟩
    go_wp2
    go_ret
    exact ⟨by rw [← HG.out]; rfl, b1⟩
  obtain ⟨hmk, hi0, hiq, hj0, hjd⟩ := bOk_iff.1 hok
  obtain ⟨a, rfl⟩ := Int.eq_ofNat_of_zero_le hi0
  obtain ⟨b, rfl⟩ := Int.eq_ofNat_of_zero_le hj0
  have ht := mkT hmk
  have hS := shp_of hmk
  have haq : a < t.length := by omega
  have hbd : b < wd t := by omega
  have hbd2 := hiI_bd hmk haq hbd
  have hbd3 := loI_bd hmk haq hbd
  rw [hh] at hbd2
  rw [hlo] at hbd3
  have h14 := ht.h4
  obtain ⟨Am, cm, hum, b1, b2, b3⟩ := hu
  have hml := (mk_parts.1 hmk).2.1
  obtain ⟨bm, om, M0, d0, hM, hbm, f0, y1, y2, y3⟩ := b3.at_ a (by omega)
  obtain ⟨bm2, om2, hM2, hbm2, f2⟩ := flag_at y3 b (by rw [hS.mr a haq]; exact hbd)
  subst hM hM2
  rw [hS.mr a haq] at f0 y1
  rw [hml] at hum
  subst hum
  obtain ⟨q, hq⟩ : ∃ q, t.length = q := ⟨_, rfl⟩
  obtain ⟨d, hd⟩ : ∃ d, wd t = d := ⟨_, rfl⟩
  rw [hq] at HU haq hiq ⊢
  rw [hd] at f0 hbd hjd
  obtain ⟨fl, hfl⟩ : ∃ fl, hF m a b = fl := ⟨_, rfl⟩
  have f3 : W.cell? ⟨bm2, om2 + b, none⟩ = some (.bool fl) := by rw [← hfl]; exact f2
  have HGG := Lib.hid (show (fl && decide (lo = h)) = g by rw [← hg, ← hfl]; rfl)
  have haqn : (a : Int) < (q : Int) := by omega
  have hbdn : (b : Int) < (d : Int) := by omega
  have hh0 : 0 ≤ h := hbd2.1
  have F0 := Lib.hid f0
  have F3 := Lib.hid f3
  clear hv hb hok hg ht hmk h14 b1 b2 b3 y1 y2 y3 f2 hml hfl hi0 hj0 hiq hjd hq hd hh hlo f0 f3 hS
  go_enter Try.func46, Try.ntmps46
  go_wp2_with fail
  refine (sHigh_is W t _ HV.out m _ HU.out a b h HH.out _ HB.out).mono ?_
  rintro e w1 ⟨rfl, b1⟩
  have f0 : w1.cell? ⟨bm, om + a, none⟩ = some (.slice (some ⟨bm2, om2, none⟩) d d0) := (b1.cell (p := ⟨bm, om + a, none⟩) hbm).trans F0.out
  have f3 : w1.cell? ⟨bm2, om2 + b, none⟩ = some (.bool fl) := (b1.cell (p := ⟨bm2, om2 + b, none⟩) hbm2).trans F3.out
  cases fl
  · go_wp2
    go_ret
    exact ⟨by rw [← HGG.out]; rfl, b1⟩
  · go_wp2_with fail
    refine (sLow_is W t _ HV.out m _ HU.out a b lo HLO.out _ b1).mono ?_
    rintro e w2 ⟨rfl, b2⟩
    clear f0 f3
    go_wp2
    go_ret
    exact ⟨by rw [← HGG.out]; first | rfl | exact retb (by simp), b2⟩
/-- Is the cell told: 1 or 0. -/
noncomputable def tC (t : Tb) (m : Mk) (k l : Nat) : Int := if toldB t m k l = true then 1 else 0
theorem tC_bd (t : Tb) (m : Mk) (k l : Nat) : 0 ≤ tC t m k l ∧ tC t m k l ≤ 1 := by unfold tC; split <;> omega
theorem tC_row (t : Tb) (m : Mk) (k n : Nat) : 0 ≤ sm n (tC t m k) ∧ sm n (tC t m k) ≤ n := by
  refine ⟨sm_pos fun l _ => (tC_bd t m k l).1, ?_⟩
  have := sm_le_mul (n := n) (f := tC t m k) (c := 1) fun l _ => (tC_bd t m k l).2
  omega
theorem tC_all (t : Tb) (m : Mk) (k n : Nat) : 0 ≤ sm k (fun a => sm n (tC t m a)) ∧ sm k (fun a => sm n (tC t m a)) ≤ k * n := by
  exact ⟨sm_pos fun a _ => (tC_row t m a n).1, sm_le_mul fun a _ => (tC_row t m a n).2⟩
theorem toldN_yes {t : Tb} {m : Mk} (h : mkOk t m = true) : toldN t m = sm t.length (fun a => sm (wd t) (tC t m a)) := by unfold toldN; rw [if_pos h]; rfl
theorem toldN_no {t : Tb} {m : Mk} (h : mkOk t m = false) : toldN t m = -1 := by unfold toldN; rw [h]; rfl
set_option maxRecDepth 100000 in
set_option maxHeartbeats 2000000 in
theorem sMany_is (W : World) (t : Tb) (v : Value) (hv : IsR W v t) (m : Mk) (u : Value) (hu : IsM W u m) (g : Int) (hg : toldN t m = g) (w : World) (hb : Below W.heap.size W w) :
    Calls Try.prog 22 #[v, u] w (Back (.int .i64 g) W) := by
  have HV := Lib.hid hv
  have HU := Lib.hid hu
  have HB := Lib.hid hb
  obtain ⟨mk, hmk⟩ : ∃ mk, mkOk t m = mk := ⟨_, rfl⟩
  have HMK := Lib.hid hmk
  have HG := Lib.hid hg
  cases mk
  · have h1 : g = -1 := by rw [← hg]; exact toldN_no hmk
    subst h1
    clear hv hu hb hmk hg
    go_enter Try.func22, Try.ntmps22
    go_wp2_with fail
    refine (sMask_is W t _ HV.out m _ HU.out false HMK.out _ HB.out).mono ?_
    rintro e w1 ⟨rfl, b1⟩
    go_wp2
    go_ret
    exact ⟨rfl, b1⟩
  rw [toldN_yes hmk] at hg
  have ht := mkT hmk
  obtain ⟨A, c, hvv, a1, a2, a3⟩ := hv
  obtain ⟨bt, ot, A0, c0, hA, hbt, e0, x1, x2, x3⟩ := a3.at_ 0 ht.h1
  rw [ht.rlen ht.h1] at e0
  subst hA
  have h14 := ht.h4
  have h11 := ht.h1
  have hd4 := ht.w4
  obtain ⟨q, hq⟩ : ∃ q, t.length = q := ⟨_, rfl⟩
  obtain ⟨d, hd⟩ : ∃ d, wd t = d := ⟨_, rfl⟩
  rw [hq, hd] at hg
  rw [hd] at e0 hd4
  rw [hq] at hvv h14 h11
  subst hvv
  have E0 := Lib.hid (show W.cell? ⟨bt, ot, none⟩ = some (.slice A0 d c0) from e0)
  have HGG := Lib.hid hg
  have hq0 : (0 : Int) < (q : Int) := by omega
  have hqn : 0 < q := by omega
  clear hu hb hmk hg ht a1 a2 a3 x1 x2 x3 e0 hq hd
  go_enter Try.func22, Try.ntmps22
  go_wp2_with fail
  refine (sMask_is W t _ HV.out m _ HU.out true HMK.out _ HB.out).mono ?_
  rintro e w1 ⟨rfl, b1⟩
  have HB1 := Lib.hid b1
  clear b1
  go_wp2
  go_loopw [5, 6] (fun n i wr => ∃ k : Nat, k ≤ q ∧ i = .int .i64 k ∧ n = .int .i64 (sm k fun a => sm d (tC t m a)) ∧ Below W.heap.size W wr) (fun _ i _ => q - (intOf i).toNat)
  case atStart => exact ⟨0, Nat.zero_le _, rfl, rfl, HB1.out⟩
  case round =>
    obtain ⟨k, hk, rfl, rfl, hbr⟩ := hrel
    have HBR := Lib.hid hbr
    by_cases hlt : k < q
    · have hki : (k : Int) < (q : Int) := by omega
      have hkd : sm (k + 1) (fun a => sm d (tC t m a)) = sm k (fun a => sm d (tC t m a)) + sm d (tC t m k) := rfl
      have hb1 := tC_all t m k d
      have hkd2 : ((k : Nat) : Int) * (d : Int) ≤ 16 := by
        have h : k * d ≤ 4 * 4 := Nat.mul_le_mul (by omega) hd4
        have e : (k : Int) * (d : Int) = ((k * d : Nat) : Int) := by simp
        rw [e]; omega
      obtain ⟨s, hs⟩ : ∃ s, (sm k fun a => sm d (tC t m a)) = s := ⟨_, rfl⟩
      rw [hs] at hb1 hkd ⊢
      have HKD := Lib.hid hkd
      have hsb : 0 ≤ s ∧ s ≤ 16 := by omega
      clear hbr hkd hs hb1 hkd2
      go_wp2
      go_loopw [5, 7] (fun n j wr' => ∃ l : Nat, l ≤ d ∧ j = .int .i64 l ∧ n = .int .i64 (s + sm l (tC t m k)) ∧ Below W.heap.size W wr') (fun _ j _ => d - (intOf j).toNat)
      case atStart => exact ⟨0, Nat.zero_le _, rfl, by simp [sm], HBR.out⟩
      case round =>
        clear HBR
        obtain ⟨l, hl, rfl, rfl, hbr⟩ := hrel
        have HBR := Lib.hid hbr
        have e0 : wr.cell? ⟨bt, ot, none⟩ = some (.slice A0 d c0) := (hbr.cell (p := ⟨bt, ot, none⟩) hbt).trans E0.out
        have hrow := tC_row t m k l
        have hnext : sm (l + 1) (tC t m k) = sm l (tC t m k) + tC t m k l := rfl
        obtain ⟨r, hr⟩ : ∃ r, sm l (tC t m k) = r := ⟨_, rfl⟩
        rw [hr] at hrow hnext ⊢
        by_cases hlt2 : l < d
        · have hli : (l : Int) < (d : Int) := by omega
          obtain ⟨tb, htb⟩ : ∃ tb, toldB t m k l = tb := ⟨_, rfl⟩
          have HTB := Lib.hid htb
          have hval : tC t m k l = if tb = true then 1 else 0 := by rw [tC, htb]
          rw [hval] at hnext
          have HNX := Lib.hid hnext
          clear htb hval hnext hr hbr
          go_wp2_with fail
          refine (sTold_is W t _ HV.out m _ HU.out k l tb HTB.out _ HBR.out).mono ?_
          rintro e w5 ⟨rfl, b5⟩
          have HB5 := Lib.hid b5
          clear b5 e0
          cases tb
          · go_wp2
            go_roundw
            case rel => exact ⟨l + 1, by omega, by go_num, by rw [HNX.out]; simp, HB5.out⟩
            case measure => simp [intOf]; omega
          · go_wp2
            go_roundw
            case rel => exact ⟨l + 1, by omega, by go_num, by rw [HNX.out]; simp; go_num, HB5.out⟩
            case measure => simp [intOf]; omega
        · have hli : ¬ (l : Int) < (d : Int) := by omega
          have hld : l = d := by omega
          have HR := Lib.hid (show sm d (tC t m k) = r by rw [← hld]; exact hr)
          clear hr hnext hbr hld
          go_wp2
          go_roundw
          case rel => exact ⟨k + 1, by omega, by go_num, by rw [HKD.out, HR.out], HBR.out⟩
          case measure => simp [intOf]; omega
    · have hki : ¬ (k : Int) < (q : Int) := by omega
      have hkq : k = q := by omega
      have HE := Lib.hid (show (sm k fun a => sm d (tC t m a)) = g by rw [hkq]; exact HGG.out)
      rw [HE.out]
      clear hkq hbr
      go_wp2
      go_ret
      exact ⟨rfl, HBR.out⟩
end Go.Proofs.Ytpdjehiohaigfaa
