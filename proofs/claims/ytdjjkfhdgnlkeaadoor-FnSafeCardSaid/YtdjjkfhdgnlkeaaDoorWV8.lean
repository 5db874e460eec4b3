/- Walks of chapter 14: a safe cell. -/
import Derived.Test.YtdjjkfhdgnlkeaaDoorVIB
import Derived.Test.YtdjjkfhdgnlkeaaDoorVSA
import Derived.Test.YtdjjkfhdgnlkeaaDoorVD
import Derived.Test.YtdjjkfhdgnlkeaaDoorWN0
import Derived.Test.YtdjjkfhdgnlkeaaDoorRQ
import Derived.Deep.RegionHeld3
namespace Go.Proofs.YtdjjkfhdgnlkeaaDoor
open Go.RowKit
set_option maxRecDepth 100000 in
set_option maxHeartbeats 4000000 in
theorem w_Safe (A : Option Addr) (n c : Nat) (hnc : n ≤ c) (hn : n ≤ maxLen) (A2 : Option Addr) (n2 c2 : Nat) (_hmc : n2 ≤ c2) (hm : n2 ≤ maxLen) (w : World) (hb : Bytes w w.heap.size A n) (_hb2 : Bytes w w.heap.size A2 n2) (hT : TabW w) :
    Calls Tryd.prog 3 #[.slice A n c, .slice A2 n2 c2] w fun e w' => e = .returned (.bool true) ∧ Below w.heap.size w w' := by
  have hn2 := hn
  have hm2 := hm
  unfold maxLen at hn2 hm2
  rcases (show 1048576 < n ∨ (¬ 1048576 < n ∧ 1048576 < n2) ∨ ¬ 1048576 < n ∧ ¬ 1048576 < n2 by omega) with hbig | ⟨hbig, hbig2⟩ | ⟨hbig, hbig2⟩
  · go_enter Tryd.func3, Tryd.ntmps3
    go_wp2
    go_ret
    exact ⟨rfl, Below.refl _ _⟩
  · go_enter Tryd.func3, Tryd.ntmps3
    go_wp2
    go_ret
    exact ⟨rfl, Below.refl _ _⟩
  · go_enter Tryd.func3, Tryd.ntmps3
    go_wp2_with fail
    refine (dPSafe_any A n c hnc hn _ hb).mono ?_
    rintro e W ⟨tv, uv, t, m, i, j, N, rfl, ht, hu, hl, hlr, hml, hmr, hN, hbW⟩
    have HT := Lib.hid ht
    have HU := Lib.hid hu
    have HBW := Lib.hid hbW
    have HTW := Lib.hid (hT.below hbW)
    obtain ⟨g, hg⟩ : ∃ g, pSafe t m i j N = g := ⟨_, rfl⟩
    have HGP := Lib.hid hg
    clear hb ht hu hbW hl hlr hml hmr hg hn hT
    go_wp2_with fail
    refine (iPSafe_is W t _ HT.out m _ HU.out i j N g HGP.out _ (Below.refl _ _) HTW.out).mono ?_
    rintro e w1 ⟨rfl, b1⟩
    go_wp2_with fail
    refine (sPSafe_is W t _ HT.out m _ HU.out i j N g HGP.out _ b1).mono ?_
    rintro e w2 ⟨rfl, b2⟩
    cases g
    · go_wp2
      go_ret
      exact ⟨rfl, HBW.out.trans (b2.mono HBW.out.size)⟩
    obtain ⟨hbok, hN0, hN9, hsf⟩ := pSafe_iff.1 HGP.out
    obtain ⟨hmk, hi0, hiq, hj0, hjd⟩ := bOk_iff.1 hbok
    obtain ⟨a, rfl⟩ := Int.eq_ofNat_of_zero_le hi0
    obtain ⟨b, rfl⟩ := Int.eq_ofNat_of_zero_le hj0
    simp only [Int.toNat_natCast] at hsf
    have HSF := Lib.hid hsf
    have HMK := Lib.hid hmk
    have htb := mk_tab hmk
    have HTB := Lib.hid htb
    have haq : a < t.length := by omega
    have hbd : b < wd t := by omega
    have HAQ := Lib.hid haq
    have HBD := Lib.hid hbd
    clear hbok hi0 hj0 b1 hsf
    have HT2 := Lib.hid (HT.out.below b2)
    have HU2 := Lib.hid (HU.out.below b2)
    have HTW2 := Lib.hid (HTW.out.below b2)
    have ht1 := htb.h1
    have ht4 := htb.h4
    have hw1 := htb.w1
    have hw4 := htb.w4
    obtain ⟨_, hml, hmr⟩ := mk_parts.1 hmk
    obtain ⟨bt, ot, ct, tb, to, tc, htv, htall⟩ := HT2.out.all htb
    obtain ⟨bm, om, cm, mb, mo, mc, huv, hmall⟩ := HU2.out.all (d := wd t) (by omega) hw1 hmr
    rw [hml] at huv
    subst htv huv
    obtain ⟨q, hq⟩ : ∃ q, t.length = q := ⟨_, rfl⟩
    obtain ⟨d, hd⟩ : ∃ d, wd t = d := ⟨_, rfl⟩
    have HQ := Lib.hid hq
    have HD := Lib.hid hd
    rw [hml, hq, hd] at hmall
    rw [hq, hd] at htall
    have HTA := Lib.hid (show ∀ w', Below w2.heap.size w2 w' → w'.cell? ⟨bt, ot, none⟩ = some (.slice (some ⟨tb 0, to 0, none⟩) d (tc 0)) ∧ (∀ i, i < q → w'.cell? ⟨bt, ot + i, none⟩ = some (.slice (some ⟨tb i, to i, none⟩) d (tc i))) ∧ ∀ i j, i < q → j < d → w'.cell? ⟨tb i, to i + j, none⟩ = some (.int .i64 (cF t i j)) from
      fun w' h => ⟨(htall w' h).1 0 (by omega), htall w' h⟩)
    have HUA := Lib.hid hmall
    rw [hq] at HT2 HU2 ht1 ht4 ⊢
    rw [hd] at hw1 hw4
    have hq0i : (0 : Int) < (q : Int) := by omega
    have hq0 : 0 < q := ht1
    have hd0 : 0 < d := hw1
    have HB2 := Lib.hid b2
    have HBB := Lib.hid (show ∀ w', Below w2.heap.size w2 w' → Below w.heap.size w w' from fun w' h => HBW.out.trans ((below_step HB2.out h).mono HBW.out.size))
    clear htall hmall hmk hml hmr htb hq hd b2
    rw [HQ.out] at haq
    rw [HD.out] at hbd
    obtain ⟨M, hM⟩ : ∃ M, (n2 : Int).tmod (N + 1) = M := ⟨_, rfl⟩
    have hM2 : (n2 : Int) % (N + 1) = M := by rw [← hM, Int.tmod_eq_emod_of_nonneg (by omega)]
    have hM0 : 0 ≤ M := by rw [← hM2]; exact Int.emod_nonneg _ (by omega)
    have hM1 : M < N + 1 := by rw [← hM2]; exact Int.emod_lt_of_pos _ (by omega)
    have hwn : IntKind.i64.wrap (N + 1) = N + 1 := by rw [IntKind.wrap_i64] <;> omega
    have hnz : ¬ N + 1 = 0 := by omega
    have hki : (a : Int) < (q : Int) := by omega
    have hli : (b : Int) < (d : Int) := by omega
    obtain ⟨hs1, hs2, hs3⟩ := safB_iff.1 HSF.out
    have hcl := HTB.out.cell HAQ.out HBD.out
    obtain ⟨y, hy⟩ : ∃ y, cF t a b = y := ⟨_, rfl⟩
    obtain ⟨hi, hhi⟩ : ∃ z, hiI t m a b = z := ⟨_, rfl⟩
    obtain ⟨lo, hlo⟩ : ∃ z, loI t m a b = z := ⟨_, rfl⟩
    rw [hy, hhi] at hs2
    rw [hy, hlo] at hs3
    rw [hy] at hcl
    have HG1 := Lib.hid ((pSafe_nat HMK.out HAQ.out HBD.out hM0 (by omega)).trans (safB_less HSF.out (by omega)))
    have HHI := Lib.hid hhi
    have HLO := Lib.hid hlo
    have HY := Lib.hid hy
    have HS1 := Lib.hid hs1
    have HS2 := Lib.hid hs2
    have HS3 := Lib.hid hs3
    have r1 := (HTA.out _ (Below.refl _ _)).2.1 a haq
    have c1 := (HTA.out _ (Below.refl _ _)).2.2 a b haq hbd
    rw [hy] at c1
    clear hy hhi hlo hs1 hs2 hs3
    go_wp2_with fail
    refine (iPSafe_is w2 t _ HT2.out m _ HU2.out a b M true HG1.out _ (Below.refl _ _) HTW2.out).mono ?_
    rintro e y1 ⟨rfl, k1⟩
    have HK1 := Lib.hid k1
    have r2 := (HUA.out _ k1).1 a haq
    have c2 := (HUA.out _ k1).2 a b haq hbd
    rw [HS1.out] at c2
    clear r1 c1 k1
    go_wp2_with fail
    refine (iHigh_is w2 t _ HT2.out m _ HU2.out a b hi HHI.out _ HK1.out).mono ?_
    rintro e y2 ⟨rfl, k2⟩
    clear r2 c2
    have hge : y + N ≤ hi := HS2.out
    have hw1 : IntKind.i64.wrap (y + N) = y + N := by rw [IntKind.wrap_i64] <;> omega
    have hw2 : IntKind.i64.wrap (y - N) = y - N := by rw [IntKind.wrap_i64] <;> omega
    go_wp2_with fail
    refine (iLow_is w2 t _ HT2.out m _ HU2.out a b lo HLO.out _ k2).mono ?_
    rintro e y3 ⟨rfl, k3⟩
    have HK := Lib.hid (HBB.out _ k3)
    have hs3 := HS3.out
    clear k2 k3 hge
    by_cases hp0 : 0 < y - N
    · have hle : lo ≤ y - N := by omega
      go_wp2
      all_goals
        go_ret
        exact ⟨by first | rfl | exact retb (by simp) | exact retb (by simp; omega), HK.out⟩
    · have hle : lo ≤ 0 := by omega
      go_wp2
      all_goals
        go_ret
        exact ⟨by first | rfl | exact retb (by simp) | exact retb (by simp; omega), HK.out⟩
end Go.Proofs.YtdjjkfhdgnlkeaaDoor
