/- Laws of chapter 14: a step hides more. -/
import Derived.Test.YtobgceebolmfcaaDoorVI14
import Derived.Test.YtobgceebolmfcaaDoorVSA
import Derived.Test.YtobgceebolmfcaaDoorVD
import Derived.Test.YtobgceebolmfcaaDoorWN0
import Derived.Test.YtobgceebolmfcaaDoorTLA
import Derived.Test.YtobgceebolmfcaaDoorWL0
namespace Go.Proofs.YtobgceebolmfcaaDoor
open Go.RowKit
set_option maxRecDepth 100000 in
set_option maxHeartbeats 4000000 in
theorem w_PatternStep (A : Option Addr) (n c : Nat) (hnc : n ≤ c) (hn : n ≤ maxLen) (w : World) (hb : Bytes w w.heap.size A n) (hT : TabW w) :
    Calls Tryd.prog 3 #[.slice A n c] w fun e w' => e = .returned (.bool true) ∧ Below w.heap.size w w' := by
  have hn2 := hn
  unfold maxLen at hn2
  rcases (show 1048576 < n ∨ ¬ 1048576 < n by omega) with hbig | hbig
  · go_enter Tryd.func3, Tryd.ntmps3
    go_wp2
    go_ret
    exact ⟨rfl, Below.refl _ _⟩
  · go_enter Tryd.func3, Tryd.ntmps3
    go_wp2_with fail
    refine (dPStep_any A n c hnc hn _ hb).mono ?_
    rintro e W ⟨tv, fv, mv, t, f, m, N, rfl, ht, hf, hm, hl, hlr, hN, hbW⟩
    have HT := Lib.hid ht
    have HF := Lib.hid hf
    have HU := Lib.hid hm
    have HB := Lib.hid hbW
    have HTW := Lib.hid (hT.below hbW)
    obtain ⟨r, hr⟩ : ∃ r, stepO t f m N = r := ⟨_, rfl⟩
    have HR := Lib.hid hr
    have b0 := Below.refl W.heap.size W
    clear hb ht hf hm hbW hl hlr hr hn hT
    go_wp2_with fail
    refine (iStep_is W t _ HT.out f _ HF.out m _ HU.out N r HR.out W b0 HTW.out).mono ?_
    rintro e w1 ⟨v1, rfl, ho1, b1⟩
    go_wp2_with fail
    refine (sStep_is w1 t _ (HT.out.below b1) f _ (HF.out.below b1) m _ (HU.out.below b1) N r HR.out w1 (Below.refl _ _)).mono ?_
    rintro e w2 ⟨v2, rfl, ho2, h2⟩
    have b2 : Below W.heap.size W w2 := b1.trans (h2.mono b1.size)
    replace HT := Lib.hid (HT.out.below b2)
    replace HF := Lib.hid (HF.out.below b2)
    replace HU := Lib.hid (HU.out.below b2)
    replace HTW := Lib.hid (HTW.out.below b2)
    replace HB := Lib.hid (HB.out.trans (b2.mono HB.out.size))
    have HD := Lib.hid ((ho1.below h2).is)
    have HE := Lib.hid ho2.is
    clear ho1 ho2 b1 h2 b2 b0
    cases r with
    | none =>
      have HD' := Lib.hid (show IsM w2 v1 [] from HD.out)
      have HE' := Lib.hid (show IsM w2 v2 [] from HE.out)
      have b0 := Below.refl w2.heap.size w2
      clear HD HE
      simp only [Option.isSome]
      go_wp2_with fail
      refine (lMask_is w2 [] v1 HD'.out v2 HE'.out _ b0).mono ?_
      rintro e w3 ⟨rfl, b3⟩
      go_wp2_with fail
      refine (lMask_is w2 [] v1 HD'.out v2 HE'.out _ b3).mono ?_
      rintro e w4 ⟨rfl, b4⟩
      go_wp2
      go_ret
      exact ⟨rfl, HB.out.trans (b4.mono HB.out.size)⟩
    | some x =>
      replace HD := Lib.hid (show IsM w2 v1 x from HD.out)
      replace HE := Lib.hid (show IsM w2 v2 x from HE.out)
      have b0 := Below.refl w2.heap.size w2
      simp only [Option.isSome]
      go_wp2_with fail
      refine (lMask_is w2 x v1 HD.out v2 HE.out _ b0).mono ?_
      rintro e w3 ⟨rfl, b3⟩
      clear HE b0
      obtain ⟨h3, hxk, hmore, hneed⟩ := step_ok HR.out
      obtain ⟨hfk, hmk, hN0, hN9⟩ := pOk3_iff.1 h3
      have htb := mk_tab hfk
      have HFK := Lib.hid hfk
      have HMK := Lib.hid hmk
      have HXK := Lib.hid hxk
      have HTB := Lib.hid htb
      have HMO := Lib.hid hmore
      have HNE := Lib.hid hneed
      clear h3 hxk hmore hfk hmk hneed
      have hcn := step_count HR.out
      have hnd := step_need HR.out
      obtain ⟨g1, hg1⟩ : ∃ z, needN t f x N = z := ⟨_, rfl⟩
      obtain ⟨g2, hg2⟩ : ∃ z, needN t f m N = z := ⟨_, rfl⟩
      have HG1 := Lib.hid hg1
      have HG2 := Lib.hid hg2
      rw [hg1, hg2] at hnd
      have hg2p : 1 ≤ g2 := by rw [← hg2]; exact HNE.out
      have HCN := Lib.hid hcn
      have HGL := Lib.hid (And.intro hnd hg2p)
      clear hg1 hg2 hcn hnd hg2p
      have ht1 := htb.h1
      have ht4 := htb.h4
      have hw1 := htb.w1
      have hw4 := htb.w4
      obtain ⟨bt, ot, ct, tb, to, tc, htv, htall⟩ := HT.out.all htb
      subst htv
      obtain ⟨_, hml, hmr⟩ := mk_parts.1 HMK.out
      obtain ⟨bm_, om_, cm, mb, mo, mc, hmv, hmall⟩ := HU.out.all (d := wd t) (by omega) hw1 hmr
      rw [hml] at hmv
      subst hmv
      obtain ⟨_, hxl, hxr⟩ := mk_parts.1 HXK.out
      obtain ⟨bx_, ox_, cx, xb, xo, xc, hxv, hxall⟩ := HD.out.all (d := wd t) (by omega) hw1 hxr
      rw [hxl] at hxv
      subst hxv
      obtain ⟨q, hq⟩ : ∃ q, t.length = q := ⟨_, rfl⟩
      obtain ⟨d, hd⟩ : ∃ d, wd t = d := ⟨_, rfl⟩
      have HQ := Lib.hid hq
      have HDD := Lib.hid hd
      rw [hq, hd] at htall
      rw [hml, hq, hd] at hmall
      rw [hxl, hq, hd] at hxall
      have HTA := Lib.hid (show ∀ w', Below w2.heap.size w2 w' → w'.cell? ⟨bt, ot, none⟩ = some (.slice (some ⟨tb 0, to 0, none⟩) d (tc 0)) ∧ (∀ i, i < q → w'.cell? ⟨bt, ot + i, none⟩ = some (.slice (some ⟨tb i, to i, none⟩) d (tc i))) ∧ ∀ i j, i < q → j < d → w'.cell? ⟨tb i, to i + j, none⟩ = some (.int .i64 (cF t i j)) from
        fun w' h => ⟨(htall w' h).1 0 (by omega), htall w' h⟩)
      have HmA := Lib.hid hmall
      have HxA := Lib.hid hxall
      rw [hq] at HT HU HD ht1 ht4 ⊢
      rw [hd] at hw1 hw4
      have hq0i : (0 : Int) < (q : Int) := by omega
      have hq0 : 0 < q := ht1
      have hd0 : 0 < d := hw1
      have HB3 := Lib.hid b3
      clear htall hmall hml hmr hxall hxl hxr htb hq hd b3
      go_wp2
      go_loopw [11, 12] (fun zz i wr => ∃ k : Nat, k ≤ q ∧ i = .int .i64 k ∧ zz = .int .i64 (sm k fun k => sm d fun l => (if newC m x k l = true then (1 : Int) else 0)) ∧ Below w2.heap.size w2 wr) (fun _ i _ => q - (intOf i).toNat)
      case atStart => exact ⟨0, Nat.zero_le _, rfl, rfl, HB3.out⟩
      case round =>
        obtain ⟨k, hk, rfl, rfl, hb5⟩ := hrel
        have HB5 := Lib.hid hb5
        have hzb := sm_bdC (fun k => sm d fun l => (if newC m x k l = true then (1 : Int) else 0)) 4 k (fun i hi => by
          have := sm_bdC (fun l => (if newC m x i l = true then (1 : Int) else 0)) 1 d (fun j hj => by show 0 ≤ (if newC m x i j = true then (1 : Int) else 0) ∧ (if newC m x i j = true then (1 : Int) else 0) ≤ 1; split <;> omega)
          show 0 ≤ (sm d fun l => (if newC m x i l = true then (1 : Int) else 0)) ∧ (sm d fun l => (if newC m x i l = true then (1 : Int) else 0)) ≤ 4
          omega)
        have hk4 : (4 : Int) * k ≤ 16 := by omega
        obtain ⟨s1, hsx1⟩ : ∃ s, (sm k fun k => sm d fun l => (if newC m x k l = true then (1 : Int) else 0)) = s := ⟨_, rfl⟩
        rw [hsx1] at hzb ⊢
        have HSX := Lib.hid hsx1
        by_cases hlt : k < q
        · have hki : (k : Int) < (q : Int) := by omega
          clear hb5 hsx1 hk4
          have hzb : 0 ≤ s1 ∧ s1 ≤ 16 := by omega
          go_wp2
          go_loopw [11, 13] (fun zz i wr' => ∃ p : Nat, p ≤ d ∧ i = .int .i64 p ∧ zz = .int .i64 (s1 + (sm p fun l => (if newC m x k l = true then (1 : Int) else 0))) ∧ Below w2.heap.size w2 wr') (fun _ i _ => d - (intOf i).toNat)
          case atStart => exact ⟨0, Nat.zero_le _, rfl, by simp [sm], HB5.out⟩
          case round =>
            obtain ⟨p, hp, rfl, rfl, hb6⟩ := hrel
            have HB6 := Lib.hid hb6
            have r1 := (HTA.out _ hb6).2.1 k hlt
            have hzp := sm_bdC (fun l => (if newC m x k l = true then (1 : Int) else 0)) 1 p (fun j hj => by show 0 ≤ (if newC m x k j = true then (1 : Int) else 0) ∧ (if newC m x k j = true then (1 : Int) else 0) ≤ 1; split <;> omega)
            obtain ⟨s2, hsx2⟩ : ∃ s, (sm p fun l => (if newC m x k l = true then (1 : Int) else 0)) = s := ⟨_, rfl⟩
            have hs2 : (sm (p + 1) fun l => (if newC m x k l = true then (1 : Int) else 0)) = (sm p fun l => (if newC m x k l = true then (1 : Int) else 0)) + (if newC m x k p = true then (1 : Int) else 0) := rfl
            rw [hsx2] at hzp hs2 ⊢
            have HS2 := Lib.hid hs2
            have HSX2 := Lib.hid hsx2
            clear hsx2 hs2
            by_cases hpd : p < d
            · have hpi : (p : Int) < (d : Int) := by omega
              have hw1 : IntKind.i64.wrap (s1 + s2 + 1) = s1 + s2 + 1 := by rw [IntKind.wrap_i64] <;> omega
              have a1 := (HmA.out _ hb6).1 k hlt
              have a2 := (HmA.out _ hb6).2 k p hlt hpd
              have c1 := (HxA.out _ hb6).1 k hlt
              have c2 := (HxA.out _ hb6).2 k p hlt hpd
              cases hmv : hF m k p
              · cases hxv : hF x k p
                · rw [hmv] at a2
                  rw [hxv] at c2
                  have HE := Lib.hid (show newC m x k p = false by simp [newC, hmv, hxv])
                  clear hb6 hmv hxv
                  go_wp2
                  go_roundw
                  case rel => exact ⟨p + 1, by omega, by go_num, by rw [HS2.out, HE.out]; simp, HB6.out⟩
                  case measure => simp [intOf]; omega
                · rw [hmv] at a2
                  rw [hxv] at c2
                  have HE := Lib.hid (show newC m x k p = true by simp [newC, hmv, hxv])
                  clear hb6 hmv hxv
                  go_wp2
                  go_roundw
                  case rel => exact ⟨p + 1, by omega, by go_num, by rw [HS2.out, HE.out]; simp [Int.add_assoc], HB6.out⟩
                  case measure => simp [intOf]; omega
              · have hxv := HMO.out k p hmv
                rw [hmv] at a2
                rw [hxv] at c2
                have HE := Lib.hid (show newC m x k p = false by simp [newC, hmv, hxv])
                clear hb6 hmv hxv
                go_wp2
                go_roundw
                case rel => exact ⟨p + 1, by omega, by go_num, by rw [HS2.out, HE.out]; simp, HB6.out⟩
                case measure => simp [intOf]; omega
            · obtain rfl : d = p := by omega
              clear hb6
              go_wp2
              go_roundw
              case rel => exact ⟨k + 1, by omega, by go_num, by
                show Value.int .i64 (s1 + s2) = Value.int .i64 ((sm k fun k => sm d fun l => (if newC m x k l = true then (1 : Int) else 0)) + (sm d fun l => (if newC m x k l = true then (1 : Int) else 0)))
                rw [HSX.out, HSX2.out], HB6.out⟩
              case measure => simp [intOf]; omega
        · obtain rfl : q = k := by omega
          clear hzb hk4
          have hcn := HCN.out
          rw [HQ.out, HDD.out] at hcn
          have hs14 : 1 ≤ s1 ∧ s1 ≤ 4 := by rw [← hsx1]; exact hcn
          obtain ⟨hs1a, hs1b⟩ := hs14
          obtain ⟨hgl1, hgl2⟩ := HGL.out
          have hgl3 : 0 < g2 := by omega
          clear hcn hsx1 hb5
          go_wp2_with fail
          refine (iNeed_is w2 t _ HT.out f _ HF.out x _ HD.out N g1 HG1.out _ HB5.out HTW.out).mono ?_
          rintro e w7 ⟨rfl, b7⟩
          go_wp2_with fail
          refine (iNeed_is w2 t _ HT.out f _ HF.out m _ HU.out N g2 HG2.out _ b7 HTW.out).mono ?_
          rintro e w8 ⟨rfl, b8⟩
          go_wp2_with fail
          refine (iNeed_is w2 t _ HT.out f _ HF.out m _ HU.out N g2 HG2.out _ b8 HTW.out).mono ?_
          rintro e w9 ⟨rfl, b9⟩
          go_wp2
          go_ret
          exact ⟨by first | rfl | exact retb (by simp) | exact retb (by simp; omega), HB.out.trans (b9.mono HB.out.size)⟩
end Go.Proofs.YtobgceebolmfcaaDoor
