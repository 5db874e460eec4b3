/- Laws of chapter 14: a pattern grows step by step. -/
import Derived.Test.YtobgceebolmfcaaDoorVI14
import Derived.Test.YtobgceebolmfcaaDoorVSA
import Derived.Test.YtobgceebolmfcaaDoorVD
import Derived.Test.YtobgceebolmfcaaDoorWN0
import Derived.Test.YtobgceebolmfcaaDoorTLA
import Derived.BigQuiet
namespace Go.Proofs.YtobgceebolmfcaaDoor
open Go.RowKit
set_option maxRecDepth 100000 in
set_option maxHeartbeats 4000000 in
theorem w_PatternGrowStep (A : Option Addr) (n c : Nat) (hnc : n ≤ c) (hn : n ≤ maxLen) (w : World) (hb : Bytes w w.heap.size A n) (hT : TabW w) :
    Calls Tryd.prog 6 #[.slice A n c] w fun e w' => e = .returned (.bool true) ∧ Below w.heap.size w w' := by
  have hn2 := hn
  unfold maxLen at hn2
  rcases (show 1048576 < n ∨ ¬ 1048576 < n by omega) with hbig | hbig
  · go_enter Tryd.func6, Tryd.ntmps6
    go_wp2
    go_ret
    exact ⟨rfl, Below.refl _ _⟩
  · go_enter Tryd.func6, Tryd.ntmps6
    go_wp2_with fail
    refine (dPGrow_any A n c hnc hn _ hb).mono ?_
    rintro e W ⟨tv, fv, t, f, N, rfl, ht, hf, hl, hlr, hN, hbW⟩
    have HT := Lib.hid ht
    have HF := Lib.hid hf
    have HB := Lib.hid hbW
    have HTW := Lib.hid (hT.below hbW)
    obtain ⟨r, hr⟩ : ∃ r, growO t f N = r := ⟨_, rfl⟩
    have HR := Lib.hid hr
    have b0 := Below.refl W.heap.size W
    clear hb ht hf hbW hl hlr hr hn hT
    go_wp2_with fail
    refine (iGrow_is W t _ HT.out f _ HF.out N r HR.out W b0 HTW.out).mono ?_
    rintro e w1 ⟨v1, rfl, ho1, b1⟩
    go_wp2_with fail
    refine (sGrow_is w1 t _ (HT.out.below b1) f _ (HF.out.below b1) N r HR.out w1 (Below.refl _ _)).mono ?_
    rintro e w2 ⟨v2, rfl, ho2, h2⟩
    have b2 : Below W.heap.size W w2 := b1.trans (h2.mono b1.size)
    replace HT := Lib.hid (HT.out.below b2)
    replace HF := Lib.hid (HF.out.below b2)
    replace HTW := Lib.hid (HTW.out.below b2)
    replace HB := Lib.hid (HB.out.trans (b2.mono HB.out.size))
    have HD := Lib.hid ((ho1.below h2).is)
    have HE := Lib.hid ho2.is
    clear ho1 ho2 b1 h2 b2 b0
    cases r with
    | none =>
      have HD' := Lib.hid (show IsM w2 v1 [] from HD.out)
      have HE' := Lib.hid (show IsM w2 v2 [] from HE.out)
      have b0 := Below.refl w2.heap.size w2
      clear HD HE
      simp only [Option.isSome]
      go_wp2_with fail
      refine (lMask_is w2 [] v1 HD'.out v2 HE'.out _ b0).mono ?_
      rintro e w3 ⟨rfl, b3⟩
      go_wp2_with fail
      refine (lMask_is w2 [] v1 HD'.out v2 HE'.out _ b3).mono ?_
      rintro e w4 ⟨rfl, b4⟩
      go_wp2
      go_ret
      exact ⟨rfl, HB.out.trans (b4.mono HB.out.size)⟩
    | some x =>
      replace HD := Lib.hid (show IsM w2 v1 x from HD.out)
      replace HE := Lib.hid (show IsM w2 v2 x from HE.out)
      have b0 := Below.refl w2.heap.size w2
      simp only [Option.isSome]
      go_wp2_with fail
      refine (lMask_is w2 x v1 HD.out v2 HE.out _ b0).mono ?_
      rintro e w3 ⟨rfl, b3⟩
      clear HE b0
      obtain ⟨h3, hz, hxk, hmore⟩ := grow_some HR.out
      obtain ⟨hfk, _, hN0, hN9⟩ := pOk3_iff.1 h3
      have htb := mk_tab hfk
      have HFK := Lib.hid hfk
      have HXK := Lib.hid hxk
      have HTB := Lib.hid htb
      have HZ := Lib.hid hz
      have HMO := Lib.hid hmore
      have HTA := Lib.hid (tab_iff.2 htb)
      clear h3 hz hxk hmore hfk
      obtain ⟨go, hgo⟩ : ∃ go, decide (needN t f f N = 0) = go := ⟨_, rfl⟩
      have HGO := Lib.hid hgo
      clear hgo
      go_wp2_with fail
      refine (iOk_is w2 t _ HT.out f _ HF.out f _ HF.out N go HGO.out _ b3 HTW.out).mono ?_
      rintro e w4 ⟨rfl, b4⟩
      cases go
      rotate_left
      · have hz0 : needN t f f N = 0 := of_decide_eq_true HGO.out
        have hxf : x = f := by
          have h9 := grow_none hz0
          rw [HR.out] at h9
          exact Option.some.inj h9
        have HD2 := Lib.hid (show IsM w2 v1 f by rw [← hxf]; exact HD.out)
        clear hz0 hxf
        go_wp2_with fail
        refine (lMask_is w2 f _ HD2.out _ HF.out _ b4).mono ?_
        rintro e w5 ⟨rfl, b5⟩
        go_wp2
        go_ret
        exact ⟨rfl, HB.out.trans (b5.mono HB.out.size)⟩
      obtain ⟨y, hy1, hy2, hy3⟩ := grow_step HR.out (of_decide_eq_false HGO.out)
      have HY1 := Lib.hid hy1
      have HYK := Lib.hid hy2
      have HYM := Lib.hid hy3
      clear hy1 hy2 hy3 b3
      go_wp2_with fail
      refine (iStep_is w2 t _ HT.out f _ HF.out f _ HF.out N (some y) HY1.out _ b4 HTW.out).mono ?_
      rintro e w5 ⟨v5, rfl, ho5, h5⟩
      have b5 := b4.trans (h5.mono b4.size)
      have HY := Lib.hid ho5.is
      replace HTW := Lib.hid (HTW.out.below b5)
      replace HT := Lib.hid (HT.out.below b5)
      replace HF := Lib.hid (HF.out.below b5)
      replace HD := Lib.hid (HD.out.below b5)
      replace HB := Lib.hid (HB.out.trans (b5.mono HB.out.size))
      clear ho5 h5 b5
      have b5 := Below.refl w5.heap.size w5
      replace HY := Lib.hid (show IsM w5 v5 y from HY.out)
      simp only [Option.isSome]
      have b3 := b5
      clear b5
      have ht1 := htb.h1
      have ht4 := htb.h4
      have hw1 := htb.w1
      have hw4 := htb.w4
      obtain ⟨bt, ot, ct, tb, to, tc, htv, htall⟩ := HT.out.all htb
      subst htv
      obtain ⟨_, hxl, hxr⟩ := mk_parts.1 HXK.out
      obtain ⟨bx_, ox_, cx, xb, xo, xc, hxv, hxall⟩ := HD.out.all (d := wd t) (by omega) hw1 hxr
      rw [hxl] at hxv
      subst hxv
      obtain ⟨_, hyl, hyr⟩ := mk_parts.1 HYK.out
      obtain ⟨by_, oy_, cy, yb, yo, yc, hyv, hyall⟩ := HY.out.all (d := wd t) (by omega) hw1 hyr
      rw [hyl] at hyv
      subst hyv
      obtain ⟨q, hq⟩ : ∃ q, t.length = q := ⟨_, rfl⟩
      obtain ⟨d, hd⟩ : ∃ d, wd t = d := ⟨_, rfl⟩
      have HQ := Lib.hid hq
      have HDD := Lib.hid hd
      rw [hq, hd] at htall
      rw [hxl, hq, hd] at hxall
      rw [hyl, hq, hd] at hyall
      have HTA := Lib.hid (show ∀ w', Below w5.heap.size w5 w' → w'.cell? ⟨bt, ot, none⟩ = some (.slice (some ⟨tb 0, to 0, none⟩) d (tc 0)) ∧ (∀ i, i < q → w'.cell? ⟨bt, ot + i, none⟩ = some (.slice (some ⟨tb i, to i, none⟩) d (tc i))) ∧ ∀ i j, i < q → j < d → w'.cell? ⟨tb i, to i + j, none⟩ = some (.int .i64 (cF t i j)) from
        fun w' h => ⟨(htall w' h).1 0 (by omega), htall w' h⟩)
      have HxA := Lib.hid hxall
      have HyA := Lib.hid hyall
      rw [hq] at HT HD HY ht1 ht4 ⊢
      rw [hd] at hw1 hw4
      have hq0i : (0 : Int) < (q : Int) := by omega
      have hq0 : 0 < q := ht1
      have hd0 : 0 < d := hw1
      have HB3 := Lib.hid b3
      have HTA' := Lib.hid (show ∀ w', Below w5.heap.size w5 w' → True ∧ (∀ i, i < q → w'.cell? ⟨by_, oy_ + i, none⟩ = some (.slice (some ⟨yb i, yo i, none⟩) d (yc i))) ∧ True from fun w' h => ⟨trivial, (hyall w' h).1, trivial⟩)
      clear HTA
      have HTA := HTA'
      clear HTA'
      clear htall hxall hxl hxr hyall hyl hyr htb hq hd b3
      go_wp2
      go_loopw [12] (fun i wr => ∃ k : Nat, k ≤ q ∧ i = .int .i64 k ∧ Below w5.heap.size w5 wr) (fun i _ => q - (intOf i).toNat)
      case atStart => exact ⟨0, Nat.zero_le _, rfl, HB3.out⟩
      case round =>
        obtain ⟨k, hk, rfl, hb5⟩ := hrel
        have HB5 := Lib.hid hb5
        by_cases hlt : k < q
        · have hki : (k : Int) < (q : Int) := by omega
          clear hb5
          go_wp2
          go_loopw [13] (fun i wr' => ∃ p : Nat, p ≤ d ∧ i = .int .i64 p ∧ Below w5.heap.size w5 wr') (fun i _ => d - (intOf i).toNat)
          case atStart => exact ⟨0, Nat.zero_le _, rfl, HB5.out⟩
          case round =>
            obtain ⟨p, hp, rfl, hb6⟩ := hrel
            have HB6 := Lib.hid hb6
            have r1 := (HTA.out _ hb6).2.1 k hlt
            by_cases hpd : p < d
            · have hpi : (p : Int) < (d : Int) := by omega
              have a1 := (HyA.out _ hb6).1 k hlt
              have a2 := (HyA.out _ hb6).2 k p hlt hpd
              have c1 := (HxA.out _ hb6).1 k hlt
              have c2 := (HxA.out _ hb6).2 k p hlt hpd
              clear r1
              cases hyv : hF y k p
              · rw [hyv] at a2
                clear hb6 hyv
                go_wp2
                go_quiet (fail)
                have HB7 := Lib.hid (below_draws HB6.out nq)
                go_wp2
                go_roundw
                case rel => exact ⟨p + 1, by omega, by go_num, HB7.out⟩
                case measure => simp [intOf]; omega
              · have hx := HYM.out k p hyv
                rw [hyv] at a2
                rw [hx] at c2
                clear hb6 hyv hx
                go_wp2
                go_quiet (fail)
                have HB7 := Lib.hid (below_draws HB6.out nq)
                go_wp2
                go_roundw
                case rel => exact ⟨p + 1, by omega, by go_num, HB7.out⟩
                case measure => simp [intOf]; omega
            · obtain rfl : d = p := by omega
              clear hb6
              go_wp2
              go_roundw
              case rel => exact ⟨k + 1, by omega, by go_num, HB6.out⟩
              case measure => simp [intOf]; omega
        · obtain rfl : q = k := by omega
          go_wp2
          go_ret
          exact ⟨rfl, HB.out.trans (HB5.out.mono HB.out.size)⟩
end Go.Proofs.YtobgceebolmfcaaDoor
