/- Laws of chapter 14: a grown pattern is safe. -/
import Derived.Test.YtobgceebolmfcaaDoorVI14
import Derived.Test.YtobgceebolmfcaaDoorVSA
import Derived.Test.YtobgceebolmfcaaDoorVD
import Derived.Test.YtobgceebolmfcaaDoorWN0
import Derived.Test.YtobgceebolmfcaaDoorTLA
namespace Go.Proofs.YtobgceebolmfcaaDoor
open Go.RowKit
set_option maxRecDepth 100000 in
set_option maxHeartbeats 4000000 in
theorem w_PatternGrow (A : Option Addr) (n c : Nat) (hnc : n ≤ c) (hn : n ≤ maxLen) (w : World) (hb : Bytes w w.heap.size A n) (hT : TabW w) :
    Calls Tryd.prog 5 #[.slice A n c] w fun e w' => e = .returned (.bool true) ∧ Below w.heap.size w w' := by
  have hn2 := hn
  unfold maxLen at hn2
  rcases (show 1048576 < n ∨ ¬ 1048576 < n by omega) with hbig | hbig
  · go_enter Tryd.func5, Tryd.ntmps5
    go_wp2
    go_ret
    exact ⟨rfl, Below.refl _ _⟩
  · go_enter Tryd.func5, Tryd.ntmps5
    go_wp2_with fail
    refine (dPGrow_any A n c hnc hn _ hb).mono ?_
    rintro e W ⟨tv, fv, t, f, N, rfl, ht, hf, hl, hlr, hN, hbW⟩
    have HT := Lib.hid ht
    have HF := Lib.hid hf
    have HB := Lib.hid hbW
    have HTW := Lib.hid (hT.below hbW)
    obtain ⟨r, hr⟩ : ∃ r, growO t f N = r := ⟨_, rfl⟩
    have HR := Lib.hid hr
    have b0 := Below.refl W.heap.size W
    clear hb ht hf hbW hl hlr hr hn hT
    go_wp2_with fail
    refine (iGrow_is W t _ HT.out f _ HF.out N r HR.out W b0 HTW.out).mono ?_
    rintro e w1 ⟨v1, rfl, ho1, b1⟩
    go_wp2_with fail
    refine (sGrow_is w1 t _ (HT.out.below b1) f _ (HF.out.below b1) N r HR.out w1 (Below.refl _ _)).mono ?_
    rintro e w2 ⟨v2, rfl, ho2, h2⟩
    have b2 : Below W.heap.size W w2 := b1.trans (h2.mono b1.size)
    replace HT := Lib.hid (HT.out.below b2)
    replace HF := Lib.hid (HF.out.below b2)
    replace HTW := Lib.hid (HTW.out.below b2)
    replace HB := Lib.hid (HB.out.trans (b2.mono HB.out.size))
    have HD := Lib.hid ((ho1.below h2).is)
    have HE := Lib.hid ho2.is
    clear ho1 ho2 b1 h2 b2 b0
    cases r with
    | none =>
      have HD' := Lib.hid (show IsM w2 v1 [] from HD.out)
      have HE' := Lib.hid (show IsM w2 v2 [] from HE.out)
      have b0 := Below.refl w2.heap.size w2
      clear HD HE
      simp only [Option.isSome]
      go_wp2_with fail
      refine (lMask_is w2 [] v1 HD'.out v2 HE'.out _ b0).mono ?_
      rintro e w3 ⟨rfl, b3⟩
      go_wp2_with fail
      refine (lMask_is w2 [] v1 HD'.out v2 HE'.out _ b3).mono ?_
      rintro e w4 ⟨rfl, b4⟩
      go_wp2
      go_ret
      exact ⟨rfl, HB.out.trans (b4.mono HB.out.size)⟩
    | some x =>
      replace HD := Lib.hid (show IsM w2 v1 x from HD.out)
      replace HE := Lib.hid (show IsM w2 v2 x from HE.out)
      have b0 := Below.refl w2.heap.size w2
      simp only [Option.isSome]
      go_wp2_with fail
      refine (lMask_is w2 x v1 HD.out v2 HE.out _ b0).mono ?_
      rintro e w3 ⟨rfl, b3⟩
      clear HE b0
      obtain ⟨h3, hz, hxk, hmore⟩ := grow_some HR.out
      obtain ⟨hfk, _, hN0, hN9⟩ := pOk3_iff.1 h3
      have htb := mk_tab hfk
      have HFK := Lib.hid hfk
      have HXK := Lib.hid hxk
      have HTB := Lib.hid htb
      have HZ := Lib.hid hz
      have HMO := Lib.hid hmore
      have HTA := Lib.hid (tab_iff.2 htb)
      clear h3 hz hxk hmore hfk
      have GA := Lib.hid (show decide (needN t f x N = 0) = true by rw [decide_eq_true_eq]; exact HZ.out)
      have ht1 := htb.h1
      have ht4 := htb.h4
      have hw1 := htb.w1
      have hw4 := htb.w4
      obtain ⟨bt, ot, ct, tb, to, tc, htv, htall⟩ := HT.out.all htb
      subst htv
      obtain ⟨_, hfl, hfr⟩ := mk_parts.1 HFK.out
      obtain ⟨bf_, of_, cf, fb, fo, fc, hfv, hfall⟩ := HF.out.all (d := wd t) (by omega) hw1 hfr
      rw [hfl] at hfv
      subst hfv
      obtain ⟨_, hxl, hxr⟩ := mk_parts.1 HXK.out
      obtain ⟨bx_, ox_, cx, xb, xo, xc, hxv, hxall⟩ := HD.out.all (d := wd t) (by omega) hw1 hxr
      rw [hxl] at hxv
      subst hxv
      obtain ⟨q, hq⟩ : ∃ q, t.length = q := ⟨_, rfl⟩
      obtain ⟨d, hd⟩ : ∃ d, wd t = d := ⟨_, rfl⟩
      have HQ := Lib.hid hq
      have HDD := Lib.hid hd
      rw [hq, hd] at htall
      rw [hfl, hq, hd] at hfall
      rw [hxl, hq, hd] at hxall
      have HTA := Lib.hid (show ∀ w', Below w2.heap.size w2 w' → w'.cell? ⟨bt, ot, none⟩ = some (.slice (some ⟨tb 0, to 0, none⟩) d (tc 0)) ∧ (∀ i, i < q → w'.cell? ⟨bt, ot + i, none⟩ = some (.slice (some ⟨tb i, to i, none⟩) d (tc i))) ∧ ∀ i j, i < q → j < d → w'.cell? ⟨tb i, to i + j, none⟩ = some (.int .i64 (cF t i j)) from
        fun w' h => ⟨(htall w' h).1 0 (by omega), htall w' h⟩)
      have HfA := Lib.hid hfall
      have HxA := Lib.hid hxall
      rw [hq] at HT HF HD ht1 ht4 ⊢
      rw [hd] at hw1 hw4
      have hq0i : (0 : Int) < (q : Int) := by omega
      have hq0 : 0 < q := ht1
      have hd0 : 0 < d := hw1
      have HB3 := Lib.hid b3
      clear htall hfall hfl hfr hxall hxl hxr htb hq hd b3
      go_wp2
      go_loopw [10] (fun i wr => ∃ k : Nat, k ≤ q ∧ i = .int .i64 k ∧ Below w2.heap.size w2 wr) (fun i _ => q - (intOf i).toNat)
      case atStart => exact ⟨0, Nat.zero_le _, rfl, HB3.out⟩
      case round =>
        obtain ⟨k, hk, rfl, hb5⟩ := hrel
        have HB5 := Lib.hid hb5
        by_cases hlt : k < q
        · have hki : (k : Int) < (q : Int) := by omega
          clear hb5
          go_wp2
          go_loopw [11] (fun i wr' => ∃ p : Nat, p ≤ d ∧ i = .int .i64 p ∧ Below w2.heap.size w2 wr') (fun i _ => d - (intOf i).toNat)
          case atStart => exact ⟨0, Nat.zero_le _, rfl, HB5.out⟩
          case round =>
            obtain ⟨p, hp, rfl, hb6⟩ := hrel
            have HB6 := Lib.hid hb6
            have r1 := (HTA.out _ hb6).2.1 k hlt
            by_cases hpd : p < d
            · have hpi : (p : Int) < (d : Int) := by omega
              have a1 := (HfA.out _ hb6).1 k hlt
              have a2 := (HfA.out _ hb6).2 k p hlt hpd
              have c1 := (HxA.out _ hb6).1 k hlt
              have c2 := (HxA.out _ hb6).2 k p hlt hpd
              cases hfv : hF f k p
              · rw [hfv] at a2
                clear hb6 hfv
                go_wp2
                go_roundw
                case rel => exact ⟨p + 1, by omega, by go_num, HB6.out⟩
                case measure => simp [intOf]; omega
              · have hx := HMO.out k p hfv
                rw [hfv] at a2
                rw [hx] at c2
                clear hb6 hfv hx
                go_wp2
                go_roundw
                case rel => exact ⟨p + 1, by omega, by go_num, HB6.out⟩
                case measure => simp [intOf]; omega
            · obtain rfl : d = p := by omega
              clear hb6
              go_wp2
              go_roundw
              case rel => exact ⟨k + 1, by omega, by go_num, HB6.out⟩
              case measure => simp [intOf]; omega
        · obtain rfl : q = k := by omega
          go_wp2_with fail
          refine (iOk_is w2 t _ HT.out f _ HF.out x _ HD.out N true GA.out _ HB5.out HTW.out).mono ?_
          rintro e w9 ⟨rfl, b9⟩
          go_wp2
          go_ret
          exact ⟨rfl, HB.out.trans (b9.mono HB.out.size)⟩
end Go.Proofs.YtobgceebolmfcaaDoor
