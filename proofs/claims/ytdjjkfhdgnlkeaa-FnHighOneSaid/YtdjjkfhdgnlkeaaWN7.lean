/- A law of chapter 13: HighOne. -/
import Derived.Test.YtdjjkfhdgnlkeaaWN0
import Derived.Deep.RegionHeld3
import Derived.Test.YtdjjkfhdgnlkeaaWL0
import Derived.Test.YtdjjkfhdgnlkeaaRQ
namespace Go.Proofs.Ytdjjkfhdgnlkeaa
open Go.RowKit
set_option maxRecDepth 100000 in
set_option maxHeartbeats 4000000 in
theorem w_HighOne (A : Option Addr) (n c : Nat) (hnc : n ≤ c) (hn : n ≤ maxLen) (w : World) (hb : Bytes w w.heap.size A n) :
    Calls Try.prog 6 #[.slice A n c] w fun e w' => e = .returned (.bool true) ∧ Below w.heap.size w w' := by
  have hn2 := hn
  unfold maxLen at hn2
  rcases (show 1048576 < n ∨ ¬ 1048576 < n by omega) with hbig | hbig
  · go_enter Try.func6, Try.ntmps6
    go_wp2
    go_ret
    exact ⟨rfl, Below.refl _ _⟩
  · go_enter Try.func6, Try.ntmps6
    go_wp2_with fail
    refine (dBoundHigh_any A n c hnc hn _ hb).mono ?_
    rintro e W ⟨tv, uv, t, m, i, j, rfl, ht, hu, hl, hlr, hml, hmr, hbW⟩
    have HT := Lib.hid ht
    have HU := Lib.hid hu
    have HBW := Lib.hid hbW
    obtain ⟨g, hg⟩ : ∃ g, hiI t m i j = g := ⟨_, rfl⟩
    have HG := Lib.hid hg
    clear hb ht hu hbW hl hlr hml hmr hg hn
    go_wp2_with fail
    refine (iHigh_is W t _ HT.out m _ HU.out i j g HG.out _ (Below.refl _ _)).mono ?_
    rintro e w1 ⟨rfl, b1⟩
    go_wp2_with fail
    refine (sHigh_is W t _ HT.out m _ HU.out i j g HG.out _ b1).mono ?_
    rintro e w2 ⟨rfl, b2⟩
    by_cases hneg : g < 0
    · go_wp2
      go_ret
      exact ⟨rfl, HBW.out.trans (b2.mono HBW.out.size)⟩
    have hok : bOk t m i j = true := by
      cases e : bOk t m i j
      · exfalso; have h9 := HG.out; rw [hiI, if_neg (by simp [e])] at h9; omega
      · rfl
    obtain ⟨hmk, hi0, hiq, hj0, hjd⟩ := bOk_iff.1 hok
    obtain ⟨a, rfl⟩ := Int.eq_ofNat_of_zero_le hi0
    obtain ⟨b, rfl⟩ := Int.eq_ofNat_of_zero_le hj0
    obtain ⟨htb, hml, hmr⟩ := mk_parts.1 hmk
    have haq : a < t.length := by omega
    have hbd : b < wd t := by omega
    have HMK := Lib.hid hmk
    have HTB := Lib.hid htb
    have HAQ := Lib.hid haq
    have HBD := Lib.hid hbd
    have HML := Lib.hid (show m.length ≤ 1000 by have := htb.h4; omega)
    have HMR := Lib.hid (show ∀ r ∈ m, r.length ≤ 100000 from fun r hr => by have := hmr r hr; have := htb.w4; omega)
    have HTL := Lib.hid (show t.length ≤ 1000 by have := htb.h4; omega)
    have HTD := Lib.hid htb.len
    have HTD6 := Lib.hid (show wd t ≤ 1000 by have := htb.w4; omega)
    have HTR := Lib.hid (show ∀ r ∈ t, r.length ≤ 100000 from fun r hr => by have := htb.len r hr; have := htb.w4; omega)
    clear hok hi0 hj0 b1
    have ht1 := htb.h1
    have ht4 := htb.h4
    have hw1 := htb.w1
    have hw4 := htb.w4
    have HT2 := Lib.hid (HT.out.below b2)
    have HU2 := Lib.hid (HU.out.below b2)
    obtain ⟨bt, ot, ct, tb, to, tc, htv, htall⟩ := HT2.out.all htb
    obtain ⟨bm, om, cm, mb, mo, mc, huv, hmall⟩ := HU2.out.all (d := wd t) (by omega) hw1 hmr
    rw [hml] at huv
    subst htv huv
    obtain ⟨q, hq⟩ : ∃ q, t.length = q := ⟨_, rfl⟩
    obtain ⟨d, hd⟩ : ∃ d, wd t = d := ⟨_, rfl⟩
    have HQ := Lib.hid hq
    have HD := Lib.hid hd
    rw [hml, hq, hd] at hmall
    rw [hq, hd] at htall
    have HTA := Lib.hid (show ∀ w', Below w2.heap.size w2 w' → w'.cell? ⟨bt, ot, none⟩ = some (.slice (some ⟨tb 0, to 0, none⟩) d (tc 0)) ∧ (∀ i, i < q → w'.cell? ⟨bt, ot + i, none⟩ = some (.slice (some ⟨tb i, to i, none⟩) d (tc i))) ∧ ∀ i j, i < q → j < d → w'.cell? ⟨tb i, to i + j, none⟩ = some (.int .i64 (cF t i j)) from
      fun w' h => ⟨(htall w' h).1 0 (by omega), htall w' h⟩)
    have HUA := Lib.hid hmall
    rw [hq] at HT2 HU2 hiq ht1 ht4 haq ⊢
    rw [hd] at hw1 hw4 hbd hjd
    have hq0i : (0 : Int) < (q : Int) := by omega
    have hq0 : 0 < q := ht1
    have HB2 := Lib.hid b2
    have HBB := Lib.hid (show ∀ w', Below w2.heap.size w2 w' → Below w.heap.size w w' from fun w' h => HBW.out.trans ((below_step HB2.out h).mono HBW.out.size))
    clear htall hmall hmk hml hmr htb hq hd b2
    obtain ⟨p, hp⟩ : ∃ p, cF t a b = p := ⟨_, rfl⟩
    have HP := Lib.hid hp
    clear hp
    go_wp2
    go_loopw [9, 11] (fun n l wr => ∃ k : Nat, k ≤ d ∧ l = .int .i64 k ∧ n = .int .i64 (sm k (one01 fun x => hF m a x)) ∧ Below w2.heap.size w2 wr) (fun _ l _ => d - (intOf l).toNat)
    case atStart => exact ⟨0, Nat.zero_le _, rfl, rfl, Below.refl _ _⟩
    case round =>
      obtain ⟨k, hk, rfl, rfl, hb5⟩ := hrel
      obtain ⟨e0, hR, hC⟩ := HTA.out _ hb5
      obtain ⟨hR2, hC2⟩ := HUA.out _ hb5
      have HB5 := Lib.hid hb5
      clear hb5
      have hcnt := sm01 (fun x => hF m a x) k
      by_cases hlt : k < d
      · have hki : (k : Int) < (d : Int) := by omega
        have r1 := hR2 a haq
        have c1 := hC2 a k haq hlt
        have hs : sm (k + 1) (one01 fun x => hF m a x) = sm k (one01 fun x => hF m a x) + if hF m a k = true then 1 else 0 := rfl
        obtain ⟨f, hf⟩ : ∃ f, hF m a k = f := ⟨_, rfl⟩
        rw [hf] at c1 hs
        obtain ⟨s, hsx⟩ : ∃ s, sm k (one01 fun x => hF m a x) = s := ⟨_, rfl⟩
        rw [hsx] at hs hcnt ⊢
        have hws : IntKind.i64.wrap (s + 1) = s + 1 := by rw [IntKind.wrap_i64] <;> omega
        have HSS := Lib.hid hs
        clear hR hC hR2 hC2 hf hsx hs
        cases f
        · go_wp2
          go_roundw
          case rel => exact ⟨k + 1, by omega, by go_num, by rw [HSS.out]; simp, HB5.out⟩
          case measure => simp [intOf]; omega
        · go_wp2
          go_roundw
          case rel => exact ⟨k + 1, by omega, by go_num, by rw [HSS.out]; simp, HB5.out⟩
          case measure => simp [intOf]; omega
      · obtain rfl : d = k := by omega
        clear hR hC hR2 hC2 hlt hk
        obtain ⟨R, hR⟩ : ∃ R, sm d (one01 fun x => hF m a x) = R := ⟨_, rfl⟩
        rw [hR] at hcnt ⊢
        have HR := Lib.hid hR
        clear hR
        have hcR := hcnt
        clear hcnt
        go_wp2
        go_loopw [10, 12] (fun n l wr => ∃ k : Nat, k ≤ q ∧ l = .int .i64 k ∧ n = .int .i64 (sm k (one01 fun x => hF m x b)) ∧ Below w2.heap.size w2 wr) (fun _ l _ => q - (intOf l).toNat)
        case atStart => exact ⟨0, Nat.zero_le _, rfl, rfl, HB5.out⟩
        case round =>
          obtain ⟨k, hk, rfl, rfl, hb5⟩ := hrel
          obtain ⟨e0, hR, hC⟩ := HTA.out _ hb5
          obtain ⟨hR2, hC2⟩ := HUA.out _ hb5
          have HB5 := Lib.hid hb5
          clear hb5
          have hcnt := sm01 (fun x => hF m x b) k
          by_cases hlt : k < q
          · have hki : (k : Int) < (q : Int) := by omega
            have r1 := hR2 k hlt
            have c1 := hC2 k b hlt hbd
            have hs : sm (k + 1) (one01 fun x => hF m x b) = sm k (one01 fun x => hF m x b) + if hF m k b = true then 1 else 0 := rfl
            obtain ⟨f, hf⟩ : ∃ f, hF m k b = f := ⟨_, rfl⟩
            rw [hf] at c1 hs
            obtain ⟨s, hsx⟩ : ∃ s, sm k (one01 fun x => hF m x b) = s := ⟨_, rfl⟩
            rw [hsx] at hs hcnt ⊢
            have hws : IntKind.i64.wrap (s + 1) = s + 1 := by rw [IntKind.wrap_i64] <;> omega
            have HSS := Lib.hid hs
            clear hR hC hR2 hC2 hf hsx hs
            cases f
            · go_wp2
              go_roundw
              case rel => exact ⟨k + 1, by omega, by go_num, by rw [HSS.out]; simp, HB5.out⟩
              case measure => simp [intOf]; omega
            · go_wp2
              go_roundw
              case rel => exact ⟨k + 1, by omega, by go_num, by rw [HSS.out]; simp, HB5.out⟩
              case measure => simp [intOf]; omega
          · obtain rfl : q = k := by omega
            clear hR hC hR2 hC2 hlt hk
            obtain ⟨C, hC⟩ : ∃ C, sm q (one01 fun x => hF m x b) = C := ⟨_, rfl⟩
            rw [hC] at hcnt ⊢
            have HC := Lib.hid hC
            clear hC
            have bd9 := (HB5.out).drew
            have b9 := HB5.out
            have HCE := Lib.hid (show ∀ w', Below w2.heap.size w2 w' → Below w2.heap.size w2 w' ∧ w'.cell? ⟨bt, ot + a, none⟩ = some (.slice (some ⟨tb a, to a, none⟩) d (tc a)) ∧ w'.cell? ⟨tb a, to a + b, none⟩ = some (.int .i64 p) from fun w' h => by
              have h1 := (HTA.out w' h).2.1 a haq
              have h2 := (HTA.out w' h).2.2 a b haq hbd
              rw [HP.out] at h2
              exact ⟨h, h1, h2⟩)
            have HAL := Lib.hid (show ¬ (1 < R ∧ 1 < C) → g = p ∧ loI t m a b = p from fun h => by
              have h9 := m_alone HMK.out HAQ.out HBD.out (by
                cases hf : hF m a b
                · exact .inr (.inr rfl)
                · by_cases h1 : 1 < R
                  · exact .inr (.inl fun x hx hxa => sm01_alone (fun x => hF m x b) (k := q) (o := a) (by rw [HC.out]; omega) hf (by have := HAQ.out; rw [HQ.out] at this; exact this) x (by rw [HQ.out] at hx; exact hx) hxa)
                  · exact .inl fun x hx hxb => sm01_alone (fun x => hF m a x) (k := d) (o := b) (by rw [HR.out]; omega) hf (by have := HBD.out; rw [HD.out] at this; exact this) x (by rw [HD.out] at hx; exact hx) hxb)
              rw [HP.out, HG.out] at h9
              exact h9)
            have HCB := Lib.hid (show 0 ≤ R ∧ R ≤ 4 ∧ 0 ≤ C ∧ C ≤ 4 by omega)
            clear e0 hcR hcnt
            by_cases hbig : 1 < R ∧ 1 < C
            · obtain ⟨h1, h2⟩ := hbig
              go_wp2_with fail
              go_quiet (fail)
              go_wp2
              go_ret
              exact ⟨by first | rfl | exact retb (by simp) | exact retb (by simp; omega), HBB.out _ (below_drewN HB5.out _)⟩
            obtain ⟨hgp, hlp⟩ := HAL.out hbig
            subst hgp
            have HLP := Lib.hid hlp
            clear hlp
            have fin : (¬ 1 < R) ∨ (1 < R ∧ ¬ 1 < C) := by omega
            clear hbig HAL
            have key : (decide (1 < R) = false) ∨ (decide (1 < R) = true ∧ decide (1 < C) = false) := by
              rcases fin with h | ⟨h, h'⟩
              · exact .inl (decide_eq_false h)
              · exact .inr ⟨decide_eq_true h, decide_eq_false h'⟩
            clear fin
            have HT9 := Lib.hid (HT2.out.below b9)
            have HU9 := Lib.hid (HU2.out.below b9)
            have L0 := Later.cell1 (HCE.out _ b9).2.1
            have L1 := Later.cell1 (HCE.out _ b9).2.2
            clear bd9
            rcases key with h1 | ⟨h1, h2⟩
            all_goals
              go_wp2_with fail
              refine region_quiet_later (by kernel_rfl) (by kernel_rfl) ?_
              repeat (go_big_quiet_step (first
                | (go_at_call 22
                   exact Later.back (iLow_is _ t _ HT9.out m _ HU9.out a b g HLP.out _ (Later.h _)) fun _ _ h => h)))
              refine wpQuiet_nil ?_
              rintro _ ⟨L, rfl⟩
              have HF := Lib.hid (HBB.out _ (below_step HB5.out L.h))
              clear L0 L1
              go_wp2
              all_goals
                go_ret
                exact ⟨by first | rfl | exact retb (by simp) | exact retb (by simp; omega), HF.out⟩
end Go.Proofs.Ytdjjkfhdgnlkeaa
