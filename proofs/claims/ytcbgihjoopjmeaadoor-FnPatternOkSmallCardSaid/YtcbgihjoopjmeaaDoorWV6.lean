/- Walks of chapter 14: two in a row. -/
import Derived.Test.YtcbgihjoopjmeaaDoorVIB
import Derived.Test.YtcbgihjoopjmeaaDoorVSA
import Derived.Test.YtcbgihjoopjmeaaDoorVD
import Derived.Test.YtcbgihjoopjmeaaDoorWN0
import Derived.Test.YtcbgihjoopjmeaaDoorRQ
import Derived.Deep.RegionHeld3
import Derived.Test.YtcbgihjoopjmeaaDoorWL0
namespace Go.Proofs.YtcbgihjoopjmeaaDoor
open Go.RowKit
set_option maxRecDepth 100000 in
set_option maxHeartbeats 4000000 in
theorem w_PatternOkSmall (A : Option Addr) (n c : Nat) (hnc : n ≤ c) (hn : n ≤ maxLen) (w : World) (hb : Bytes w w.heap.size A n) (hT : TabW w) :
    Calls Tryd.prog 7 #[.slice A n c] w fun e w' => e = .returned (.bool true) ∧ Below w.heap.size w w' := by
  have hn2 := hn
  unfold maxLen at hn2
  rcases (show 1048576 < n ∨ ¬ 1048576 < n by omega) with hbig | hbig
  · go_enter Tryd.func7, Tryd.ntmps7
    go_wp2
    go_ret
    exact ⟨rfl, Below.refl _ _⟩
  · go_enter Tryd.func7, Tryd.ntmps7
    go_wp2_with fail
    refine (dPOk_any A n c hnc hn _ hb).mono ?_
    rintro e W ⟨tv, fv, uv, t, f, m, N, rfl, ht, hf, hu, hl, hlr, hN, hbW⟩
    have HT := Lib.hid ht
    have HF := Lib.hid hf
    have HU := Lib.hid hu
    have HBW := Lib.hid hbW
    have HTW := Lib.hid (hT.below hbW)
    obtain ⟨g, hg⟩ : ∃ g, decide (needN t f m N = 0) = g := ⟨_, rfl⟩
    have HGB := Lib.hid hg
    clear hb ht hf hu hbW hl hlr hg hn hT
    go_wp2_with fail
    refine (iOk_is W t _ HT.out f _ HF.out m _ HU.out N g HGB.out _ (Below.refl _ _) HTW.out).mono ?_
    rintro e w1 ⟨rfl, b1⟩
    go_wp2_with fail
    refine (sOk2_is W t _ HT.out f _ HF.out m _ HU.out N g HGB.out _ b1).mono ?_
    rintro e w2 ⟨rfl, b2⟩
    cases g
    · go_wp2
      go_ret
      exact ⟨rfl, HBW.out.trans (b2.mono HBW.out.size)⟩
    have HG := Lib.hid (of_decide_eq_true HGB.out)
    clear HGB
    have h3 : pOk3 t f m N = true := needN_ok.1 (by have := HG.out; omega)
    obtain ⟨hfk, hmk, hN0, hN9⟩ := pOk3_iff.1 h3
    have H3 := Lib.hid h3
    have HFK := Lib.hid hfk
    have HMK := Lib.hid hmk
    have htb := mk_tab hmk
    have HTB := Lib.hid htb
    have HFL := Lib.hid (show f.length ≤ 1000 by have := (mk_parts.1 hfk).2.1; have := htb.h4; omega)
    have HFR := Lib.hid (show ∀ r ∈ f, r.length ≤ 100000 from fun r hr => by have := (mk_parts.1 hfk).2.2 r hr; have := htb.w4; omega)
    have HML := Lib.hid (show m.length ≤ 1000 by have := (mk_parts.1 hmk).2.1; have := htb.h4; omega)
    have HMR := Lib.hid (show ∀ r ∈ m, r.length ≤ 100000 from fun r hr => by have := (mk_parts.1 hmk).2.2 r hr; have := htb.w4; omega)
    have HTL := Lib.hid (show t.length ≤ 1000 by have := htb.h4; omega)
    have HTD := Lib.hid htb.len
    have HTD6 := Lib.hid (show wd t ≤ 1000 by have := htb.w4; omega)
    have HTR := Lib.hid (show ∀ r ∈ t, r.length ≤ 100000 from fun r hr => by have := htb.len r hr; have := htb.w4; omega)
    clear b1
    have HT2 := Lib.hid (HT.out.below b2)
    have HF2 := Lib.hid (HF.out.below b2)
    have HU2 := Lib.hid (HU.out.below b2)
    have HTW2 := Lib.hid (HTW.out.below b2)
    have ht1 := htb.h1
    have ht4 := htb.h4
    have hw1 := htb.w1
    have hw4 := htb.w4
    obtain ⟨_, hfl, hfr⟩ := mk_parts.1 hfk
    obtain ⟨_, hml, hmr⟩ := mk_parts.1 hmk
    obtain ⟨bt, ot, ct, tb, to, tc, htv, htall⟩ := HT2.out.all htb
    obtain ⟨bf, of_, cf, fb, fo, fc, hfv, hfall⟩ := HF2.out.all (d := wd t) (by omega) hw1 hfr
    obtain ⟨bm, om, cm, mb, mo, mc, huv, hmall⟩ := HU2.out.all (d := wd t) (by omega) hw1 hmr
    rw [hfl] at hfv
    rw [hml] at huv
    subst htv hfv huv
    obtain ⟨q, hq⟩ : ∃ q, t.length = q := ⟨_, rfl⟩
    obtain ⟨d, hd⟩ : ∃ d, wd t = d := ⟨_, rfl⟩
    have HQ := Lib.hid hq
    have HD := Lib.hid hd
    rw [hml, hq, hd] at hmall
    rw [hfl, hq, hd] at hfall
    rw [hq, hd] at htall
    have HTA := Lib.hid (show ∀ w', Below w2.heap.size w2 w' → w'.cell? ⟨bt, ot, none⟩ = some (.slice (some ⟨tb 0, to 0, none⟩) d (tc 0)) ∧ (∀ i, i < q → w'.cell? ⟨bt, ot + i, none⟩ = some (.slice (some ⟨tb i, to i, none⟩) d (tc i))) ∧ ∀ i j, i < q → j < d → w'.cell? ⟨tb i, to i + j, none⟩ = some (.int .i64 (cF t i j)) from
      fun w' h => ⟨(htall w' h).1 0 (by omega), htall w' h⟩)
    have HFA := Lib.hid hfall
    have HUA := Lib.hid hmall
    rw [hq] at HT2 HF2 HU2 ht1 ht4 ⊢
    rw [hd] at hw1 hw4
    have hq0i : (0 : Int) < (q : Int) := by omega
    have hq0 : 0 < q := ht1
    have hd0 : 0 < d := hw1
    have HB2 := Lib.hid b2
    have HBB := Lib.hid (show ∀ w', Below w2.heap.size w2 w' → Below w.heap.size w w' from fun w' h => HBW.out.trans ((below_step HB2.out h).mono HBW.out.size))
    clear htall hfall hmall hfk hmk hml hmr hfl hfr htb hq hd b2
    have HZ := Lib.hid (needN_zero.1 HG.out).2
    go_wp2
    go_loopw [9] (fun i wr => ∃ k : Nat, k ≤ q ∧ i = .int .i64 k ∧ Below w2.heap.size w2 wr) (fun i _ => q - (intOf i).toNat)
    case atStart => exact ⟨0, Nat.zero_le _, rfl, Below.refl _ _⟩
    case round =>
      obtain ⟨k, hk, rfl, hb5⟩ := hrel
      have HB5 := Lib.hid hb5
      by_cases hlt : k < q
      · have hki : (k : Int) < (q : Int) := by omega
        clear hb5
        go_wp2
        go_loopw [10] (fun i wr' => ∃ p : Nat, p ≤ d ∧ i = .int .i64 p ∧ Below w2.heap.size w2 wr') (fun i _ => d - (intOf i).toNat)
        case atStart => exact ⟨0, Nat.zero_le _, rfl, HB5.out⟩
        case round =>
          obtain ⟨p, hp, rfl, hb6⟩ := hrel
          have HB6 := Lib.hid hb6
          have r1 := (HTA.out _ hb6).2.1 k hlt
          by_cases hpd : p < d
          · have hpi : (p : Int) < (d : Int) := by omega
            have c1 := (HFA.out _ hb6).2 k p hlt hpd
            have r2 := (HFA.out _ hb6).1 k hlt
            obtain ⟨x, hx⟩ : ∃ x, hF f k p = x := ⟨_, rfl⟩
            rw [hx] at c1
            have HX := Lib.hid hx
            clear hb6 hx
            cases x
            · go_wp2
              go_roundw
              case rel => exact ⟨p + 1, by omega, by go_num, HB6.out⟩
              case measure => simp [intOf]; omega
            by_cases hn0 : N = 0
            · subst hn0
              go_wp2
              go_roundw
              case rel => exact ⟨p + 1, by omega, by go_num, HB6.out⟩
              case measure => simp [intOf]; omega
            have hn0' : (N == 0) = false := by rw [beq_eq_false_iff_ne]; exact hn0
            have hsf := HZ.out k p (by rw [HQ.out]; exact hlt) (by rw [HD.out]; exact hpd) HX.out
            obtain ⟨s1, s2, s3⟩ := safB_iff.1 hsf
            obtain ⟨o, ho1, ho2, ho3⟩ := (safB_two HMK.out (by rw [HQ.out]; exact hlt) (by rw [HD.out]; exact hpd) hsf (by omega)).1
            rw [HD.out] at ho1
            have HS2 := Lib.hid (show 2 ≤ sm d (one01 fun x => hF m k x) from by
              rcases Nat.lt_or_gt_of_ne ho2 with h | h
              · exact sm01_two (fun x => hF m k x) (l := o) (o := p) ho3 s1 h hpd
              · exact sm01_two (fun x => hF m k x) (l := p) (o := o) s1 ho3 h ho1)
            have hcl := HTB.out.cell (k := k) (l := p) (by rw [HQ.out]; exact hlt) (by rw [HD.out]; exact hpd)
            obtain ⟨y, hy⟩ : ∃ y, cF t k p = y := ⟨_, rfl⟩
            obtain ⟨lo, hlo⟩ : ∃ z, loI t m k p = z := ⟨_, rfl⟩
            rw [hy] at s3 hcl
            rw [hlo] at s3
            have HLO := Lib.hid hlo
            have HY := Lib.hid hy
            have HS3 := Lib.hid s3
            clear hy hlo s1 s2 s3 ho1 ho2 ho3 hsf
            go_wp2
            go_loopw [11, 12] (fun n l wx => ∃ x : Nat, x ≤ d ∧ l = .int .i64 x ∧ n = .int .i64 (sm x (one01 fun y => hF m k y)) ∧ Below w2.heap.size w2 wx) (fun _ l _ => d - (intOf l).toNat)
            case atStart => exact ⟨0, Nat.zero_le _, rfl, rfl, HB6.out⟩
            case round =>
              obtain ⟨x, hxd', rfl, rfl, hb7⟩ := hrel
              have HB7 := Lib.hid hb7
              have r1 := (HTA.out _ hb7).2.1 k hlt
              have hcnt := sm01 (fun y => hF m k y) x
              by_cases hxd : x < d
              · have hxi : (x : Int) < (d : Int) := by omega
                have r2 := (HUA.out _ hb7).1 k hlt
                have c1 := (HUA.out _ hb7).2 k x hlt hxd
                have hs : sm (x + 1) (one01 fun y => hF m k y) = sm x (one01 fun y => hF m k y) + if hF m k x = true then 1 else 0 := rfl
                obtain ⟨fl, hfl⟩ : ∃ f, hF m k x = f := ⟨_, rfl⟩
                rw [hfl] at c1 hs
                obtain ⟨s, hsx⟩ : ∃ s, sm x (one01 fun y => hF m k y) = s := ⟨_, rfl⟩
                rw [hsx] at hs hcnt ⊢
                have hws : IntKind.i64.wrap (s + 1) = s + 1 := by rw [IntKind.wrap_i64] <;> omega
                have HSS := Lib.hid hs
                clear hfl hsx hs hb7
                cases fl
                · go_wp2
                  go_roundw
                  case rel => exact ⟨x + 1, by omega, by go_num, by rw [HSS.out]; simp, HB7.out⟩
                  case measure => simp [intOf]; omega
                · go_wp2
                  go_roundw
                  case rel => exact ⟨x + 1, by omega, by go_num, by rw [HSS.out]; simp, HB7.out⟩
                  case measure => simp [intOf]; omega
              · obtain rfl : d = x := by omega
                obtain ⟨S, hS⟩ : ∃ S, sm d (one01 fun y => hF m k y) = S := ⟨_, rfl⟩
                have hs2 := HS2.out
                rw [hS] at hs2 hcnt ⊢
                have hs9 : decide (S < 2) = false := by simp; omega
                have c0 := (HTA.out _ hb7).2.2 k p hlt hpd
                rw [HY.out] at c0
                have L0 := Later.cell1 r1
                have L1 := Later.cell1 c0
                have HT9 := Lib.hid (HT2.out.below hb7)
                have HU9 := Lib.hid (HU2.out.below hb7)
                have hwy : IntKind.i64.wrap (y - N) = y - N := by rw [IntKind.wrap_i64]; omega
                have hs3 := HS3.out
                clear hS hcnt hxd hb7
                by_cases hp0 : 0 < y - N
                · have hd9 : decide (y - N < lo) = false := by simp; omega
                  go_wp2_with fail
                  refine region_quiet_later (by kernel_rfl) (by kernel_rfl) ?_
                  repeat (go_big_quiet_step (first
                    | (go_at_call 24
                       exact Later.back (iLow_is _ t _ HT9.out m _ HU9.out k p lo HLO.out _ (Later.h _)) fun _ _ h => h)))
                  refine wpQuiet_nil ?_
                  rintro _ ⟨L, rfl⟩
                  have HL := Lib.hid (below_step HB7.out L.h)
                  clear L0 L1
                  go_wp2
                  go_roundw
                  case rel => exact ⟨p + 1, by omega, by go_num, HL.out⟩
                  case measure => simp [intOf]; omega
                · have hd9 : decide (0 < lo) = false := by simp; omega
                  go_wp2_with fail
                  refine region_quiet_later (by kernel_rfl) (by kernel_rfl) ?_
                  repeat (go_big_quiet_step (first
                    | (go_at_call 24
                       exact Later.back (iLow_is _ t _ HT9.out m _ HU9.out k p lo HLO.out _ (Later.h _)) fun _ _ h => h)))
                  refine wpQuiet_nil ?_
                  rintro _ ⟨L, rfl⟩
                  have HL := Lib.hid (below_step HB7.out L.h)
                  clear L0 L1
                  go_wp2
                  go_roundw
                  case rel => exact ⟨p + 1, by omega, by go_num, HL.out⟩
                  case measure => simp [intOf]; omega
          · obtain rfl : d = p := by omega
            clear hb6
            go_wp2
            go_roundw
            case rel => exact ⟨k + 1, by omega, by go_num, HB6.out⟩
            case measure => simp [intOf]; omega
      · obtain rfl : q = k := by omega
        clear hlt hk
        go_wp2
        go_ret
        exact ⟨by first | rfl | exact retb (by simp) | exact retb (by simp; omega), HBB.out _ HB5.out⟩
end Go.Proofs.YtcbgihjoopjmeaaDoor
