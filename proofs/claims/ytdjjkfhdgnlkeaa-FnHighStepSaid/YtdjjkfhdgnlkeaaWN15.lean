/- A law of chapter 13: HighStep. -/
import Derived.Test.YtdjjkfhdgnlkeaaWN0
import Derived.Deep.RegionHeld3
import Derived.Test.YtdjjkfhdgnlkeaaWL0
import Derived.Test.YtdjjkfhdgnlkeaaRQ
namespace Go.Proofs.Ytdjjkfhdgnlkeaa
open Go.RowKit
set_option maxRecDepth 100000 in
set_option maxHeartbeats 40000000 in
theorem w_HighStep (A : Option Addr) (n c : Nat) (hnc : n ≤ c) (hn : n ≤ maxLen) (w : World) (hb : Bytes w w.heap.size A n) :
    Calls Try.prog 8 #[.slice A n c] w fun e w' => e = .returned (.bool true) ∧ Below w.heap.size w w' := by
  have hn2 := hn
  unfold maxLen at hn2
  rcases (show 1048576 < n ∨ ¬ 1048576 < n by omega) with hbig | hbig
  · go_enter Try.func8, Try.ntmps8
    go_wp2
    go_ret
    exact ⟨rfl, Below.refl _ _⟩
  · go_enter Try.func8, Try.ntmps8
    go_wp2_with fail
    refine (dBoundHigh_any A n c hnc hn _ hb).mono ?_
    rintro e W ⟨tv, uv, t, m, i, j, rfl, ht, hu, hl, hlr, hml, hmr, hbW⟩
    have HT := Lib.hid ht
    have HU := Lib.hid hu
    have HBW := Lib.hid hbW
    obtain ⟨g, hg⟩ : ∃ g, hiI t m i j = g := ⟨_, rfl⟩
    have HG := Lib.hid hg
    clear hb ht hu hbW hl hlr hml hmr hg hn
    go_wp2_with fail
    refine (iHigh_is W t _ HT.out m _ HU.out i j g HG.out _ (Below.refl _ _)).mono ?_
    rintro e w1 ⟨rfl, b1⟩
    go_wp2_with fail
    refine (sHigh_is W t _ HT.out m _ HU.out i j g HG.out _ b1).mono ?_
    rintro e w2 ⟨rfl, b2⟩
    by_cases hneg : g < 0
    · go_wp2
      go_ret
      exact ⟨rfl, HBW.out.trans (b2.mono HBW.out.size)⟩
    have hok : bOk t m i j = true := by
      cases e : bOk t m i j
      · exfalso; have h9 := HG.out; rw [hiI, if_neg (by simp [e])] at h9; omega
      · rfl
    obtain ⟨hmk, hi0, hiq, hj0, hjd⟩ := bOk_iff.1 hok
    obtain ⟨a, rfl⟩ := Int.eq_ofNat_of_zero_le hi0
    obtain ⟨b, rfl⟩ := Int.eq_ofNat_of_zero_le hj0
    obtain ⟨htb, hml, hmr⟩ := mk_parts.1 hmk
    have haq : a < t.length := by omega
    have hbd : b < wd t := by omega
    have HMK := Lib.hid hmk
    have HTB := Lib.hid htb
    have HAQ := Lib.hid haq
    have HBD := Lib.hid hbd
    have HML := Lib.hid (show m.length ≤ 1000 by have := htb.h4; omega)
    have HMR := Lib.hid (show ∀ r ∈ m, r.length ≤ 100000 from fun r hr => by have := hmr r hr; have := htb.w4; omega)
    have HTL := Lib.hid (show t.length ≤ 1000 by have := htb.h4; omega)
    have HTD := Lib.hid htb.len
    have HTD6 := Lib.hid (show wd t ≤ 1000 by have := htb.w4; omega)
    have HTR := Lib.hid (show ∀ r ∈ t, r.length ≤ 100000 from fun r hr => by have := htb.len r hr; have := htb.w4; omega)
    clear hok hi0 hj0 b1
    have ht1 := htb.h1
    have ht4 := htb.h4
    have hw1 := htb.w1
    have hw4 := htb.w4
    have HT2 := Lib.hid (HT.out.below b2)
    have HU2 := Lib.hid (HU.out.below b2)
    obtain ⟨bt, ot, ct, tb, to, tc, htv, htall⟩ := HT2.out.all htb
    obtain ⟨bm, om, cm, mb, mo, mc, huv, hmall⟩ := HU2.out.all (d := wd t) (by omega) hw1 hmr
    rw [hml] at huv
    subst htv huv
    obtain ⟨q, hq⟩ : ∃ q, t.length = q := ⟨_, rfl⟩
    obtain ⟨d, hd⟩ : ∃ d, wd t = d := ⟨_, rfl⟩
    have HQ := Lib.hid hq
    have HD := Lib.hid hd
    rw [hml, hq, hd] at hmall
    rw [hq, hd] at htall
    have HTA := Lib.hid (show ∀ w', Below w2.heap.size w2 w' → w'.cell? ⟨bt, ot, none⟩ = some (.slice (some ⟨tb 0, to 0, none⟩) d (tc 0)) ∧ (∀ i, i < q → w'.cell? ⟨bt, ot + i, none⟩ = some (.slice (some ⟨tb i, to i, none⟩) d (tc i))) ∧ ∀ i j, i < q → j < d → w'.cell? ⟨tb i, to i + j, none⟩ = some (.int .i64 (cF t i j)) from
      fun w' h => ⟨(htall w' h).1 0 (by omega), htall w' h⟩)
    have HUA := Lib.hid hmall
    rw [hq] at HT2 HU2 hiq ht1 ht4 haq ⊢
    rw [hd] at hw1 hw4 hbd hjd
    have hq0i : (0 : Int) < (q : Int) := by omega
    have hq0 : 0 < q := ht1
    have HB2 := Lib.hid b2
    have HBB := Lib.hid (show ∀ w', Below w2.heap.size w2 w' → Below w.heap.size w w' from fun w' h => HBW.out.trans ((below_step HB2.out h).mono HBW.out.size))
    clear htall hmall hmk hml hmr htb hq hd b2
    clear hjd hiq
    go_wp2
    go_loopw [9] (fun i wr => ∃ k : Nat, k ≤ q ∧ i = .int .i64 k ∧ Below w2.heap.size w2 wr) (fun i _ => q - (intOf i).toNat)
    case atStart => exact ⟨0, Nat.zero_le _, rfl, Below.refl _ _⟩
    case round =>
      obtain ⟨k, hk, rfl, hb5⟩ := hrel
      have HB5 := Lib.hid hb5
      clear hb5
      by_cases hlt : k < q
      · have hki : (k : Int) < (q : Int) := by omega
        have hai : (a : Int) < (q : Int) := by omega
        have hbi : (b : Int) < (d : Int) := by omega
        go_wp2
        go_loopw [10] (fun i wr' => ∃ p : Nat, p ≤ d ∧ i = .int .i64 p ∧ Below w2.heap.size w2 wr') (fun i _ => d - (intOf i).toNat)
        case atStart => exact ⟨0, Nat.zero_le _, rfl, HB5.out⟩
        case round =>
          obtain ⟨p, hp, rfl, hb6⟩ := hrel
          have HB6 := Lib.hid hb6
          obtain ⟨e0, hR, hC⟩ := HTA.out _ hb6
          obtain ⟨hR2, hC2⟩ := HUA.out _ hb6
          clear hb6
          by_cases hpd : p < d
          · have hpi : (p : Int) < (d : Int) := by omega
            have hb1 := HTB.out.cell (k := a) (l := b) HAQ.out HBD.out
            have hb2 := HTB.out.cell (k := a) (l := p) HAQ.out (by rw [HD.out]; exact hpd)
            have hb3 := HTB.out.cell (k := k) (l := b) (by rw [HQ.out]; exact hlt) HBD.out
            obtain ⟨pa, hpa⟩ : ∃ x, cF t a b = x := ⟨_, rfl⟩
            obtain ⟨pb, hpb⟩ : ∃ x, cF t a p = x := ⟨_, rfl⟩
            obtain ⟨pc, hpc⟩ : ∃ x, cF t k b = x := ⟨_, rfl⟩
            obtain ⟨f1, hf1⟩ : ∃ x, hF m a b = x := ⟨_, rfl⟩
            obtain ⟨f2, hf2⟩ : ∃ x, hF m a p = x := ⟨_, rfl⟩
            obtain ⟨f3, hf3⟩ : ∃ x, hF m k b = x := ⟨_, rfl⟩
            obtain ⟨f4, hf4⟩ : ∃ x, hF m k p = x := ⟨_, rfl⟩
            rw [hpa] at hb1
            rw [hpb] at hb2
            rw [hpc] at hb3
            have PA := Lib.hid hpa
            have PB := Lib.hid hpb
            have PC := Lib.hid hpc
            have F1 := Lib.hid hf1
            have F2 := Lib.hid hf2
            have F3 := Lib.hid hf3
            have F4 := Lib.hid hf4
            have hwb : IntKind.i64.wrap (pa + pb) = pa + pb := by rw [IntKind.wrap_i64] <;> omega
            have hwc : IntKind.i64.wrap (pa + pc) = pa + pc := by rw [IntKind.wrap_i64] <;> omega
            have HST := Lib.hid (show k ≠ a → p ≠ b → f1 = true → f2 = true → f3 = true → f4 = true → pa + min pb pc ≤ g from fun e1 e2 e3 e4 e5 e6 => by
              have h9 := m_step HMK.out HAQ.out HBD.out (k := k) (l := p) (by rw [HQ.out]; exact hlt) (by rw [HD.out]; exact hpd) e1 e2 (by rw [F1.out, e3]) (by rw [F2.out, e4]) (by rw [F3.out, e5]) (by rw [F4.out, e6])
              rw [PA.out, PB.out, PC.out, HG.out] at h9
              omega)
            clear hpa hpb hpc hf1 hf2 hf3 hf4 hb1 hb2 hb3
            have r1 := hR a haq
            have r2 := hR k hlt
            have r3 := hR2 a haq
            have r4 := hR2 k hlt
            have c1 := hC a b haq hbd
            have c2 := hC a p haq hpd
            have c3 := hC k b hlt hbd
            have c4 := hC2 a b haq hbd
            have c5 := hC2 a p haq hpd
            have c6 := hC2 k b hlt hbd
            have c7 := hC2 k p hlt hpd
            rw [PA.out] at c1
            rw [PB.out] at c2
            rw [PC.out] at c3
            rw [F1.out] at c4
            rw [F2.out] at c5
            rw [F3.out] at c6
            rw [F4.out] at c7
            clear hR hC hR2 hC2
            have L1 := Later.cell1 r1
            have L2 := Later.cell1 r2
            have L3 := Later.cell1 c1
            have L4 := Later.cell1 c2
            have L5 := Later.cell1 c3
            by_cases hka : k = a
            · subst hka
              clear c6 c7 r2 r4 c3 hki
              cases f1
              · go_wp2_with fail
                refine region_quiet_later (by kernel_rfl) (by kernel_rfl) ?_
                repeat (go_big_quiet_step (fail))
                refine wpQuiet_nil ?_
                rintro _ ⟨L, rfl⟩
                have HL := Lib.hid (below_step HB6.out L.h)
                clear L1 L2 L3 L4 L5
                go_wp2
                go_roundw
                case rel => exact ⟨p + 1, by omega, by go_num, HL.out⟩
                case measure => simp [intOf]; omega
              cases f2
              · go_wp2_with fail
                refine region_quiet_later (by kernel_rfl) (by kernel_rfl) ?_
                repeat (go_big_quiet_step (fail))
                refine wpQuiet_nil ?_
                rintro _ ⟨L, rfl⟩
                have HL := Lib.hid (below_step HB6.out L.h)
                clear L1 L2 L3 L4 L5
                go_wp2
                go_roundw
                case rel => exact ⟨p + 1, by omega, by go_num, HL.out⟩
                case measure => simp [intOf]; omega
              · go_wp2_with fail
                refine region_quiet_later (by kernel_rfl) (by kernel_rfl) ?_
                repeat (go_big_quiet_step (fail))
                refine wpQuiet_nil ?_
                rintro _ ⟨L, rfl⟩
                have HL := Lib.hid (below_step HB6.out L.h)
                clear L1 L2 L3 L4 L5
                go_wp2
                go_roundw
                case rel => exact ⟨p + 1, by omega, by go_num, HL.out⟩
                case measure => simp [intOf]; omega
            have h1 : ¬ (k : Int) = (a : Int) := by omega
            have h1b : ((k : Int) == (a : Int)) = false := by rw [beq_eq_false_iff_ne]; exact h1
            have h1c : decide ((k : Int) = (a : Int)) = false := decide_eq_false h1
            have h1d : ((k : Int) != (a : Int)) = true := by simp [bne, h1b]
            by_cases hpb : p = b
            · subst hpb
              clear c5 c7 c2 hpi
              cases f1
              · go_wp2_with fail
                refine region_quiet_later (by kernel_rfl) (by kernel_rfl) ?_
                repeat (go_big_quiet_step (fail))
                refine wpQuiet_nil ?_
                rintro _ ⟨L, rfl⟩
                have HL := Lib.hid (below_step HB6.out L.h)
                clear L1 L2 L3 L4 L5
                go_wp2
                go_roundw
                case rel => exact ⟨p + 1, by omega, by go_num, HL.out⟩
                case measure => simp [intOf]; omega
              cases f3
              · go_wp2_with fail
                refine region_quiet_later (by kernel_rfl) (by kernel_rfl) ?_
                repeat (go_big_quiet_step (fail))
                refine wpQuiet_nil ?_
                rintro _ ⟨L, rfl⟩
                have HL := Lib.hid (below_step HB6.out L.h)
                clear L1 L2 L3 L4 L5
                go_wp2
                go_roundw
                case rel => exact ⟨p + 1, by omega, by go_num, HL.out⟩
                case measure => simp [intOf]; omega
              · go_wp2_with fail
                refine region_quiet_later (by kernel_rfl) (by kernel_rfl) ?_
                repeat (go_big_quiet_step (fail))
                refine wpQuiet_nil ?_
                rintro _ ⟨L, rfl⟩
                have HL := Lib.hid (below_step HB6.out L.h)
                clear L1 L2 L3 L4 L5
                go_wp2
                go_roundw
                case rel => exact ⟨p + 1, by omega, by go_num, HL.out⟩
                case measure => simp [intOf]; omega
            have h2 : ¬ (p : Int) = (b : Int) := by omega
            have h2b : ((p : Int) == (b : Int)) = false := by rw [beq_eq_false_iff_ne]; exact h2
            have h2c : decide ((p : Int) = (b : Int)) = false := decide_eq_false h2
            have h2d : ((p : Int) != (b : Int)) = true := by simp [bne, h2b]
            cases f1
            · go_wp2_with fail
              refine region_quiet_later (by kernel_rfl) (by kernel_rfl) ?_
              repeat (go_big_quiet_step (fail))
              refine wpQuiet_nil ?_
              rintro _ ⟨L, rfl⟩
              have HL := Lib.hid (below_step HB6.out L.h)
              clear L1 L2 L3 L4 L5
              go_wp2
              go_roundw
              case rel => exact ⟨p + 1, by omega, by go_num, HL.out⟩
              case measure => simp [intOf]; omega
            cases f2
            · go_wp2_with fail
              refine region_quiet_later (by kernel_rfl) (by kernel_rfl) ?_
              repeat (go_big_quiet_step (fail))
              refine wpQuiet_nil ?_
              rintro _ ⟨L, rfl⟩
              have HL := Lib.hid (below_step HB6.out L.h)
              clear L1 L2 L3 L4 L5
              go_wp2
              go_roundw
              case rel => exact ⟨p + 1, by omega, by go_num, HL.out⟩
              case measure => simp [intOf]; omega
            cases f3
            · go_wp2_with fail
              refine region_quiet_later (by kernel_rfl) (by kernel_rfl) ?_
              repeat (go_big_quiet_step (fail))
              refine wpQuiet_nil ?_
              rintro _ ⟨L, rfl⟩
              have HL := Lib.hid (below_step HB6.out L.h)
              clear L1 L2 L3 L4 L5
              go_wp2
              go_roundw
              case rel => exact ⟨p + 1, by omega, by go_num, HL.out⟩
              case measure => simp [intOf]; omega
            cases f4
            · go_wp2_with fail
              refine region_quiet_later (by kernel_rfl) (by kernel_rfl) ?_
              repeat (go_big_quiet_step (fail))
              refine wpQuiet_nil ?_
              rintro _ ⟨L, rfl⟩
              have HL := Lib.hid (below_step HB6.out L.h)
              clear L1 L2 L3 L4 L5
              go_wp2
              go_roundw
              case rel => exact ⟨p + 1, by omega, by go_num, HL.out⟩
              case measure => simp [intOf]; omega
            have hst := HST.out hka hpb rfl rfl rfl rfl
            by_cases hc : pc < pb
            · have hst1 : decide (g < pa + pc) = false := by simp; omega
              go_wp2_with fail
              refine region_quiet_later (by kernel_rfl) (by kernel_rfl) ?_
              repeat (go_big_quiet_step (fail))
              refine wpQuiet_nil ?_
              rintro _ ⟨L, rfl⟩
              have HL := Lib.hid (below_step HB6.out L.h)
              clear L1 L2 L3 L4 L5
              go_wp2
              go_roundw
              case rel => exact ⟨p + 1, by omega, by go_num, HL.out⟩
              case measure => simp [intOf]; omega
            · have hst1 : decide (g < pa + pb) = false := by simp; omega
              go_wp2_with fail
              refine region_quiet_later (by kernel_rfl) (by kernel_rfl) ?_
              repeat (go_big_quiet_step (fail))
              refine wpQuiet_nil ?_
              rintro _ ⟨L, rfl⟩
              have HL := Lib.hid (below_step HB6.out L.h)
              clear L1 L2 L3 L4 L5
              go_wp2
              go_roundw
              case rel => exact ⟨p + 1, by omega, by go_num, HL.out⟩
              case measure => simp [intOf]; omega
          · obtain rfl : d = p := by omega
            clear hR hC hR2 hC2
            go_wp2
            go_roundw
            case rel => exact ⟨k + 1, by omega, by go_num, HB6.out⟩
            case measure => simp [intOf]; omega
      · obtain rfl : q = k := by omega
        go_wp2
        go_ret
        exact ⟨by first | rfl | exact retb (by simp), HBB.out _ HB5.out⟩
end Go.Proofs.Ytdjjkfhdgnlkeaa
