/- Walks of chapter 14: every cell of a pattern is safe. -/
import Derived.Test.YtcbgihjoopjmeaaDoorVIB
import Derived.Test.YtcbgihjoopjmeaaDoorVSA
import Derived.Test.YtcbgihjoopjmeaaDoorVD
import Derived.Test.YtcbgihjoopjmeaaDoorWN0
import Derived.Test.YtcbgihjoopjmeaaDoorRQ
import Derived.Deep.RegionHeld3
namespace Go.Proofs.YtcbgihjoopjmeaaDoor
open Go.RowKit
set_option maxRecDepth 100000 in
set_option maxHeartbeats 4000000 in
theorem w_PatternOk (A : Option Addr) (n c : Nat) (hnc : n ≤ c) (hn : n ≤ maxLen) (A2 : Option Addr) (n2 c2 : Nat) (_hmc : n2 ≤ c2) (hm : n2 ≤ maxLen) (w : World) (hb : Bytes w w.heap.size A n) (_hb2 : Bytes w w.heap.size A2 n2) (hT : TabW w) :
    Calls Tryd.prog 3 #[.slice A n c, .slice A2 n2 c2] w fun e w' => e = .returned (.bool true) ∧ Below w.heap.size w w' := by
  have hn2 := hn
  have hm2 := hm
  unfold maxLen at hn2 hm2
  rcases (show 1048576 < n ∨ (¬ 1048576 < n ∧ 1048576 < n2) ∨ ¬ 1048576 < n ∧ ¬ 1048576 < n2 by omega) with hbig | ⟨hbig, hbig2⟩ | ⟨hbig, hbig2⟩
  · go_enter Tryd.func3, Tryd.ntmps3
    go_wp2
    go_ret
    exact ⟨rfl, Below.refl _ _⟩
  · go_enter Tryd.func3, Tryd.ntmps3
    go_wp2
    go_ret
    exact ⟨rfl, Below.refl _ _⟩
  · go_enter Tryd.func3, Tryd.ntmps3
    go_wp2_with fail
    refine (dPOk_any A n c hnc hn _ hb).mono ?_
    rintro e W ⟨tv, fv, uv, t, f, m, N, rfl, ht, hf, hu, hl, hlr, hN, hbW⟩
    have HT := Lib.hid ht
    have HF := Lib.hid hf
    have HU := Lib.hid hu
    have HBW := Lib.hid hbW
    have HTW := Lib.hid (hT.below hbW)
    obtain ⟨g, hg⟩ : ∃ g, decide (needN t f m N = 0) = g := ⟨_, rfl⟩
    have HGB := Lib.hid hg
    clear hb ht hf hu hbW hl hlr hg hn hT
    go_wp2_with fail
    refine (iOk_is W t _ HT.out f _ HF.out m _ HU.out N g HGB.out _ (Below.refl _ _) HTW.out).mono ?_
    rintro e w1 ⟨rfl, b1⟩
    go_wp2_with fail
    refine (sOk2_is W t _ HT.out f _ HF.out m _ HU.out N g HGB.out _ b1).mono ?_
    rintro e w2 ⟨rfl, b2⟩
    cases g
    · go_wp2
      go_ret
      exact ⟨rfl, HBW.out.trans (b2.mono HBW.out.size)⟩
    have HG := Lib.hid (of_decide_eq_true HGB.out)
    clear HGB
    have h3 : pOk3 t f m N = true := needN_ok.1 (by have := HG.out; omega)
    obtain ⟨hfk, hmk, hN0, hN9⟩ := pOk3_iff.1 h3
    have H3 := Lib.hid h3
    have HFK := Lib.hid hfk
    have HMK := Lib.hid hmk
    have htb := mk_tab hmk
    have HTB := Lib.hid htb
    have HFL := Lib.hid (show f.length ≤ 1000 by have := (mk_parts.1 hfk).2.1; have := htb.h4; omega)
    have HFR := Lib.hid (show ∀ r ∈ f, r.length ≤ 100000 from fun r hr => by have := (mk_parts.1 hfk).2.2 r hr; have := htb.w4; omega)
    have HML := Lib.hid (show m.length ≤ 1000 by have := (mk_parts.1 hmk).2.1; have := htb.h4; omega)
    have HMR := Lib.hid (show ∀ r ∈ m, r.length ≤ 100000 from fun r hr => by have := (mk_parts.1 hmk).2.2 r hr; have := htb.w4; omega)
    have HTL := Lib.hid (show t.length ≤ 1000 by have := htb.h4; omega)
    have HTD := Lib.hid htb.len
    have HTD6 := Lib.hid (show wd t ≤ 1000 by have := htb.w4; omega)
    have HTR := Lib.hid (show ∀ r ∈ t, r.length ≤ 100000 from fun r hr => by have := htb.len r hr; have := htb.w4; omega)
    clear b1
    have HT2 := Lib.hid (HT.out.below b2)
    have HF2 := Lib.hid (HF.out.below b2)
    have HU2 := Lib.hid (HU.out.below b2)
    have HTW2 := Lib.hid (HTW.out.below b2)
    have ht1 := htb.h1
    have ht4 := htb.h4
    have hw1 := htb.w1
    have hw4 := htb.w4
    obtain ⟨_, hfl, hfr⟩ := mk_parts.1 hfk
    obtain ⟨_, hml, hmr⟩ := mk_parts.1 hmk
    obtain ⟨bt, ot, ct, tb, to, tc, htv, htall⟩ := HT2.out.all htb
    obtain ⟨bf, of_, cf, fb, fo, fc, hfv, hfall⟩ := HF2.out.all (d := wd t) (by omega) hw1 hfr
    obtain ⟨bm, om, cm, mb, mo, mc, huv, hmall⟩ := HU2.out.all (d := wd t) (by omega) hw1 hmr
    rw [hfl] at hfv
    rw [hml] at huv
    subst htv hfv huv
    obtain ⟨q, hq⟩ : ∃ q, t.length = q := ⟨_, rfl⟩
    obtain ⟨d, hd⟩ : ∃ d, wd t = d := ⟨_, rfl⟩
    have HQ := Lib.hid hq
    have HD := Lib.hid hd
    rw [hml, hq, hd] at hmall
    rw [hfl, hq, hd] at hfall
    rw [hq, hd] at htall
    have HTA := Lib.hid (show ∀ w', Below w2.heap.size w2 w' → w'.cell? ⟨bt, ot, none⟩ = some (.slice (some ⟨tb 0, to 0, none⟩) d (tc 0)) ∧ (∀ i, i < q → w'.cell? ⟨bt, ot + i, none⟩ = some (.slice (some ⟨tb i, to i, none⟩) d (tc i))) ∧ ∀ i j, i < q → j < d → w'.cell? ⟨tb i, to i + j, none⟩ = some (.int .i64 (cF t i j)) from
      fun w' h => ⟨(htall w' h).1 0 (by omega), htall w' h⟩)
    have HFA := Lib.hid hfall
    have HUA := Lib.hid hmall
    rw [hq] at HT2 HF2 HU2 ht1 ht4 ⊢
    rw [hd] at hw1 hw4
    have hq0i : (0 : Int) < (q : Int) := by omega
    have hq0 : 0 < q := ht1
    have hd0 : 0 < d := hw1
    have HB2 := Lib.hid b2
    have HBB := Lib.hid (show ∀ w', Below w2.heap.size w2 w' → Below w.heap.size w w' from fun w' h => HBW.out.trans ((below_step HB2.out h).mono HBW.out.size))
    clear htall hfall hmall hfk hmk hml hmr hfl hfr htb hq hd b2
    have HMQ := Lib.hid (show m.length = q by rw [(mk_parts.1 HMK.out).2.1, HQ.out])
    have HMD := Lib.hid (show ∀ k, k < q → (m.getD k []).length = d from fun k hk => by rw [(mk_parts.1 HMK.out).2.2 _ (by rw [getD_of _ _ (show k < m.length by rw [HMQ.out]; exact hk)]; exact List.getElem_mem _), HD.out])
    have HZ := Lib.hid (needN_zero.1 HG.out).2
    go_wp2
    go_loopw [11] (fun i wr => ∃ k : Nat, k ≤ q ∧ i = .int .i64 k ∧ Below w2.heap.size w2 wr) (fun i _ => q - (intOf i).toNat)
    case atStart => exact ⟨0, Nat.zero_le _, rfl, Below.refl _ _⟩
    case round =>
      obtain ⟨k, hk, rfl, hb5⟩ := hrel
      have HB5 := Lib.hid hb5
      by_cases hlt : k < q
      · have hki : (k : Int) < (q : Int) := by omega
        clear hb5
        go_wp2
        go_loopw [12] (fun i wr' => ∃ p : Nat, p ≤ d ∧ i = .int .i64 p ∧ Below w2.heap.size w2 wr') (fun i _ => d - (intOf i).toNat)
        case atStart => exact ⟨0, Nat.zero_le _, rfl, HB5.out⟩
        case round =>
          obtain ⟨p, hp, rfl, hb6⟩ := hrel
          have HB6 := Lib.hid hb6
          have r1 := (HTA.out _ hb6).2.1 k hlt
          by_cases hpd : p < d
          · have hpi : (p : Int) < (d : Int) := by omega
            have c1 := (HFA.out _ hb6).2 k p hlt hpd
            have r2 := (HFA.out _ hb6).1 k hlt
            obtain ⟨x, hx⟩ : ∃ x, hF f k p = x := ⟨_, rfl⟩
            rw [hx] at c1
            have HX := Lib.hid hx
            clear hb6 hx
            cases x
            · go_wp2
              go_roundw
              case rel => exact ⟨p + 1, by omega, by go_num, HB6.out⟩
              case measure => simp [intOf]; omega
            have HY := Lib.hid ((pSafe_nat HMK.out (by rw [HQ.out]; exact hlt) (by rw [HD.out]; exact hpd) hN0 hN9).trans (HZ.out k p (by rw [HQ.out]; exact hlt) (by rw [HD.out]; exact hpd) HX.out))
            go_wp2_with fail
            refine (iPSafe_is w2 t _ HT2.out m _ HU2.out k p N true HY.out _ HB6.out HTW2.out).mono ?_
            rintro e x1 ⟨rfl, z1⟩
            clear r1 c1 r2
            go_wp2
            go_roundw
            case rel => exact ⟨p + 1, by omega, by go_num, z1⟩
            case measure => simp [intOf]; omega
          · obtain rfl : d = p := by omega
            clear hb6
            go_wp2
            go_roundw
            case rel => exact ⟨k + 1, by omega, by go_num, HB6.out⟩
            case measure => simp [intOf]; omega
      · obtain rfl : q = k := by omega
        obtain ⟨k, l, hk, hkq, hl, hl2, hld⟩ := modTwo n2 q d hbig2 hq0 hd0
        have HKM := Lib.hid hk
        have HLM := Lib.hid hl2
        have HLE := Lib.hid hl
        clear hk hl hl2
        have hki : (k : Int) < (q : Int) := by omega
        have hli : (l : Int) < (d : Int) := by omega
        have hqn : ¬ q = 0 := Nat.ne_of_gt ht1
        have hdn : ¬ d = 0 := Nat.ne_of_gt hw1
        clear hlt hb5
        go_wp2_with fail
        refine (lCopyM_is w2 m _ HU2.out (show m.length ≤ 1000 by have := HMQ.out; omega) (fun r hr => by have := (mk_parts.1 HMK.out).2.2 r hr; have := HTB.out.w4; omega) _ HB5.out).mono ?_
        rintro e w5 ⟨v5, rfl, ho5, hh5⟩
        obtain ⟨gg5, cc5, gi5, ci5, hv5, f5, ⟨hgB5, hgT5⟩, ⟨hgi5, hgiT5⟩, hgg5, ff5, hfz5, hset5⟩ := ho5.cell (i := k) (j := l) (by rw [HMQ.out]; exact hkq) (by rw [HMD.out k hkq]; exact hld)
        rw [HMD.out k hkq] at f5
        rw [HMQ.out] at hv5
        subst hv5
        obtain ⟨m', hnew5⟩ : ∃ x, m.set k ((m.getD k []).set l true) = x := ⟨_, rfl⟩
        have hok5 : mkOk t m' = true := by rw [← hnew5]; exact mk_setM HMK.out true (by rw [HQ.out]; exact hkq) (by rw [HD.out]; exact hld)
        have hcl5 : ∀ a b, hF m' a b = if a = k ∧ b = l then true else hF m a b := fun a b => by
          rw [← hnew5, hF_setB m true (by rw [HMQ.out]; exact hkq) (by rw [HMD.out k hkq]; exact hld)]
        have hb5 := below_step HB5.out hh5
        have e0 := (HTA.out _ hb5).1
        have hk9 : (n2 : Int).tmod (q : Int) = (k : Int) := by rw [Int.tmod_eq_emod_of_nonneg (by omega)]; exact HKM.out
        have hl9 := HLM.out
        go_wp2_with fail
        refine wp_region_still_tail 19 (by kernel_rfl) (by kernel_rfl) ?_
        simp only [List.take_succ_cons, List.take_zero, List.drop_succ_cons, List.drop_zero]
        repeat still_step
        try refine wpStill_nil ?_
        change wpList _ _ _ _ _ w5.drew
        clear hk9 hl9 e0
        obtain ⟨Y5, hY5⟩ : ∃ y, y = w5.drew := ⟨_, rfl⟩
        rw [← hY5]
        have HYE5 := Lib.hid hY5
        have ffy5 : Y5.cell? ⟨gi5, l, none⟩ = w5.cell? ⟨gi5, l, none⟩ := by rw [hY5]; rfl
        have hfy5 : Y5.frozen? ⟨gi5, l, none⟩ = false := by rw [hY5]; exact hfz5
        rw [ff5] at ffy5
        have by5 : Below w5.heap.size w5 Y5 := by rw [hY5]; exact (Below.refl _ _).drew
        obtain ⟨X5, hX5⟩ : ∃ X, X = Y5.setCell ⟨gi5, l, none⟩ (.bool true) := ⟨_, rfl⟩
        have HXE5 := Lib.hid hX5.symm
        have hx5 := (hset5 true).same (w' := X5) (by rw [hX5, hY5]; exact Nat.le_refl _) (fun k _ _ => by rw [hX5, hY5]; rfl)
        rw [hnew5] at hx5
        have hxi5 := hx5.is
        have HX5 := Lib.hid hxi5
        clear hset5 hx5 hxi5 hnew5 f5 ff5 hfz5 hY5 hX5
        go_wp2_with fail
        rw [HXE5.out]
        clear ffy5 hfy5
        have hs5 : Below w2.heap.size w2 X5 := by rw [← HXE5.out]; exact (below_step HB5.out (below_step hh5 by5)).setCell (p := ⟨gi5, l, none⟩) (Nat.le_trans HB5.out.size hgi5) _
        have HT5 := Lib.hid (HT2.out.below hs5)
        have HF5 := Lib.hid (HF2.out.below hs5)
        have HU5 := Lib.hid (HU2.out.below hs5)
        have HTW5 := Lib.hid (HTW2.out.below hs5)
        have HZ5 := Lib.hid hs5
        have HG4 := Lib.hid (show decide (needN t f m' N = 0) = true from decide_eq_true (need_wider HG.out hok5 (fun a b _ _ h => by rw [hcl5]; split <;> first | rfl | exact h)))
        clear hb5 hs5 by5 hcl5 hok5 ho5 hh5 hgB5 hgT5 hgiT5 h3
        refine (iNeed_is X5 t _ HT5.out f _ HF5.out m _ HU5.out N 0 HG.out _ (Below.refl _ _) HTW5.out).mono ?_
        rintro e w8 ⟨rfl, h8⟩
        go_wp2_with fail
        refine (iOk_is X5 t _ HT5.out f _ HF5.out m' _ HX5.out N true HG4.out _ h8 HTW5.out).mono ?_
        rintro e w9 ⟨rfl, h9⟩
        have HK := Lib.hid (HBB.out _ (below_step HZ5.out h9))
        clear h9 h8
        go_wp2
        all_goals
          go_ret
          exact ⟨by first | rfl | exact retb (by simp) | exact retb (by simp; omega), HK.out⟩
end Go.Proofs.YtcbgihjoopjmeaaDoor
