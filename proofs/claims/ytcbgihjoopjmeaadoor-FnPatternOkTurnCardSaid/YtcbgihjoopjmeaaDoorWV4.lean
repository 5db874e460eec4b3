/- Walks of chapter 14: turned, fewer cells. -/
import Derived.Test.YtcbgihjoopjmeaaDoorVIB
import Derived.Test.YtcbgihjoopjmeaaDoorVSA
import Derived.Test.YtcbgihjoopjmeaaDoorVD
import Derived.Test.YtcbgihjoopjmeaaDoorWN0
import Derived.Test.YtcbgihjoopjmeaaDoorRQ
import Derived.Deep.RegionHeld3
namespace Go.Proofs.YtcbgihjoopjmeaaDoor
open Go.RowKit
set_option maxRecDepth 100000 in
set_option maxHeartbeats 4000000 in
theorem w_PatternOkTurn (A : Option Addr) (n c : Nat) (hnc : n ≤ c) (hn : n ≤ maxLen) (A2 : Option Addr) (n2 c2 : Nat) (_hmc : n2 ≤ c2) (hm : n2 ≤ maxLen) (w : World) (hb : Bytes w w.heap.size A n) (_hb2 : Bytes w w.heap.size A2 n2) (hT : TabW w) :
    Calls Tryd.prog 5 #[.slice A n c, .slice A2 n2 c2] w fun e w' => e = .returned (.bool true) ∧ Below w.heap.size w w' := by
  have hn2 := hn
  have hm2 := hm
  unfold maxLen at hn2 hm2
  rcases (show 1048576 < n ∨ (¬ 1048576 < n ∧ 1048576 < n2) ∨ ¬ 1048576 < n ∧ ¬ 1048576 < n2 by omega) with hbig | ⟨hbig, hbig2⟩ | ⟨hbig, hbig2⟩
  · go_enter Tryd.func5, Tryd.ntmps5
    go_wp2
    go_ret
    exact ⟨rfl, Below.refl _ _⟩
  · go_enter Tryd.func5, Tryd.ntmps5
    go_wp2
    go_ret
    exact ⟨rfl, Below.refl _ _⟩
  · go_enter Tryd.func5, Tryd.ntmps5
    go_wp2_with fail
    refine (dPOk_any A n c hnc hn _ hb).mono ?_
    rintro e W ⟨tv, fv, uv, t, f, m, N, rfl, ht, hf, hu, hl, hlr, hN, hbW⟩
    have HT := Lib.hid ht
    have HF := Lib.hid hf
    have HU := Lib.hid hu
    have HBW := Lib.hid hbW
    have HTW := Lib.hid (hT.below hbW)
    obtain ⟨g, hg⟩ : ∃ g, decide (needN t f m N = 0) = g := ⟨_, rfl⟩
    have HGB := Lib.hid hg
    clear hb ht hf hu hbW hl hlr hg hn hT
    go_wp2_with fail
    refine (iOk_is W t _ HT.out f _ HF.out m _ HU.out N g HGB.out _ (Below.refl _ _) HTW.out).mono ?_
    rintro e w1 ⟨rfl, b1⟩
    go_wp2_with fail
    refine (sOk2_is W t _ HT.out f _ HF.out m _ HU.out N g HGB.out _ b1).mono ?_
    rintro e w2 ⟨rfl, b2⟩
    cases g
    · go_wp2
      go_ret
      exact ⟨rfl, HBW.out.trans (b2.mono HBW.out.size)⟩
    have HG := Lib.hid (of_decide_eq_true HGB.out)
    clear HGB
    have h3 : pOk3 t f m N = true := needN_ok.1 (by have := HG.out; omega)
    obtain ⟨hfk, hmk, hN0, hN9⟩ := pOk3_iff.1 h3
    have H3 := Lib.hid h3
    have HFK := Lib.hid hfk
    have HMK := Lib.hid hmk
    have htb := mk_tab hmk
    have HTB := Lib.hid htb
    have HFL := Lib.hid (show f.length ≤ 1000 by have := (mk_parts.1 hfk).2.1; have := htb.h4; omega)
    have HFR := Lib.hid (show ∀ r ∈ f, r.length ≤ 100000 from fun r hr => by have := (mk_parts.1 hfk).2.2 r hr; have := htb.w4; omega)
    have HML := Lib.hid (show m.length ≤ 1000 by have := (mk_parts.1 hmk).2.1; have := htb.h4; omega)
    have HMR := Lib.hid (show ∀ r ∈ m, r.length ≤ 100000 from fun r hr => by have := (mk_parts.1 hmk).2.2 r hr; have := htb.w4; omega)
    have HTL := Lib.hid (show t.length ≤ 1000 by have := htb.h4; omega)
    have HTD := Lib.hid htb.len
    have HTD6 := Lib.hid (show wd t ≤ 1000 by have := htb.w4; omega)
    have HTR := Lib.hid (show ∀ r ∈ t, r.length ≤ 100000 from fun r hr => by have := htb.len r hr; have := htb.w4; omega)
    clear b1
    have HTK := Lib.hid (tab_iff.2 HTB.out)
    have HT2 := Lib.hid (HT.out.below b2)
    have HF2 := Lib.hid (HF.out.below b2)
    have HU2 := Lib.hid (HU.out.below b2)
    have HTW2 := Lib.hid (HTW.out.below b2)
    have ht1 := htb.h1
    have ht4 := htb.h4
    have hw1 := htb.w1
    have hw4 := htb.w4
    obtain ⟨_, hfl, hfr⟩ := mk_parts.1 hfk
    obtain ⟨_, hml, hmr⟩ := mk_parts.1 hmk
    obtain ⟨bt, ot, ct, tb, to, tc, htv, htall⟩ := HT2.out.all htb
    obtain ⟨bf, of_, cf, fb, fo, fc, hfv, hfall⟩ := HF2.out.all (d := wd t) (by omega) hw1 hfr
    obtain ⟨bm, om, cm, mb, mo, mc, huv, hmall⟩ := HU2.out.all (d := wd t) (by omega) hw1 hmr
    rw [hfl] at hfv
    rw [hml] at huv
    subst htv hfv huv
    obtain ⟨q, hq⟩ : ∃ q, t.length = q := ⟨_, rfl⟩
    obtain ⟨d, hd⟩ : ∃ d, wd t = d := ⟨_, rfl⟩
    have HQ := Lib.hid hq
    have HD := Lib.hid hd
    rw [hml, hq, hd] at hmall
    rw [hfl, hq, hd] at hfall
    rw [hq, hd] at htall
    have HTA := Lib.hid (show ∀ w', Below w2.heap.size w2 w' → w'.cell? ⟨bt, ot, none⟩ = some (.slice (some ⟨tb 0, to 0, none⟩) d (tc 0)) ∧ (∀ i, i < q → w'.cell? ⟨bt, ot + i, none⟩ = some (.slice (some ⟨tb i, to i, none⟩) d (tc i))) ∧ ∀ i j, i < q → j < d → w'.cell? ⟨tb i, to i + j, none⟩ = some (.int .i64 (cF t i j)) from
      fun w' h => ⟨(htall w' h).1 0 (by omega), htall w' h⟩)
    have HFA := Lib.hid hfall
    have HUA := Lib.hid hmall
    rw [hq] at HT2 HF2 HU2 ht1 ht4 ⊢
    rw [hd] at hw1 hw4
    have hq0i : (0 : Int) < (q : Int) := by omega
    have hq0 : 0 < q := ht1
    have hd0 : 0 < d := hw1
    have HB2 := Lib.hid b2
    have HBB := Lib.hid (show ∀ w', Below w2.heap.size w2 w' → Below w.heap.size w w' from fun w' h => HBW.out.trans ((below_step HB2.out h).mono HBW.out.size))
    clear htall hfall hmall hfk hmk hml hmr hfl hfr htb hq hd b2
    obtain ⟨k, l, hk, hkq, hl, hl2, hld⟩ := modTwo n2 q d hbig2 hq0 hd0
    have HKM := Lib.hid hk
    have HLM := Lib.hid hl2
    have HLE := Lib.hid hl
    clear hk hl hl2
    have hki : (k : Int) < (q : Int) := by omega
    have hli : (l : Int) < (d : Int) := by omega
    have hqn : ¬ q = 0 := Nat.ne_of_gt ht1
    have hdn : ¬ d = 0 := Nat.ne_of_gt hw1
    have HMQ := Lib.hid (show m.length = q by rw [(mk_parts.1 HMK.out).2.1, HQ.out])
    have HMD := Lib.hid (show ∀ k, k < q → (m.getD k []).length = d from fun k hk => by rw [(mk_parts.1 HMK.out).2.2 _ (by rw [getD_of _ _ (show k < m.length by rw [HMQ.out]; exact hk)]; exact List.getElem_mem _), HD.out])
    have HFFQ := Lib.hid (show f.length = q by rw [(mk_parts.1 HFK.out).2.1, HQ.out])
    have HFFD := Lib.hid (show ∀ k, k < q → (f.getD k []).length = d from fun k hk => by rw [(mk_parts.1 HFK.out).2.2 _ (by rw [getD_of _ _ (show k < f.length by rw [HFFQ.out]; exact hk)]; exact List.getElem_mem _), HD.out])
    go_wp2_with fail
    refine (iTurn_is w2 t _ HT2.out (turn t) true (by rw [turnI, if_pos HTK.out]) HTK.out _ (Below.refl _ _)).mono ?_
    rintro e w3 ⟨v3, rfl, ho3, h3'⟩
    have HTT3 := Lib.hid ho3.is
    have HB3 := Lib.hid h3'
    clear ho3 h3'
    go_wp2_with fail
    refine (lCopyM_is w2 f _ HF2.out (show f.length ≤ 1000 by have := HFFQ.out; omega) (fun r hr => by have := (mk_parts.1 HFK.out).2.2 r hr; have := HTB.out.w4; omega) _ HB3.out).mono ?_
    rintro e w5 ⟨v5, rfl, ho5, hh5⟩
    obtain ⟨gg5, cc5, gi5, ci5, hv5, f5, ⟨hgB5, hgT5⟩, ⟨hgi5, hgiT5⟩, hgg5, ff5, hfz5, hset5⟩ := ho5.cell (i := k) (j := l) (by rw [HFFQ.out]; exact hkq) (by rw [HFFD.out k hkq]; exact hld)
    rw [HFFD.out k hkq] at f5
    rw [HFFQ.out] at hv5
    subst hv5
    obtain ⟨f', hnew5⟩ : ∃ x, f.set k ((f.getD k []).set l false) = x := ⟨_, rfl⟩
    have hok5 : mkOk t f' = true := by rw [← hnew5]; exact mk_setM HFK.out false (by rw [HQ.out]; exact hkq) (by rw [HD.out]; exact hld)
    have hcl5 : ∀ a b, hF f' a b = if a = k ∧ b = l then false else hF f a b := fun a b => by
      rw [← hnew5, hF_setB f false (by rw [HFFQ.out]; exact hkq) (by rw [HFFD.out k hkq]; exact hld)]
    have hb5 := below_step HB3.out hh5
    have e0 := (HTA.out _ hb5).1
    have hk9 : (n2 : Int).tmod (q : Int) = (k : Int) := by rw [Int.tmod_eq_emod_of_nonneg (by omega)]; exact HKM.out
    have hl9 := HLM.out
    go_wp2_with fail
    refine wp_region_still_tail 19 (by kernel_rfl) (by kernel_rfl) ?_
    simp only [List.take_succ_cons, List.take_zero, List.drop_succ_cons, List.drop_zero]
    repeat still_step
    try refine wpStill_nil ?_
    change wpList _ _ _ _ _ w5.drew
    clear hk9 hl9 e0
    obtain ⟨Y5, hY5⟩ : ∃ y, y = w5.drew := ⟨_, rfl⟩
    rw [← hY5]
    have HYE5 := Lib.hid hY5
    have ffy5 : Y5.cell? ⟨gi5, l, none⟩ = w5.cell? ⟨gi5, l, none⟩ := by rw [hY5]; rfl
    have hfy5 : Y5.frozen? ⟨gi5, l, none⟩ = false := by rw [hY5]; exact hfz5
    rw [ff5] at ffy5
    have by5 : Below w5.heap.size w5 Y5 := by rw [hY5]; exact (Below.refl _ _).drew
    obtain ⟨X5, hX5⟩ : ∃ X, X = Y5.setCell ⟨gi5, l, none⟩ (.bool false) := ⟨_, rfl⟩
    have HXE5 := Lib.hid hX5.symm
    have hx5 := (hset5 false).same (w' := X5) (by rw [hX5, hY5]; exact Nat.le_refl _) (fun k _ _ => by rw [hX5, hY5]; rfl)
    rw [hnew5] at hx5
    have hxi5 := hx5.is
    have HX5 := Lib.hid hxi5
    clear hset5 hx5 hxi5 hnew5 f5 ff5 hfz5 hY5 hX5
    go_wp2_with fail
    rw [HXE5.out]
    clear ffy5 hfy5
    have hs5 : Below w3.heap.size w3 X5 := by rw [← HXE5.out]; exact (below_step hh5 by5).setCell (p := ⟨gi5, l, none⟩) hgi5 _
    have hz5 := below_step HB3.out hs5
    have HT5 := Lib.hid (HT2.out.below hz5)
    have HF5 := Lib.hid (HF2.out.below hz5)
    have HU5 := Lib.hid (HU2.out.below hz5)
    have HTT5 := Lib.hid (HTT3.out.below hs5)
    have HTW5 := Lib.hid (HTW2.out.below hz5)
    have HZ5 := Lib.hid hz5
    have HG3 := Lib.hid (show decide (needN (turn t) (mturn f) (mturn m) N = 0) = true from decide_eq_true (need_turn HG.out))
    have HG4 := Lib.hid (show decide (needN t f' m N = 0) = true from decide_eq_true (need_fewer HG.out hok5 (fun a b _ _ h => by rw [hcl5] at h; split at h <;> first | exact h | cases h)))
    have HDR := Lib.hid (show ∀ r ∈ f, r.length = d from fun r hr => by rw [(mk_parts.1 HFK.out).2.2 r hr, HD.out])
    have HDR2 := Lib.hid (show ∀ r ∈ m, r.length = d from fun r hr => by rw [(mk_parts.1 HMK.out).2.2 r hr, HD.out])
    clear hb5 hs5 hz5 by5 hcl5 hok5 ho5 hh5 hgB5 hgT5 hgiT5 h3
    refine (lTurnM_is X5 f _ HF5.out d (by have := HFFQ.out; omega) (by have := HFFQ.out; omega) HDR.out (by omega) (mturn f) rfl _ (Below.refl _ _)).mono ?_
    rintro e w6 ⟨v6, rfl, ho6, h6⟩
    have HV6 := Lib.hid ho6.is
    have HB6 := Lib.hid h6
    clear ho6 h6
    go_wp2_with fail
    refine (lTurnM_is X5 m _ HU5.out d (by have := HMQ.out; omega) (by have := HMQ.out; omega) HDR2.out (by omega) (mturn m) rfl _ HB6.out).mono ?_
    rintro e w7 ⟨v7, rfl, ho7, h7⟩
    have HV7 := Lib.hid ho7.is
    have HB7 := Lib.hid (below_step HB6.out h7)
    have HV67 := Lib.hid (HV6.out.below h7)
    clear ho7 h7
    go_wp2_with fail
    refine (iOk_is w7 (turn t) _ (HTT5.out.below HB7.out) (mturn f) _ HV67.out (mturn m) _ HV7.out N true HG3.out _ (Below.refl _ _) (HTW5.out.below HB7.out)).mono ?_
    rintro e w8 ⟨rfl, h8⟩
    have hb8 := below_step HB7.out h8
    clear h8
    go_wp2_with fail
    refine (iOk_is X5 t _ HT5.out f' _ HX5.out m _ HU5.out N true HG4.out _ hb8 HTW5.out).mono ?_
    rintro e w9 ⟨rfl, h9⟩
    have HK := Lib.hid (HBB.out _ (below_step HZ5.out h9))
    clear h9 hb8
    go_wp2
    all_goals
      go_ret
      exact ⟨by first | rfl | exact retb (by simp) | exact retb (by simp; omega), HK.out⟩
end Go.Proofs.YtcbgihjoopjmeaaDoor
