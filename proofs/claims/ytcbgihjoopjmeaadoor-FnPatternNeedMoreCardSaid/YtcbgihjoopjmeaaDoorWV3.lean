/- Walks of chapter 14: more cells, fewer needs. -/
import Derived.Test.YtcbgihjoopjmeaaDoorVIB
import Derived.Test.YtcbgihjoopjmeaaDoorVSA
import Derived.Test.YtcbgihjoopjmeaaDoorVD
import Derived.Test.YtcbgihjoopjmeaaDoorWN0
import Derived.Test.YtcbgihjoopjmeaaDoorRQ
import Derived.Deep.RegionHeld3
namespace Go.Proofs.YtcbgihjoopjmeaaDoor
open Go.RowKit
set_option maxRecDepth 100000 in
set_option maxHeartbeats 4000000 in
theorem w_PatternNeedMore (A : Option Addr) (n c : Nat) (hnc : n ≤ c) (hn : n ≤ maxLen) (A2 : Option Addr) (n2 c2 : Nat) (_hmc : n2 ≤ c2) (hm : n2 ≤ maxLen) (w : World) (hb : Bytes w w.heap.size A n) (_hb2 : Bytes w w.heap.size A2 n2) (hT : TabW w) :
    Calls Tryd.prog 6 #[.slice A n c, .slice A2 n2 c2] w fun e w' => e = .returned (.bool true) ∧ Below w.heap.size w w' := by
  have hn2 := hn
  have hm2 := hm
  unfold maxLen at hn2 hm2
  rcases (show 1048576 < n ∨ (¬ 1048576 < n ∧ 1048576 < n2) ∨ ¬ 1048576 < n ∧ ¬ 1048576 < n2 by omega) with hbig | ⟨hbig, hbig2⟩ | ⟨hbig, hbig2⟩
  · go_enter Tryd.func6, Tryd.ntmps6
    go_wp2
    go_ret
    exact ⟨rfl, Below.refl _ _⟩
  · go_enter Tryd.func6, Tryd.ntmps6
    go_wp2
    go_ret
    exact ⟨rfl, Below.refl _ _⟩
  · go_enter Tryd.func6, Tryd.ntmps6
    go_wp2_with fail
    refine (dPNeed_any A n c hnc hn _ hb).mono ?_
    rintro e W ⟨tv, fv, uv, t, f, m, N, rfl, ht, hf, hu, hl, hlr, hN, hbW⟩
    have HT := Lib.hid ht
    have HF := Lib.hid hf
    have HU := Lib.hid hu
    have HBW := Lib.hid hbW
    have HTW := Lib.hid (hT.below hbW)
    obtain ⟨g, hg⟩ : ∃ g, needN t f m N = g := ⟨_, rfl⟩
    have HG := Lib.hid hg
    clear hb ht hf hu hbW hl hlr hg hn hT
    go_wp2_with fail
    refine (iNeed_is W t _ HT.out f _ HF.out m _ HU.out N g HG.out _ (Below.refl _ _) HTW.out).mono ?_
    rintro e w1 ⟨rfl, b1⟩
    go_wp2_with fail
    refine (sNeed_is W t _ HT.out f _ HF.out m _ HU.out N g HG.out _ b1).mono ?_
    rintro e w2 ⟨rfl, b2⟩
    by_cases hneg : g < 0
    · go_wp2
      go_ret
      exact ⟨rfl, HBW.out.trans (b2.mono HBW.out.size)⟩
    have h3 : pOk3 t f m N = true := needN_ok.1 (by have := HG.out; omega)
    obtain ⟨hfk, hmk, hN0, hN9⟩ := pOk3_iff.1 h3
    have H3 := Lib.hid h3
    have HFK := Lib.hid hfk
    have HMK := Lib.hid hmk
    have htb := mk_tab hmk
    have HTB := Lib.hid htb
    have HFL := Lib.hid (show f.length ≤ 1000 by have := (mk_parts.1 hfk).2.1; have := htb.h4; omega)
    have HFR := Lib.hid (show ∀ r ∈ f, r.length ≤ 100000 from fun r hr => by have := (mk_parts.1 hfk).2.2 r hr; have := htb.w4; omega)
    have HML := Lib.hid (show m.length ≤ 1000 by have := (mk_parts.1 hmk).2.1; have := htb.h4; omega)
    have HMR := Lib.hid (show ∀ r ∈ m, r.length ≤ 100000 from fun r hr => by have := (mk_parts.1 hmk).2.2 r hr; have := htb.w4; omega)
    have HTL := Lib.hid (show t.length ≤ 1000 by have := htb.h4; omega)
    have HTD := Lib.hid htb.len
    have HTD6 := Lib.hid (show wd t ≤ 1000 by have := htb.w4; omega)
    have HTR := Lib.hid (show ∀ r ∈ t, r.length ≤ 100000 from fun r hr => by have := htb.len r hr; have := htb.w4; omega)
    clear b1
    have HT2 := Lib.hid (HT.out.below b2)
    have HF2 := Lib.hid (HF.out.below b2)
    have HU2 := Lib.hid (HU.out.below b2)
    have HTW2 := Lib.hid (HTW.out.below b2)
    have ht1 := htb.h1
    have ht4 := htb.h4
    have hw1 := htb.w1
    have hw4 := htb.w4
    obtain ⟨_, hfl, hfr⟩ := mk_parts.1 hfk
    obtain ⟨_, hml, hmr⟩ := mk_parts.1 hmk
    obtain ⟨bt, ot, ct, tb, to, tc, htv, htall⟩ := HT2.out.all htb
    obtain ⟨bf, of_, cf, fb, fo, fc, hfv, hfall⟩ := HF2.out.all (d := wd t) (by omega) hw1 hfr
    obtain ⟨bm, om, cm, mb, mo, mc, huv, hmall⟩ := HU2.out.all (d := wd t) (by omega) hw1 hmr
    rw [hfl] at hfv
    rw [hml] at huv
    subst htv hfv huv
    obtain ⟨q, hq⟩ : ∃ q, t.length = q := ⟨_, rfl⟩
    obtain ⟨d, hd⟩ : ∃ d, wd t = d := ⟨_, rfl⟩
    have HQ := Lib.hid hq
    have HD := Lib.hid hd
    rw [hml, hq, hd] at hmall
    rw [hfl, hq, hd] at hfall
    rw [hq, hd] at htall
    have HTA := Lib.hid (show ∀ w', Below w2.heap.size w2 w' → w'.cell? ⟨bt, ot, none⟩ = some (.slice (some ⟨tb 0, to 0, none⟩) d (tc 0)) ∧ (∀ i, i < q → w'.cell? ⟨bt, ot + i, none⟩ = some (.slice (some ⟨tb i, to i, none⟩) d (tc i))) ∧ ∀ i j, i < q → j < d → w'.cell? ⟨tb i, to i + j, none⟩ = some (.int .i64 (cF t i j)) from
      fun w' h => ⟨(htall w' h).1 0 (by omega), htall w' h⟩)
    have HFA := Lib.hid hfall
    have HUA := Lib.hid hmall
    rw [hq] at HT2 HF2 HU2 ht1 ht4 ⊢
    rw [hd] at hw1 hw4
    have hq0i : (0 : Int) < (q : Int) := by omega
    have hq0 : 0 < q := ht1
    have hd0 : 0 < d := hw1
    have HB2 := Lib.hid b2
    have HBB := Lib.hid (show ∀ w', Below w2.heap.size w2 w' → Below w.heap.size w w' from fun w' h => HBW.out.trans ((below_step HB2.out h).mono HBW.out.size))
    clear htall hfall hmall hfk hmk hml hmr hfl hfr htb hq hd b2
    obtain ⟨k, l, hk, hkq, hl, hl2, hld⟩ := modTwo n2 q d hbig2 hq0 hd0
    have HKM := Lib.hid hk
    have HLM := Lib.hid hl2
    have HLE := Lib.hid hl
    clear hk hl hl2
    have hki : (k : Int) < (q : Int) := by omega
    have hli : (l : Int) < (d : Int) := by omega
    have hqn : ¬ q = 0 := Nat.ne_of_gt ht1
    have hdn : ¬ d = 0 := Nat.ne_of_gt hw1
    have HMQ := Lib.hid (show m.length = q by rw [(mk_parts.1 HMK.out).2.1, HQ.out])
    have HMD := Lib.hid (show ∀ k, k < q → (m.getD k []).length = d from fun k hk => by rw [(mk_parts.1 HMK.out).2.2 _ (by rw [getD_of _ _ (show k < m.length by rw [HMQ.out]; exact hk)]; exact List.getElem_mem _), HD.out])
    have HFFQ := Lib.hid (show f.length = q by rw [(mk_parts.1 HFK.out).2.1, HQ.out])
    have HFFD := Lib.hid (show ∀ k, k < q → (f.getD k []).length = d from fun k hk => by rw [(mk_parts.1 HFK.out).2.2 _ (by rw [getD_of _ _ (show k < f.length by rw [HFFQ.out]; exact hk)]; exact List.getElem_mem _), HD.out])
    have bd : Below w2.heap.size w2 w2.drew := (Below.refl _ _).drew
    have e0 := (HTA.out _ (Below.refl _ _)).1
    go_wp2_with fail
    go_region_held3 (fun w' => w'.cell? ⟨bt, ot, none⟩ = some (.slice (some ⟨tb 0, to 0, none⟩) d (tc 0))) (first | assumption | exact e0) (fail)
    rw [HKM.out, HLM.out]
    clear e0
    go_wp2_with fail
    refine (lCopyM_is w2 m _ HU2.out (show m.length ≤ 1000 by have := HMQ.out; omega) (fun r hr => by have := (mk_parts.1 HMK.out).2.2 r hr; have := HTB.out.w4; omega) _ bd).mono ?_
    rintro e w3 ⟨v3, rfl, ho3, hh3⟩
    obtain ⟨gg3, cc3, gi3, ci3, hv3, f3, ⟨hgB3, hgT3⟩, ⟨hgi3, hgiT3⟩, hgg3, ff3, hfz3, hset3⟩ := ho3.cell (i := k) (j := l) (by rw [HMQ.out]; exact hkq) (by rw [HMD.out k hkq]; exact hld)
    rw [HMD.out k hkq] at f3
    rw [HMQ.out] at hv3
    subst hv3
    obtain ⟨m', hnew3⟩ : ∃ x, m.set k ((m.getD k []).set l true) = x := ⟨_, rfl⟩
    have hok3 : mkOk t m' = true := by rw [← hnew3]; exact mk_setM HMK.out true (by rw [HQ.out]; exact hkq) (by rw [HD.out]; exact hld)
    have hcl3 : ∀ a b, hF m' a b = if a = k ∧ b = l then true else hF m a b := fun a b => by
      rw [← hnew3, hF_setB m true (by rw [HMQ.out]; exact hkq) (by rw [HMD.out k hkq]; exact hld)]
    obtain ⟨X3, hX3⟩ : ∃ X, X = w3.setCell ⟨gi3, l, none⟩ (.bool true) := ⟨_, rfl⟩
    have HXE3 := Lib.hid hX3.symm
    have hb3 := below_step bd hh3
    have hs3 : Below w2.heap.size w2 X3 := by rw [hX3]; exact hb3.setCell (p := ⟨gi3, l, none⟩) (Nat.le_trans bd.size hgi3) _
    have hx3 := (hset3 true).is
    rw [hnew3, ← hX3] at hx3
    have HX3 := Lib.hid hx3
    have HS3 := Lib.hid hs3
    clear hset3 hx3 hs3 hnew3 hX3 ho3 hh3 hb3 hgB3 hgT3 hgiT3 bd
    go_wp2_with fail
    rw [HXE3.out]
    clear f3 ff3 hfz3
    go_wp2_with fail
    refine (lCopyM_is w2 f _ HF2.out (show f.length ≤ 1000 by have := HFFQ.out; omega) (fun r hr => by have := (mk_parts.1 HFK.out).2.2 r hr; have := HTB.out.w4; omega) _ HS3.out).mono ?_
    rintro e w5 ⟨v5, rfl, ho5, hh5⟩
    obtain ⟨gg5, cc5, gi5, ci5, hv5, f5, ⟨hgB5, hgT5⟩, ⟨hgi5, hgiT5⟩, hgg5, ff5, hfz5, hset5⟩ := ho5.cell (i := k) (j := l) (by rw [HFFQ.out]; exact hkq) (by rw [HFFD.out k hkq]; exact hld)
    rw [HFFD.out k hkq] at f5
    rw [HFFQ.out] at hv5
    subst hv5
    obtain ⟨f', hnew5⟩ : ∃ x, f.set k ((f.getD k []).set l false) = x := ⟨_, rfl⟩
    have hok5 : mkOk t f' = true := by rw [← hnew5]; exact mk_setM HFK.out false (by rw [HQ.out]; exact hkq) (by rw [HD.out]; exact hld)
    have hcl5 : ∀ a b, hF f' a b = if a = k ∧ b = l then false else hF f a b := fun a b => by
      rw [← hnew5, hF_setB f false (by rw [HFFQ.out]; exact hkq) (by rw [HFFD.out k hkq]; exact hld)]
    obtain ⟨X5, hX5⟩ : ∃ X, X = w5.setCell ⟨gi5, l, none⟩ (.bool false) := ⟨_, rfl⟩
    have HXE5 := Lib.hid hX5.symm
    have hs5 : Below X3.heap.size X3 X5 := by rw [hX5]; exact hh5.setCell (p := ⟨gi5, l, none⟩) hgi5 _
    have hx5 := (hset5 false).is
    rw [hnew5, ← hX5] at hx5
    have HX5 := Lib.hid hx5
    have hz5 := below_step HS3.out hs5
    have HT5 := Lib.hid (HT2.out.below hz5)
    have HF5 := Lib.hid (HF2.out.below hz5)
    have HU5 := Lib.hid (HU2.out.below hz5)
    have HM5 := Lib.hid (HX3.out.below hs5)
    have HTW5 := Lib.hid (HTW2.out.below hz5)
    have HZ5 := Lib.hid hz5
    obtain ⟨g3, hg3⟩ : ∃ g, needN t f' m N = g := ⟨_, rfl⟩
    obtain ⟨g4, hg4⟩ : ∃ g, needN t f m' N = g := ⟨_, rfl⟩
    have HG3 := Lib.hid hg3
    have HG4 := Lib.hid hg4
    have h01 := need_first h3 hok5 (i := k) (j := l) (fun a b _ _ => hcl5 a b)
    have hle := need_more h3 hok3 (fun a b _ _ h => by rw [hcl3]; split <;> first | rfl | exact h)
    rw [HG.out, hg3] at h01
    rw [HG.out, hg4] at hle
    obtain ⟨D, hD, hD01⟩ : ∃ D, IntKind.i64.wrap (g - g3) = D ∧ (D = 0 ∨ D = 1) := ⟨_, rfl, by rw [IntKind.wrap_i64]; omega⟩
    clear hset5 hx5 hs5 hnew5 hX5 ho5 hh5 hgB5 hgT5 hgiT5 hz5 hg3 hg4 hcl3 hcl5 h01 hok3 hok5
    go_wp2_with fail
    rw [HXE5.out]
    refine (iNeed_is X5 t _ HT5.out f' _ HX5.out m _ HU5.out N g3 HG3.out _ (Below.refl _ _) HTW5.out).mono ?_
    rintro e y1 ⟨rfl, k1⟩
    go_wp2_with fail
    refine (iNeed_is X5 t _ HT5.out f _ HF5.out m' _ HM5.out N g4 HG4.out _ k1 HTW5.out).mono ?_
    rintro e y2 ⟨rfl, k2⟩
    have HK2 := Lib.hid (HBB.out _ (below_step HZ5.out k2))
    obtain ⟨hle1, hle2⟩ := hle
    clear k1 k2 f5 ff5 hfz5
    rcases hD01 with rfl | rfl
    all_goals
      go_wp2
      all_goals
        go_ret
        exact ⟨by first | rfl | exact retb (by simp) | exact retb (by simp; omega), HK2.out⟩
end Go.Proofs.YtcbgihjoopjmeaaDoor
