/- Walks of chapter 14: safe cells. -/
import Derived.Test.YtdjjkfhdgnlkeaaDoorVIB
import Derived.Test.YtdjjkfhdgnlkeaaDoorVSA
import Derived.Test.YtdjjkfhdgnlkeaaDoorVD
import Derived.Test.YtdjjkfhdgnlkeaaDoorWN0
import Derived.Test.YtdjjkfhdgnlkeaaDoorRQ
import Derived.Deep.RegionHeld3
namespace Go.Proofs.YtdjjkfhdgnlkeaaDoor
open Go.RowKit
set_option maxRecDepth 100000 in
set_option maxHeartbeats 4000000 in
theorem w_SafeNone (A : Option Addr) (n c : Nat) (hnc : n ≤ c) (hn : n ≤ maxLen) (w : World) (hb : Bytes w w.heap.size A n) (hT : TabW w) :
    Calls Tryd.prog 6 #[.slice A n c] w fun e w' => e = .returned (.bool true) ∧ Below w.heap.size w w' := by
  have hn2 := hn
  unfold maxLen at hn2
  rcases (show 1048576 < n ∨ ¬ 1048576 < n by omega) with hbig | hbig
  · go_enter Tryd.func6, Tryd.ntmps6
    go_wp2
    go_ret
    exact ⟨rfl, Below.refl _ _⟩
  · go_enter Tryd.func6, Tryd.ntmps6
    go_wp2_with fail
    refine (dPSafe_any A n c hnc hn _ hb).mono ?_
    rintro e W ⟨tv, uv, t, m, i, j, N, rfl, ht, hu, hl, hlr, hml, hmr, hN, hbW⟩
    have HT := Lib.hid ht
    have HU := Lib.hid hu
    have HBW := Lib.hid hbW
    have HTW := Lib.hid (hT.below hbW)
    obtain ⟨g, hg⟩ : ∃ g, pSafe t m i j N = g := ⟨_, rfl⟩
    have HGP := Lib.hid hg
    clear hb ht hu hbW hl hlr hml hmr hg hn hT
    go_wp2_with fail
    refine (iPSafe_is W t _ HT.out m _ HU.out i j N g HGP.out _ (Below.refl _ _) HTW.out).mono ?_
    rintro e w1 ⟨rfl, b1⟩
    go_wp2_with fail
    refine (sPSafe_is W t _ HT.out m _ HU.out i j N g HGP.out _ b1).mono ?_
    rintro e w2 ⟨rfl, b2⟩
    cases g
    · go_wp2
      go_ret
      exact ⟨rfl, HBW.out.trans (b2.mono HBW.out.size)⟩
    obtain ⟨hbok, hN0, hN9, hsf⟩ := pSafe_iff.1 HGP.out
    obtain ⟨hmk, hi0, hiq, hj0, hjd⟩ := bOk_iff.1 hbok
    obtain ⟨a, rfl⟩ := Int.eq_ofNat_of_zero_le hi0
    obtain ⟨b, rfl⟩ := Int.eq_ofNat_of_zero_le hj0
    simp only [Int.toNat_natCast] at hsf
    have HSF := Lib.hid hsf
    have HMK := Lib.hid hmk
    have htb := mk_tab hmk
    have HTB := Lib.hid htb
    have haq : a < t.length := by omega
    have hbd : b < wd t := by omega
    have HAQ := Lib.hid haq
    have HBD := Lib.hid hbd
    clear hbok hi0 hj0 b1 hsf
    have HT2 := Lib.hid (HT.out.below b2)
    have HU2 := Lib.hid (HU.out.below b2)
    have HTW2 := Lib.hid (HTW.out.below b2)
    have ht1 := htb.h1
    have ht4 := htb.h4
    have hw1 := htb.w1
    have hw4 := htb.w4
    obtain ⟨_, hml, hmr⟩ := mk_parts.1 hmk
    obtain ⟨bt, ot, ct, tb, to, tc, htv, htall⟩ := HT2.out.all htb
    obtain ⟨bm, om, cm, mb, mo, mc, huv, hmall⟩ := HU2.out.all (d := wd t) (by omega) hw1 hmr
    rw [hml] at huv
    subst htv huv
    obtain ⟨q, hq⟩ : ∃ q, t.length = q := ⟨_, rfl⟩
    obtain ⟨d, hd⟩ : ∃ d, wd t = d := ⟨_, rfl⟩
    have HQ := Lib.hid hq
    have HD := Lib.hid hd
    rw [hml, hq, hd] at hmall
    rw [hq, hd] at htall
    have HTA := Lib.hid (show ∀ w', Below w2.heap.size w2 w' → w'.cell? ⟨bt, ot, none⟩ = some (.slice (some ⟨tb 0, to 0, none⟩) d (tc 0)) ∧ (∀ i, i < q → w'.cell? ⟨bt, ot + i, none⟩ = some (.slice (some ⟨tb i, to i, none⟩) d (tc i))) ∧ ∀ i j, i < q → j < d → w'.cell? ⟨tb i, to i + j, none⟩ = some (.int .i64 (cF t i j)) from
      fun w' h => ⟨(htall w' h).1 0 (by omega), htall w' h⟩)
    have HUA := Lib.hid hmall
    rw [hq] at HT2 HU2 ht1 ht4 ⊢
    rw [hd] at hw1 hw4
    have hq0i : (0 : Int) < (q : Int) := by omega
    have hq0 : 0 < q := ht1
    have hd0 : 0 < d := hw1
    have HB2 := Lib.hid b2
    have HBB := Lib.hid (show ∀ w', Below w2.heap.size w2 w' → Below w.heap.size w w' from fun w' h => HBW.out.trans ((below_step HB2.out h).mono HBW.out.size))
    clear htall hmall hmk hml hmr htb hq hd b2
    rw [HQ.out] at haq
    rw [HD.out] at hbd
    obtain ⟨k, hka⟩ : ∃ k, k = a := ⟨_, rfl⟩
    obtain ⟨l, hlb⟩ : ∃ l, l = b := ⟨_, rfl⟩
    have hkq : k < q := by omega
    have hld : l < d := by omega
    subst hka hlb
    have HMQ := Lib.hid (show m.length = q by rw [(mk_parts.1 HMK.out).2.1, HQ.out])
    have HMD := Lib.hid (show ∀ k, k < q → (m.getD k []).length = d from fun k hk => by rw [(mk_parts.1 HMK.out).2.2 _ (by rw [getD_of _ _ (show k < m.length by rw [HMQ.out]; exact hk)]; exact List.getElem_mem _), HD.out])
    go_wp2_with fail
    refine (lCopyM_is w2 m _ HU2.out (show m.length ≤ 1000 by have := HMQ.out; omega) (fun r hr => by have := (mk_parts.1 HMK.out).2.2 r hr; have := HTB.out.w4; omega) _ (Below.refl _ _)).mono ?_
    rintro e w3 ⟨v3, rfl, ho3, hh3⟩
    obtain ⟨gg3, cc3, gi3, ci3, hv3, f3, ⟨hgB3, hgT3⟩, ⟨hgi3, hgiT3⟩, hgg3, ff3, hfz3, hset3⟩ := ho3.cell (i := k) (j := l) (by rw [HMQ.out]; exact hkq) (by rw [HMD.out k hkq]; exact hld)
    rw [HMD.out k hkq] at f3
    rw [HMQ.out] at hv3
    subst hv3
    obtain ⟨m', hnew3⟩ : ∃ x, m.set k ((m.getD k []).set l false) = x := ⟨_, rfl⟩
    have hok3 : mkOk t m' = true := by rw [← hnew3]; exact mk_setM HMK.out false (by rw [HQ.out]; exact hkq) (by rw [HD.out]; exact hld)
    have hcl3 : ∀ a b, hF m' a b = if a = k ∧ b = l then false else hF m a b := fun a b => by
      rw [← hnew3, hF_setB m false (by rw [HMQ.out]; exact hkq) (by rw [HMD.out k hkq]; exact hld)]
    obtain ⟨X3, hX3⟩ : ∃ X, X = w3.setCell ⟨gi3, l, none⟩ (.bool false) := ⟨_, rfl⟩
    have HXE3 := Lib.hid hX3.symm
    have hs3 : Below w2.heap.size w2 X3 := by rw [hX3]; exact hh3.setCell (p := ⟨gi3, l, none⟩) hgi3 _
    have hx3 := (hset3 false).is
    rw [hnew3, ← hX3] at hx3
    have HX3 := Lib.hid hx3
    have HT3 := Lib.hid (HT2.out.below hs3)
    have HU3 := Lib.hid (HU2.out.below hs3)
    have HTW3 := Lib.hid (HTW2.out.below hs3)
    have HS3 := Lib.hid hs3
    have HG1 := Lib.hid ((pSafe_nat HMK.out (by rw [HQ.out]; exact haq) (by rw [HD.out]; exact hbd) (Int.le_refl 0) (by omega)).trans ((safB_zero HMK.out (by rw [HQ.out]; exact haq) (by rw [HD.out]; exact hbd)).trans (safB_iff.1 HSF.out).1))
    have HG2 := Lib.hid ((pSafe_nat hok3 (by rw [HQ.out]; exact haq) (by rw [HD.out]; exact hbd) (Int.le_refl 0) (by omega)).trans ((safB_zero hok3 (by rw [HQ.out]; exact haq) (by rw [HD.out]; exact hbd)).trans ((hcl3 k l).trans (if_pos ⟨rfl, rfl⟩))))
    have hki : (k : Int) < (q : Int) := by omega
    have hli : (l : Int) < (d : Int) := by omega
    clear hset3 hx3 hs3 hnew3 hX3 ho3 hh3 hgB3 hgT3 hgiT3 hcl3 hok3
    go_wp2_with fail
    rw [HXE3.out]
    clear f3 ff3 hfz3
    refine (iPSafe_is X3 t _ HT3.out m _ HU3.out k l 0 true HG1.out _ (Below.refl _ _) HTW3.out).mono ?_
    rintro e y1 ⟨rfl, k1⟩
    go_wp2_with fail
    refine (iPSafe_is X3 t _ HT3.out m' _ HX3.out k l 0 false HG2.out _ k1 HTW3.out).mono ?_
    rintro e y2 ⟨rfl, k2⟩
    have HK := Lib.hid (HBB.out _ (below_step HS3.out k2))
    clear k1 k2
    go_wp2
    all_goals
      go_ret
      exact ⟨by first | rfl | exact retb (by simp), HK.out⟩
set_option maxRecDepth 100000 in
set_option maxHeartbeats 4000000 in
theorem w_SafeTurn (A : Option Addr) (n c : Nat) (hnc : n ≤ c) (hn : n ≤ maxLen) (w : World) (hb : Bytes w w.heap.size A n) (hT : TabW w) :
    Calls Tryd.prog 5 #[.slice A n c] w fun e w' => e = .returned (.bool true) ∧ Below w.heap.size w w' := by
  have hn2 := hn
  unfold maxLen at hn2
  rcases (show 1048576 < n ∨ ¬ 1048576 < n by omega) with hbig | hbig
  · go_enter Tryd.func5, Tryd.ntmps5
    go_wp2
    go_ret
    exact ⟨rfl, Below.refl _ _⟩
  · go_enter Tryd.func5, Tryd.ntmps5
    go_wp2_with fail
    refine (dPSafe_any A n c hnc hn _ hb).mono ?_
    rintro e W ⟨tv, uv, t, m, i, j, N, rfl, ht, hu, hl, hlr, hml, hmr, hN, hbW⟩
    have HT := Lib.hid ht
    have HU := Lib.hid hu
    have HBW := Lib.hid hbW
    have HTW := Lib.hid (hT.below hbW)
    obtain ⟨g, hg⟩ : ∃ g, pSafe t m i j N = g := ⟨_, rfl⟩
    have HGP := Lib.hid hg
    clear hb ht hu hbW hl hlr hml hmr hg hn hT
    go_wp2_with fail
    refine (iPSafe_is W t _ HT.out m _ HU.out i j N g HGP.out _ (Below.refl _ _) HTW.out).mono ?_
    rintro e w1 ⟨rfl, b1⟩
    go_wp2_with fail
    refine (sPSafe_is W t _ HT.out m _ HU.out i j N g HGP.out _ b1).mono ?_
    rintro e w2 ⟨rfl, b2⟩
    cases g
    · go_wp2
      go_ret
      exact ⟨rfl, HBW.out.trans (b2.mono HBW.out.size)⟩
    obtain ⟨hbok, hN0, hN9, hsf⟩ := pSafe_iff.1 HGP.out
    obtain ⟨hmk, hi0, hiq, hj0, hjd⟩ := bOk_iff.1 hbok
    obtain ⟨a, rfl⟩ := Int.eq_ofNat_of_zero_le hi0
    obtain ⟨b, rfl⟩ := Int.eq_ofNat_of_zero_le hj0
    simp only [Int.toNat_natCast] at hsf
    have HSF := Lib.hid hsf
    have HMK := Lib.hid hmk
    have htb := mk_tab hmk
    have HTB := Lib.hid htb
    have haq : a < t.length := by omega
    have hbd : b < wd t := by omega
    have HAQ := Lib.hid haq
    have HBD := Lib.hid hbd
    clear hbok hi0 hj0 b1 hsf
    have HTK := Lib.hid (tab_iff.2 HTB.out)
    have HT2 := Lib.hid (HT.out.below b2)
    have HU2 := Lib.hid (HU.out.below b2)
    have HTW2 := Lib.hid (HTW.out.below b2)
    have ht1 := htb.h1
    have ht4 := htb.h4
    have hw1 := htb.w1
    have hw4 := htb.w4
    obtain ⟨_, hml, hmr⟩ := mk_parts.1 hmk
    obtain ⟨bt, ot, ct, tb, to, tc, htv, htall⟩ := HT2.out.all htb
    obtain ⟨bm, om, cm, mb, mo, mc, huv, hmall⟩ := HU2.out.all (d := wd t) (by omega) hw1 hmr
    rw [hml] at huv
    subst htv huv
    obtain ⟨q, hq⟩ : ∃ q, t.length = q := ⟨_, rfl⟩
    obtain ⟨d, hd⟩ : ∃ d, wd t = d := ⟨_, rfl⟩
    have HQ := Lib.hid hq
    have HD := Lib.hid hd
    rw [hml, hq, hd] at hmall
    rw [hq, hd] at htall
    have HTA := Lib.hid (show ∀ w', Below w2.heap.size w2 w' → w'.cell? ⟨bt, ot, none⟩ = some (.slice (some ⟨tb 0, to 0, none⟩) d (tc 0)) ∧ (∀ i, i < q → w'.cell? ⟨bt, ot + i, none⟩ = some (.slice (some ⟨tb i, to i, none⟩) d (tc i))) ∧ ∀ i j, i < q → j < d → w'.cell? ⟨tb i, to i + j, none⟩ = some (.int .i64 (cF t i j)) from
      fun w' h => ⟨(htall w' h).1 0 (by omega), htall w' h⟩)
    have HUA := Lib.hid hmall
    rw [hq] at HT2 HU2 ht1 ht4 ⊢
    rw [hd] at hw1 hw4
    have hq0i : (0 : Int) < (q : Int) := by omega
    have hq0 : 0 < q := ht1
    have hd0 : 0 < d := hw1
    have HB2 := Lib.hid b2
    have HBB := Lib.hid (show ∀ w', Below w2.heap.size w2 w' → Below w.heap.size w w' from fun w' h => HBW.out.trans ((below_step HB2.out h).mono HBW.out.size))
    clear htall hmall hmk hml hmr htb hq hd b2
    rw [HQ.out] at haq
    rw [HD.out] at hbd
    have HMQ := Lib.hid (show m.length = q by rw [(mk_parts.1 HMK.out).2.1, HQ.out])
    have HMD := Lib.hid (show ∀ k, k < q → (m.getD k []).length = d from fun k hk => by rw [(mk_parts.1 HMK.out).2.2 _ (by rw [getD_of _ _ (show k < m.length by rw [HMQ.out]; exact hk)]; exact List.getElem_mem _), HD.out])
    have HDR2 := Lib.hid (show ∀ r ∈ m, r.length = d from fun r hr => by rw [(mk_parts.1 HMK.out).2.2 r hr, HD.out])
    have HG1 := Lib.hid (show pSafe (turn t) (mturn m) b a N = true from (pSafe_nat (mk_turn HMK.out) (by rw [turn_len, HD.out]; exact hbd) (by rw [wd_turn HTB.out.w1, HQ.out]; exact haq) hN0 hN9).trans ((safB_turn HMK.out (by rw [HQ.out]; exact haq) (by rw [HD.out]; exact hbd)).trans HSF.out))
    go_wp2_with fail
    refine (iTurn_is w2 t _ HT2.out (turn t) true (by rw [turnI, if_pos HTK.out]) HTK.out _ (Below.refl _ _)).mono ?_
    rintro e w3 ⟨v3, rfl, ho3, h3'⟩
    have HTT3 := Lib.hid ho3.is
    have HB3 := Lib.hid h3'
    clear ho3 h3'
    go_wp2_with fail
    refine (lTurnM_is w2 m _ HU2.out d (by have := HMQ.out; omega) (by have := HMQ.out; omega) HDR2.out (by omega) (mturn m) rfl _ HB3.out).mono ?_
    rintro e w7 ⟨v7, rfl, ho7, h7⟩
    have HV7 := Lib.hid ho7.is
    have HB7 := Lib.hid (below_step HB3.out h7)
    have HTT7 := Lib.hid (HTT3.out.below h7)
    clear ho7 h7
    go_wp2_with fail
    refine (iPSafe_is w7 (turn t) _ HTT7.out (mturn m) _ HV7.out b a N true HG1.out _ (Below.refl _ _) (HTW2.out.below HB7.out)).mono ?_
    rintro e w8 ⟨rfl, h8⟩
    have HK := Lib.hid (HBB.out _ (below_step HB7.out h8))
    clear h8
    go_wp2
    all_goals
      go_ret
      exact ⟨by first | rfl | exact retb (by simp), HK.out⟩
set_option maxRecDepth 100000 in
set_option maxHeartbeats 4000000 in
theorem w_SafeMore (A : Option Addr) (n c : Nat) (hnc : n ≤ c) (hn : n ≤ maxLen) (A2 : Option Addr) (n2 c2 : Nat) (_hmc : n2 ≤ c2) (hm : n2 ≤ maxLen) (w : World) (hb : Bytes w w.heap.size A n) (_hb2 : Bytes w w.heap.size A2 n2) (hT : TabW w) :
    Calls Tryd.prog 4 #[.slice A n c, .slice A2 n2 c2] w fun e w' => e = .returned (.bool true) ∧ Below w.heap.size w w' := by
  have hn2 := hn
  have hm2 := hm
  unfold maxLen at hn2 hm2
  rcases (show 1048576 < n ∨ (¬ 1048576 < n ∧ 1048576 < n2) ∨ ¬ 1048576 < n ∧ ¬ 1048576 < n2 by omega) with hbig | ⟨hbig, hbig2⟩ | ⟨hbig, hbig2⟩
  · go_enter Tryd.func4, Tryd.ntmps4
    go_wp2
    go_ret
    exact ⟨rfl, Below.refl _ _⟩
  · go_enter Tryd.func4, Tryd.ntmps4
    go_wp2
    go_ret
    exact ⟨rfl, Below.refl _ _⟩
  · go_enter Tryd.func4, Tryd.ntmps4
    go_wp2_with fail
    refine (dPSafe_any A n c hnc hn _ hb).mono ?_
    rintro e W ⟨tv, uv, t, m, i, j, N, rfl, ht, hu, hl, hlr, hml, hmr, hN, hbW⟩
    have HT := Lib.hid ht
    have HU := Lib.hid hu
    have HBW := Lib.hid hbW
    have HTW := Lib.hid (hT.below hbW)
    obtain ⟨g, hg⟩ : ∃ g, pSafe t m i j N = g := ⟨_, rfl⟩
    have HGP := Lib.hid hg
    clear hb ht hu hbW hl hlr hml hmr hg hn hT
    go_wp2_with fail
    refine (iPSafe_is W t _ HT.out m _ HU.out i j N g HGP.out _ (Below.refl _ _) HTW.out).mono ?_
    rintro e w1 ⟨rfl, b1⟩
    go_wp2_with fail
    refine (sPSafe_is W t _ HT.out m _ HU.out i j N g HGP.out _ b1).mono ?_
    rintro e w2 ⟨rfl, b2⟩
    cases g
    · go_wp2
      go_ret
      exact ⟨rfl, HBW.out.trans (b2.mono HBW.out.size)⟩
    obtain ⟨hbok, hN0, hN9, hsf⟩ := pSafe_iff.1 HGP.out
    obtain ⟨hmk, hi0, hiq, hj0, hjd⟩ := bOk_iff.1 hbok
    obtain ⟨a, rfl⟩ := Int.eq_ofNat_of_zero_le hi0
    obtain ⟨b, rfl⟩ := Int.eq_ofNat_of_zero_le hj0
    simp only [Int.toNat_natCast] at hsf
    have HSF := Lib.hid hsf
    have HMK := Lib.hid hmk
    have htb := mk_tab hmk
    have HTB := Lib.hid htb
    have haq : a < t.length := by omega
    have hbd : b < wd t := by omega
    have HAQ := Lib.hid haq
    have HBD := Lib.hid hbd
    clear hbok hi0 hj0 b1 hsf
    have HT2 := Lib.hid (HT.out.below b2)
    have HU2 := Lib.hid (HU.out.below b2)
    have HTW2 := Lib.hid (HTW.out.below b2)
    have ht1 := htb.h1
    have ht4 := htb.h4
    have hw1 := htb.w1
    have hw4 := htb.w4
    obtain ⟨_, hml, hmr⟩ := mk_parts.1 hmk
    obtain ⟨bt, ot, ct, tb, to, tc, htv, htall⟩ := HT2.out.all htb
    obtain ⟨bm, om, cm, mb, mo, mc, huv, hmall⟩ := HU2.out.all (d := wd t) (by omega) hw1 hmr
    rw [hml] at huv
    subst htv huv
    obtain ⟨q, hq⟩ : ∃ q, t.length = q := ⟨_, rfl⟩
    obtain ⟨d, hd⟩ : ∃ d, wd t = d := ⟨_, rfl⟩
    have HQ := Lib.hid hq
    have HD := Lib.hid hd
    rw [hml, hq, hd] at hmall
    rw [hq, hd] at htall
    have HTA := Lib.hid (show ∀ w', Below w2.heap.size w2 w' → w'.cell? ⟨bt, ot, none⟩ = some (.slice (some ⟨tb 0, to 0, none⟩) d (tc 0)) ∧ (∀ i, i < q → w'.cell? ⟨bt, ot + i, none⟩ = some (.slice (some ⟨tb i, to i, none⟩) d (tc i))) ∧ ∀ i j, i < q → j < d → w'.cell? ⟨tb i, to i + j, none⟩ = some (.int .i64 (cF t i j)) from
      fun w' h => ⟨(htall w' h).1 0 (by omega), htall w' h⟩)
    have HUA := Lib.hid hmall
    rw [hq] at HT2 HU2 ht1 ht4 ⊢
    rw [hd] at hw1 hw4
    have hq0i : (0 : Int) < (q : Int) := by omega
    have hq0 : 0 < q := ht1
    have hd0 : 0 < d := hw1
    have HB2 := Lib.hid b2
    have HBB := Lib.hid (show ∀ w', Below w2.heap.size w2 w' → Below w.heap.size w w' from fun w' h => HBW.out.trans ((below_step HB2.out h).mono HBW.out.size))
    clear htall hmall hmk hml hmr htb hq hd b2
    rw [HQ.out] at haq
    rw [HD.out] at hbd
    obtain ⟨k, l, hk, hkq, hl, hl2, hld⟩ := modTwo n2 q d hbig2 hq0 hd0
    have HKM := Lib.hid hk
    have HLM := Lib.hid hl2
    have HLE := Lib.hid hl
    clear hk hl hl2
    have hki : (k : Int) < (q : Int) := by omega
    have hli : (l : Int) < (d : Int) := by omega
    have hqn : ¬ q = 0 := Nat.ne_of_gt ht1
    have hdn : ¬ d = 0 := Nat.ne_of_gt hw1
    have HMQ := Lib.hid (show m.length = q by rw [(mk_parts.1 HMK.out).2.1, HQ.out])
    have HMD := Lib.hid (show ∀ k, k < q → (m.getD k []).length = d from fun k hk => by rw [(mk_parts.1 HMK.out).2.2 _ (by rw [getD_of _ _ (show k < m.length by rw [HMQ.out]; exact hk)]; exact List.getElem_mem _), HD.out])
    go_wp2_with fail
    refine (lCopyM_is w2 m _ HU2.out (show m.length ≤ 1000 by have := HMQ.out; omega) (fun r hr => by have := (mk_parts.1 HMK.out).2.2 r hr; have := HTB.out.w4; omega) _ (Below.refl _ _)).mono ?_
    rintro e w5 ⟨v5, rfl, ho5, hh5⟩
    obtain ⟨gg5, cc5, gi5, ci5, hv5, f5, ⟨hgB5, hgT5⟩, ⟨hgi5, hgiT5⟩, hgg5, ff5, hfz5, hset5⟩ := ho5.cell (i := k) (j := l) (by rw [HMQ.out]; exact hkq) (by rw [HMD.out k hkq]; exact hld)
    rw [HMD.out k hkq] at f5
    rw [HMQ.out] at hv5
    subst hv5
    obtain ⟨m', hnew5⟩ : ∃ x, m.set k ((m.getD k []).set l true) = x := ⟨_, rfl⟩
    have hok5 : mkOk t m' = true := by rw [← hnew5]; exact mk_setM HMK.out true (by rw [HQ.out]; exact hkq) (by rw [HD.out]; exact hld)
    have hcl5 : ∀ a b, hF m' a b = if a = k ∧ b = l then true else hF m a b := fun a b => by
      rw [← hnew5, hF_setB m true (by rw [HMQ.out]; exact hkq) (by rw [HMD.out k hkq]; exact hld)]
    have hb5 := hh5
    have e0 := (HTA.out _ hb5).1
    have hk9 : (n2 : Int).tmod (q : Int) = (k : Int) := by rw [Int.tmod_eq_emod_of_nonneg (by omega)]; exact HKM.out
    have hl9 := HLM.out
    go_wp2_with fail
    refine wp_region_still_tail 19 (by kernel_rfl) (by kernel_rfl) ?_
    simp only [List.take_succ_cons, List.take_zero, List.drop_succ_cons, List.drop_zero]
    repeat still_step
    try refine wpStill_nil ?_
    change wpList _ _ _ _ _ w5.drew
    clear hk9 hl9 e0
    obtain ⟨Y5, hY5⟩ : ∃ y, y = w5.drew := ⟨_, rfl⟩
    rw [← hY5]
    have HYE5 := Lib.hid hY5
    have ffy5 : Y5.cell? ⟨gi5, l, none⟩ = w5.cell? ⟨gi5, l, none⟩ := by rw [hY5]; rfl
    have hfy5 : Y5.frozen? ⟨gi5, l, none⟩ = false := by rw [hY5]; exact hfz5
    rw [ff5] at ffy5
    have by5 : Below w5.heap.size w5 Y5 := by rw [hY5]; exact (Below.refl _ _).drew
    obtain ⟨X5, hX5⟩ : ∃ X, X = Y5.setCell ⟨gi5, l, none⟩ (.bool true) := ⟨_, rfl⟩
    have HXE5 := Lib.hid hX5.symm
    have hx5 := (hset5 true).same (w' := X5) (by rw [hX5, hY5]; exact Nat.le_refl _) (fun k _ _ => by rw [hX5, hY5]; rfl)
    rw [hnew5] at hx5
    have hxi5 := hx5.is
    have HX5 := Lib.hid hxi5
    clear hset5 hx5 hxi5 hnew5 f5 ff5 hfz5 hY5 hX5
    go_wp2_with fail
    rw [HXE5.out]
    clear ffy5 hfy5
    have hs5 : Below w2.heap.size w2 X5 := by rw [← HXE5.out]; exact (hb5.trans (by5.mono hb5.size)).setCell (p := ⟨gi5, l, none⟩) hgi5 _
    have HT5 := Lib.hid (HT2.out.below hs5)
    have HU5 := Lib.hid (HU2.out.below hs5)
    have HTW5 := Lib.hid (HTW2.out.below hs5)
    have HZ5 := Lib.hid hs5
    have HG4 := Lib.hid ((pSafe_nat hok5 (by rw [HQ.out]; exact haq) (by rw [HD.out]; exact hbd) hN0 hN9).trans (safB_more HMK.out hok5 (fun a b _ _ h => by rw [hcl5]; split <;> first | rfl | exact h) (by rw [HQ.out]; exact haq) (by rw [HD.out]; exact hbd) HSF.out))
    clear hb5 hs5 by5 hcl5 hok5 ho5 hh5 hgB5 hgT5 hgiT5
    refine (iPSafe_is X5 t _ HT5.out m' _ HX5.out a b N true HG4.out _ (Below.refl _ _) HTW5.out).mono ?_
    rintro e w8 ⟨rfl, h8⟩
    have HK8 := Lib.hid (HBB.out _ (below_step HZ5.out h8))
    by_cases hn0 : N = 0
    · subst hn0
      go_wp2
      all_goals
        go_ret
        exact ⟨by first | rfl | exact retb (by simp), HK8.out⟩
    have hn0' : (N == 0) = false := by rw [beq_eq_false_iff_ne]; exact hn0
    have HNE := Lib.hid (safB_wide HMK.out (by rw [HQ.out]; exact haq) (by rw [HD.out]; exact hbd) HSF.out (by omega))
    have HTO := Lib.hid (show toldB t m a b = false from by
      unfold toldB
      simp only [Int.toNat_natCast]
      have := HNE.out
      simp [this])
    go_wp2_with fail
    refine (iTold_is X5 t _ HT5.out m _ HU5.out a b false HTO.out _ h8).mono ?_
    rintro e w9 ⟨rfl, h9⟩
    have HK := Lib.hid (HBB.out _ (below_step HZ5.out h9))
    clear h9 h8
    go_wp2
    all_goals
      go_ret
      exact ⟨by first | rfl | exact retb (by simp) | exact retb (by simp; omega), HK.out⟩
end Go.Proofs.YtdjjkfhdgnlkeaaDoor
