/- Walks of the laws of chapter 12: counts and sums. -/
import Derived.Test.YtfnmddofkpigpaaWPB
import Derived.Test.YtfnmddofkpigpaaPL
namespace Go.Proofs.Ytfnmddofkpigpaa
open Go.RowKit
set_option maxHeartbeats 2000000 in
theorem w_Top (A : Option Addr) (n c : Nat) (hnc : n ≤ c) (hn : n ≤ maxLen) (w : World) (hb : Bytes w w.heap.size A n) :
    Calls Try.prog 4 #[.slice A n c] w fun e w' => e = .returned (.bool true) ∧ Below w.heap.size w w' := by
  have hn2 := hn
  unfold maxLen at hn2
  rcases (show 1048576 < n ∨ ¬ 1048576 < n by omega) with hbig | hbig
  · go_enter Try.func4, Try.ntmps4
    go_wp2
    go_ret
    exact ⟨rfl, Below.refl _ _⟩
  · go_enter Try.func4, Try.ntmps4
    go_wp2_with fail
    refine (dPartsTop_any A n c hnc hn _ hb).mono ?_
    rintro e W ⟨v, l, x, rfl, hv, hl, hx, hbW⟩
    obtain ⟨Av, cv, hvv⟩ := hv.sl
    obtain ⟨q, hq⟩ : ∃ q, q = l.length := ⟨_, rfl⟩
    rw [← hq] at hvv
    subst hvv
    obtain ⟨hrow, hql, hqc, hcm⟩ := hv.row
    clear hrow hql
    unfold maxLen at hcm
    have hq21 : q ≤ 21 := by rw [hq]; exact hl.1
    have HV := Lib.hid hv
    have HQ := Lib.hid hq
    have HSB := Lib.hid hl.sum
    have HLN := Lib.hid hl.1
    have HB := Lib.hid hbW
    clear hv hl hbW hq hb
    obtain ⟨g, hg⟩ : ∃ g, topI l x = g := ⟨_, rfl⟩
    have HG := Lib.hid hg
    rcases (show g < 0 ∨ 0 ≤ g by omega) with hneg | hg0
    · clear hg
      go_wp2_with (first
        | (go_at_call 17; (with_reducible refine (iPartsTop_is _ l _ HV.out x _ HG.out _ (Below.refl _ _)).mono ?_); rintro e w' ⟨rfl, hqq⟩; (try replace HV := Lib.hid (HV.out.below hqq)); replace HB := Lib.hid (HB.out.trans (hqq.mono HB.out.size)); (try replace HX := Lib.hid (HX.out.below hqq)); (try replace HY := Lib.hid (HY.out.below hqq)); clear hqq)
        | (go_at_call 18; (with_reducible refine (sTop_is _ l _ HV.out x _ HG.out _ (Below.refl _ _)).mono ?_); rintro e w' ⟨rfl, hqq⟩; (try replace HV := Lib.hid (HV.out.below hqq)); replace HB := Lib.hid (HB.out.trans (hqq.mono HB.out.size)); (try replace HX := Lib.hid (HX.out.below hqq)); (try replace HY := Lib.hid (HY.out.below hqq)); clear hqq))
      all_goals first
        | (exfalso; omega)
        | (go_ret; exact ⟨by first | rfl | exact retb (by simp) | exact retb (by simp; omega), HB.out⟩)
    · obtain ⟨hok, hx0⟩ := topI_inv (l := l) (n := x) (by rw [hg]; exact hg0)
      have HOK := Lib.hid hok
      have hgb := topI_bd hok hx0
      rw [hg] at hgb
      clear hg
      obtain ⟨a, ha⟩ : ∃ a, topI l (x + 1) = a := ⟨_, rfl⟩
      obtain ⟨s, hs⟩ : ∃ s, l.sum = s := ⟨_, rfl⟩
      have h1 := top_succ hok hx0
      rw [ha, HG.out] at h1
      have h2 := nth_bd hok x.toNat
      have HA := Lib.hid ha
      have HS := Lib.hid ((topI_all hok).trans hs)
      have HSS := Lib.hid hs
      have HZ := Lib.hid (topI_zero hok)
      have hga : g ≤ a := by omega
      have hga' : 0 ≤ a - g := by omega
      by_cases hxp : 0 < x
      · obtain ⟨b, hb⟩ : ∃ b, topI l (x - 1) = b := ⟨_, rfl⟩
        have h3 := top_pred hok hxp
        rw [hb, HG.out] at h3
        have h4 := topI_bd hok (show 0 ≤ x - 1 by omega)
        rw [hb] at h4
        have HBB := Lib.hid hb
        have hab : a - g ≤ g - b := by omega
        have hab2 : a ≤ 2100000 := by omega
        clear h1 h2 h3 ha hs hb hok
        go_wp2_with (first
          | (go_at_call 17; (with_reducible refine (iPartsTop_is _ l _ HV.out x _ HG.out _ (Below.refl _ _)).mono ?_); rintro e w' ⟨rfl, hqq⟩; (try replace HV := Lib.hid (HV.out.below hqq)); replace HB := Lib.hid (HB.out.trans (hqq.mono HB.out.size)); (try replace HX := Lib.hid (HX.out.below hqq)); (try replace HY := Lib.hid (HY.out.below hqq)); clear hqq)
          | (go_at_call 18; (with_reducible refine (sTop_is _ l _ HV.out x _ HG.out _ (Below.refl _ _)).mono ?_); rintro e w' ⟨rfl, hqq⟩; (try replace HV := Lib.hid (HV.out.below hqq)); replace HB := Lib.hid (HB.out.trans (hqq.mono HB.out.size)); (try replace HX := Lib.hid (HX.out.below hqq)); (try replace HY := Lib.hid (HY.out.below hqq)); clear hqq)
          | (go_at_call 17; (with_reducible refine (iPartsTop_is _ l _ HV.out (x + 1) _ HA.out _ (Below.refl _ _)).mono ?_); rintro e w' ⟨rfl, hqq⟩; (try replace HV := Lib.hid (HV.out.below hqq)); replace HB := Lib.hid (HB.out.trans (hqq.mono HB.out.size)); (try replace HX := Lib.hid (HX.out.below hqq)); (try replace HY := Lib.hid (HY.out.below hqq)); clear hqq)
          | (go_at_call 17; (with_reducible refine (iPartsTop_is _ l _ HV.out (x - 1) _ HBB.out _ (Below.refl _ _)).mono ?_); rintro e w' ⟨rfl, hqq⟩; (try replace HV := Lib.hid (HV.out.below hqq)); replace HB := Lib.hid (HB.out.trans (hqq.mono HB.out.size)); (try replace HX := Lib.hid (HX.out.below hqq)); (try replace HY := Lib.hid (HY.out.below hqq)); clear hqq)
          | (go_at_call 17; (with_reducible refine (iPartsTop_is _ l _ HV.out 0 _ HZ.out _ (Below.refl _ _)).mono ?_); rintro e w' ⟨rfl, hqq⟩; (try replace HV := Lib.hid (HV.out.below hqq)); replace HB := Lib.hid (HB.out.trans (hqq.mono HB.out.size)); (try replace HX := Lib.hid (HX.out.below hqq)); (try replace HY := Lib.hid (HY.out.below hqq)); clear hqq)
          | (go_at_call 17; (with_reducible refine (iPartsTop_is _ l _ HV.out 20 _ HS.out _ (Below.refl _ _)).mono ?_); rintro e w' ⟨rfl, hqq⟩; (try replace HV := Lib.hid (HV.out.below hqq)); replace HB := Lib.hid (HB.out.trans (hqq.mono HB.out.size)); (try replace HX := Lib.hid (HX.out.below hqq)); (try replace HY := Lib.hid (HY.out.below hqq)); clear hqq)
          | (go_at_call 19; (with_reducible refine (sumOf_any l _ _ HV.out HSB.out _ HSS.out).mono ?_); rintro e w' ⟨rfl, rfl⟩))
        all_goals first
          | (exfalso; omega)
          | (go_ret; exact ⟨by first | rfl | exact retb (by simp) | exact retb (by simp; omega), HB.out⟩)
      · have hab : a - g ≤ 100000 := by omega
        have hab2 : a ≤ 2100000 := by omega
        clear h1 h2 ha hs hok
        go_wp2_with (first
          | (go_at_call 17; (with_reducible refine (iPartsTop_is _ l _ HV.out x _ HG.out _ (Below.refl _ _)).mono ?_); rintro e w' ⟨rfl, hqq⟩; (try replace HV := Lib.hid (HV.out.below hqq)); replace HB := Lib.hid (HB.out.trans (hqq.mono HB.out.size)); (try replace HX := Lib.hid (HX.out.below hqq)); (try replace HY := Lib.hid (HY.out.below hqq)); clear hqq)
          | (go_at_call 18; (with_reducible refine (sTop_is _ l _ HV.out x _ HG.out _ (Below.refl _ _)).mono ?_); rintro e w' ⟨rfl, hqq⟩; (try replace HV := Lib.hid (HV.out.below hqq)); replace HB := Lib.hid (HB.out.trans (hqq.mono HB.out.size)); (try replace HX := Lib.hid (HX.out.below hqq)); (try replace HY := Lib.hid (HY.out.below hqq)); clear hqq)
          | (go_at_call 17; (with_reducible refine (iPartsTop_is _ l _ HV.out (x + 1) _ HA.out _ (Below.refl _ _)).mono ?_); rintro e w' ⟨rfl, hqq⟩; (try replace HV := Lib.hid (HV.out.below hqq)); replace HB := Lib.hid (HB.out.trans (hqq.mono HB.out.size)); (try replace HX := Lib.hid (HX.out.below hqq)); (try replace HY := Lib.hid (HY.out.below hqq)); clear hqq)
          | (go_at_call 17; (with_reducible refine (iPartsTop_is _ l _ HV.out 0 _ HZ.out _ (Below.refl _ _)).mono ?_); rintro e w' ⟨rfl, hqq⟩; (try replace HV := Lib.hid (HV.out.below hqq)); replace HB := Lib.hid (HB.out.trans (hqq.mono HB.out.size)); (try replace HX := Lib.hid (HX.out.below hqq)); (try replace HY := Lib.hid (HY.out.below hqq)); clear hqq)
          | (go_at_call 17; (with_reducible refine (iPartsTop_is _ l _ HV.out 20 _ HS.out _ (Below.refl _ _)).mono ?_); rintro e w' ⟨rfl, hqq⟩; (try replace HV := Lib.hid (HV.out.below hqq)); replace HB := Lib.hid (HB.out.trans (hqq.mono HB.out.size)); (try replace HX := Lib.hid (HX.out.below hqq)); (try replace HY := Lib.hid (HY.out.below hqq)); clear hqq)
          | (go_at_call 19; (with_reducible refine (sumOf_any l _ _ HV.out HSB.out _ HSS.out).mono ?_); rintro e w' ⟨rfl, rfl⟩))
        all_goals first
          | (exfalso; omega)
          | (go_ret; exact ⟨by first | rfl | exact retb (by simp) | exact retb (by simp; omega), HB.out⟩)
set_option maxHeartbeats 2000000 in
theorem w_Few (A : Option Addr) (n c : Nat) (hnc : n ≤ c) (hn : n ≤ maxLen) (w : World) (hb : Bytes w w.heap.size A n) :
    Calls Try.prog 6 #[.slice A n c] w fun e w' => e = .returned (.bool true) ∧ Below w.heap.size w w' := by
  have hn2 := hn
  unfold maxLen at hn2
  rcases (show 1048576 < n ∨ ¬ 1048576 < n by omega) with hbig | hbig
  · go_enter Try.func6, Try.ntmps6
    go_wp2
    go_ret
    exact ⟨rfl, Below.refl _ _⟩
  · go_enter Try.func6, Try.ntmps6
    go_wp2_with fail
    refine (dPartsFew_any A n c hnc hn _ hb).mono ?_
    rintro e W ⟨v, l, x, rfl, hv, hl, hx, hbW⟩
    obtain ⟨Av, cv, hvv⟩ := hv.sl
    obtain ⟨q, hq⟩ : ∃ q, q = l.length := ⟨_, rfl⟩
    rw [← hq] at hvv
    subst hvv
    obtain ⟨hrow, hql, hqc, hcm⟩ := hv.row
    clear hrow hql
    unfold maxLen at hcm
    have hq21 : q ≤ 21 := by rw [hq]; exact hl.1
    have HV := Lib.hid hv
    have HQ := Lib.hid hq
    have HSB := Lib.hid hl.sum
    have HLN := Lib.hid hl.1
    have HB := Lib.hid hbW
    clear hv hl hbW hq hb
    cases hg : fewI l x
    · have HG := Lib.hid hg
      clear hg
      go_wp2_with (first
        | (go_at_call 21; (with_reducible refine (iPartsFew_is _ l _ HV.out x _ HG.out _ (Below.refl _ _)).mono ?_); rintro e w' ⟨rfl, hqq⟩; (try replace HV := Lib.hid (HV.out.below hqq)); replace HB := Lib.hid (HB.out.trans (hqq.mono HB.out.size)); (try replace HX := Lib.hid (HX.out.below hqq)); (try replace HY := Lib.hid (HY.out.below hqq)); clear hqq)
        | (go_at_call 22; (with_reducible refine (sFew_is _ l _ HV.out x _ HG.out _ (Below.refl _ _)).mono ?_); rintro e w' ⟨rfl, hqq⟩; (try replace HV := Lib.hid (HV.out.below hqq)); replace HB := Lib.hid (HB.out.trans (hqq.mono HB.out.size)); (try replace HX := Lib.hid (HX.out.below hqq)); (try replace HY := Lib.hid (HY.out.below hqq)); clear hqq))
      all_goals first
        | (exfalso; omega)
        | (go_ret; exact ⟨by first | rfl | exact retb (by simp) | exact retb (by simp; omega), HB.out⟩)
    · have HG := Lib.hid hg
      have HM := Lib.hid (fewI_more hg)
      have H1 := Lib.hid (fewI_one l)
      have hq20 : q ≤ 20 := by rw [HQ.out]; exact (pOk_parts.1 (fewI_inv hg)).1
      by_cases h20 : q = 20
      · have h20' : (q : Int) = 20 := by omega
        clear h20 hg
        go_wp2_with (first
          | (go_at_call 21; (with_reducible refine (iPartsFew_is _ l _ HV.out x _ HG.out _ (Below.refl _ _)).mono ?_); rintro e w' ⟨rfl, hqq⟩; (try replace HV := Lib.hid (HV.out.below hqq)); replace HB := Lib.hid (HB.out.trans (hqq.mono HB.out.size)); (try replace HX := Lib.hid (HX.out.below hqq)); (try replace HY := Lib.hid (HY.out.below hqq)); clear hqq)
          | (go_at_call 22; (with_reducible refine (sFew_is _ l _ HV.out x _ HG.out _ (Below.refl _ _)).mono ?_); rintro e w' ⟨rfl, hqq⟩; (try replace HV := Lib.hid (HV.out.below hqq)); replace HB := Lib.hid (HB.out.trans (hqq.mono HB.out.size)); (try replace HX := Lib.hid (HX.out.below hqq)); (try replace HY := Lib.hid (HY.out.below hqq)); clear hqq)
          | (go_at_call 21; (with_reducible refine (iPartsFew_is _ l _ HV.out (x + 1) _ HM.out _ (Below.refl _ _)).mono ?_); rintro e w' ⟨rfl, hqq⟩; (try replace HV := Lib.hid (HV.out.below hqq)); replace HB := Lib.hid (HB.out.trans (hqq.mono HB.out.size)); (try replace HX := Lib.hid (HX.out.below hqq)); (try replace HY := Lib.hid (HY.out.below hqq)); clear hqq)
          | (go_at_call 21; (with_reducible refine (iPartsFew_is _ l _ HV.out 1 _ H1.out _ (Below.refl _ _)).mono ?_); rintro e w' ⟨rfl, hqq⟩; (try replace HV := Lib.hid (HV.out.below hqq)); replace HB := Lib.hid (HB.out.trans (hqq.mono HB.out.size)); (try replace HX := Lib.hid (HX.out.below hqq)); (try replace HY := Lib.hid (HY.out.below hqq)); clear hqq))
        all_goals first
          | (exfalso; omega)
          | (go_ret; exact ⟨by first | rfl | exact retb (by simp) | exact retb (by simp; omega), HB.out⟩)
      · have h20' : ((q : Int) == 20) = false := by simp; omega
        have HS := Lib.hid (fewI_snoc0 hg (by rw [← HQ.out]; omega))
        clear h20 hg
        go_wp2_with (first
          | (go_at_call 21; (with_reducible refine (iPartsFew_is _ l _ HV.out x _ HG.out _ (Below.refl _ _)).mono ?_); rintro e w' ⟨rfl, hqq⟩; (try replace HV := Lib.hid (HV.out.below hqq)); replace HB := Lib.hid (HB.out.trans (hqq.mono HB.out.size)); (try replace HX := Lib.hid (HX.out.below hqq)); (try replace HY := Lib.hid (HY.out.below hqq)); clear hqq)
          | (go_at_call 22; (with_reducible refine (sFew_is _ l _ HV.out x _ HG.out _ (Below.refl _ _)).mono ?_); rintro e w' ⟨rfl, hqq⟩; (try replace HV := Lib.hid (HV.out.below hqq)); replace HB := Lib.hid (HB.out.trans (hqq.mono HB.out.size)); (try replace HX := Lib.hid (HX.out.below hqq)); (try replace HY := Lib.hid (HY.out.below hqq)); clear hqq)
          | (go_at_call 21; (with_reducible refine (iPartsFew_is _ l _ HV.out (x + 1) _ HM.out _ (Below.refl _ _)).mono ?_); rintro e w' ⟨rfl, hqq⟩; (try replace HV := Lib.hid (HV.out.below hqq)); replace HB := Lib.hid (HB.out.trans (hqq.mono HB.out.size)); (try replace HX := Lib.hid (HX.out.below hqq)); (try replace HY := Lib.hid (HY.out.below hqq)); clear hqq)
          | (go_at_call 21; (with_reducible refine (iPartsFew_is _ l _ HV.out 1 _ H1.out _ (Below.refl _ _)).mono ?_); rintro e w' ⟨rfl, hqq⟩; (try replace HV := Lib.hid (HV.out.below hqq)); replace HB := Lib.hid (HB.out.trans (hqq.mono HB.out.size)); (try replace HX := Lib.hid (HX.out.below hqq)); (try replace HY := Lib.hid (HY.out.below hqq)); clear hqq)
          | (go_at_call 21; (with_reducible refine (iPartsFew_is _ (l ++ [0]) _ HX.out x _ HS.out _ (Below.refl _ _)).mono ?_); rintro e w' ⟨rfl, hqq⟩; (try replace HV := Lib.hid (HV.out.below hqq)); replace HB := Lib.hid (HB.out.trans (hqq.mono HB.out.size)); (try replace HX := Lib.hid (HX.out.below hqq)); (try replace HY := Lib.hid (HY.out.below hqq)); clear hqq)
          | (at_builtin
             refine appI rfl (.tmp 40) (.tmp 41) rfl _ _ [] rfl (own1_new (Nat.le_refl _)) (l) _ rfl (HV.out.below ((Below.refl _ _).alloc (Nat.le_refl _) _)) (by have := HLN.out; simp; omega) (by simp) ?_
             intro v5 w5 ho5 hb5
             have HB5 := Lib.hid (below_app hb5)
             have HO5 := Lib.hid ho5
             clear ho5 hb5)
          | (at_builtin
             refine appI rfl (.tmp 42) (.tmp 43) rfl _ _ _ rfl (HO5.out.alloc _) [0] _ rfl (lit1 _ _) (by have := HLN.out; simp; omega) (by have := HB5.out.size; simp; omega) ?_
             intro vx w6 ho6 hb6
             have hqq := below_app2 HB5.out hb6
             have HNN := Lib.hid (show IsI w6 vx ((l) ++ [0]) from ho6.isI)
             clear ho6 hb6 HO5 HB5
             (try replace HV := Lib.hid (HV.out.below hqq)); replace HB := Lib.hid (HB.out.trans (hqq.mono HB.out.size)); (try replace HX := Lib.hid (HX.out.below hqq)); (try replace HY := Lib.hid (HY.out.below hqq)); clear hqq
             have HX := HNN
             clear HNN))
        all_goals first
          | (exfalso; omega)
          | (go_ret; exact ⟨by first | rfl | exact retb (by simp) | exact retb (by simp; omega), HB.out⟩)
set_option maxHeartbeats 2000000 in
theorem w_TopAdd (A : Option Addr) (n c : Nat) (hnc : n ≤ c) (hn : n ≤ maxLen) (A2 : Option Addr) (m c2 : Nat) (_hmc : m ≤ c2) (hm : m ≤ maxLen) (w : World) (hb : Bytes w w.heap.size A n) (_hb2 : Bytes w w.heap.size A2 m) :
    Calls Try.prog 8 #[.slice A n c, .slice A2 m c2] w fun e w' => e = .returned (.bool true) ∧ Below w.heap.size w w' := by
  have hn2 := hn
  have hm2 := hm
  unfold maxLen at hn2 hm2
  rcases (show 1048576 < n ∨ (¬ 1048576 < n ∧ 1048576 < m) ∨ ¬ 1048576 < n ∧ ¬ 1048576 < m by omega) with hbig | ⟨hbig, hbig2⟩ | ⟨hbig, hbig2⟩
  · go_enter Try.func8, Try.ntmps8
    go_wp2
    go_ret
    exact ⟨rfl, Below.refl _ _⟩
  · go_enter Try.func8, Try.ntmps8
    go_wp2
    go_ret
    exact ⟨rfl, Below.refl _ _⟩
  · go_enter Try.func8, Try.ntmps8
    go_wp2_with fail
    refine (dPartsTop_any A n c hnc hn _ hb).mono ?_
    rintro e W ⟨v, l, x, rfl, hv, hl, hx, hbW⟩
    obtain ⟨Av, cv, hvv⟩ := hv.sl
    obtain ⟨q, hq⟩ : ∃ q, q = l.length := ⟨_, rfl⟩
    rw [← hq] at hvv
    subst hvv
    obtain ⟨hrow, hql, hqc, hcm⟩ := hv.row
    clear hrow hql
    unfold maxLen at hcm
    have hq21 : q ≤ 21 := by rw [hq]; exact hl.1
    have HV := Lib.hid hv
    have HQ := Lib.hid hq
    have HSB := Lib.hid hl.sum
    have HLN := Lib.hid hl.1
    have HB := Lib.hid hbW
    clear hv hl hbW hq hb
    obtain ⟨g, hg⟩ : ∃ g, topI l x = g := ⟨_, rfl⟩
    have HG := Lib.hid hg
    rcases (show g < 0 ∨ 0 ≤ g by omega) with hneg | hg0
    · clear hg
      go_wp2_with (first
        | (go_at_call 17; (with_reducible refine (iPartsTop_is _ l _ HV.out x _ HG.out _ (Below.refl _ _)).mono ?_); rintro e w' ⟨rfl, hqq⟩; (try replace HV := Lib.hid (HV.out.below hqq)); replace HB := Lib.hid (HB.out.trans (hqq.mono HB.out.size)); (try replace HX := Lib.hid (HX.out.below hqq)); (try replace HY := Lib.hid (HY.out.below hqq)); clear hqq)
        | (go_at_call 18; (with_reducible refine (sTop_is _ l _ HV.out x _ HG.out _ (Below.refl _ _)).mono ?_); rintro e w' ⟨rfl, hqq⟩; (try replace HV := Lib.hid (HV.out.below hqq)); replace HB := Lib.hid (HB.out.trans (hqq.mono HB.out.size)); (try replace HX := Lib.hid (HX.out.below hqq)); (try replace HY := Lib.hid (HY.out.below hqq)); clear hqq))
      all_goals first
        | (exfalso; omega)
        | (go_ret; exact ⟨by first | rfl | exact retb (by simp) | exact retb (by simp; omega), HB.out⟩)
    · obtain ⟨hok, hx0⟩ := topI_inv (l := l) (n := x) (by rw [hg]; exact hg0)
      have HOK := Lib.hid hok
      have hgb := topI_bd hok hx0
      rw [hg] at hgb
      clear hg
      obtain ⟨mm, hmm⟩ : ∃ mm : Nat, (m : Int) % 1000 = mm := ⟨((m : Int) % 1000).toNat, by omega⟩
      have hmb : mm ≤ 999 := by omega
      have HMM := Lib.hid hmm
      have hq20 : q ≤ 20 := by rw [HQ.out]; exact (pOk_parts.1 hok).1
      by_cases h20 : q = 20
      · have h20' : (q : Int) = 20 := by omega
        clear h20 hok hmm
        go_wp2_with (first
          | (go_at_call 17; (with_reducible refine (iPartsTop_is _ l _ HV.out x _ HG.out _ (Below.refl _ _)).mono ?_); rintro e w' ⟨rfl, hqq⟩; (try replace HV := Lib.hid (HV.out.below hqq)); replace HB := Lib.hid (HB.out.trans (hqq.mono HB.out.size)); (try replace HX := Lib.hid (HX.out.below hqq)); (try replace HY := Lib.hid (HY.out.below hqq)); clear hqq)
          | (go_at_call 18; (with_reducible refine (sTop_is _ l _ HV.out x _ HG.out _ (Below.refl _ _)).mono ?_); rintro e w' ⟨rfl, hqq⟩; (try replace HV := Lib.hid (HV.out.below hqq)); replace HB := Lib.hid (HB.out.trans (hqq.mono HB.out.size)); (try replace HX := Lib.hid (HX.out.below hqq)); (try replace HY := Lib.hid (HY.out.below hqq)); clear hqq))
        all_goals first
          | (exfalso; omega)
          | (go_ret; exact ⟨by first | rfl | exact retb (by simp) | exact retb (by simp; omega), HB.out⟩)
      · have h20' : ((q : Int) == 20) = false := by simp; omega
        obtain ⟨a, ha⟩ : ∃ a, topI (l ++ [(mm : Int)]) x = a := ⟨_, rfl⟩
        have hadd := top_add hok (show l.length ≤ 19 by rw [← HQ.out]; omega) (show (0 : Int) ≤ mm by omega) (by omega) hx0
        rw [ha, HG.out] at hadd
        have HA := Lib.hid ha
        obtain ⟨ha1, ha2, ha3⟩ := hadd
        clear h20 hok ha
        rcases ha3 with ha3 | rfl
        all_goals
          have hm5 := hmm
          clear hmm
          go_wp2_with (first
            | (go_at_call 17; (with_reducible refine (iPartsTop_is _ l _ HV.out x _ HG.out _ (Below.refl _ _)).mono ?_); rintro e w' ⟨rfl, hqq⟩; (try replace HV := Lib.hid (HV.out.below hqq)); replace HB := Lib.hid (HB.out.trans (hqq.mono HB.out.size)); (try replace HX := Lib.hid (HX.out.below hqq)); (try replace HY := Lib.hid (HY.out.below hqq)); clear hqq)
            | (go_at_call 18; (with_reducible refine (sTop_is _ l _ HV.out x _ HG.out _ (Below.refl _ _)).mono ?_); rintro e w' ⟨rfl, hqq⟩; (try replace HV := Lib.hid (HV.out.below hqq)); replace HB := Lib.hid (HB.out.trans (hqq.mono HB.out.size)); (try replace HX := Lib.hid (HX.out.below hqq)); (try replace HY := Lib.hid (HY.out.below hqq)); clear hqq)
            | (go_at_call 17; (with_reducible refine (iPartsTop_is _ (l ++ [(mm : Int)]) _ HX.out x _ HA.out _ (Below.refl _ _)).mono ?_); rintro e w' ⟨rfl, hqq⟩; (try replace HV := Lib.hid (HV.out.below hqq)); replace HB := Lib.hid (HB.out.trans (hqq.mono HB.out.size)); (try replace HX := Lib.hid (HX.out.below hqq)); (try replace HY := Lib.hid (HY.out.below hqq)); clear hqq)
            | (at_builtin
               refine appI rfl (.tmp 48) (.tmp 49) rfl _ _ [] rfl (own1_new (Nat.le_refl _)) (l) _ rfl (HV.out.below ((Below.refl _ _).alloc (Nat.le_refl _) _)) (by have := HLN.out; simp; omega) (by simp) ?_
               intro v5 w5 ho5 hb5
               have HB5 := Lib.hid (below_app hb5)
               have HO5 := Lib.hid ho5
               clear ho5 hb5)
            | (at_builtin
               refine appI rfl (.tmp 50) (.tmp 52) rfl _ _ _ rfl (HO5.out.alloc _) [(mm : Int)] _ rfl (lit1 _ _) (by have := HLN.out; simp; omega) (by have := HB5.out.size; simp; omega) ?_
               intro vx w6 ho6 hb6
               have hqq := below_app2 HB5.out hb6
               have HNN := Lib.hid (show IsI w6 vx ((l) ++ [(mm : Int)]) from ho6.isI)
               clear ho6 hb6 HO5 HB5
               (try replace HV := Lib.hid (HV.out.below hqq)); replace HB := Lib.hid (HB.out.trans (hqq.mono HB.out.size)); (try replace HX := Lib.hid (HX.out.below hqq)); (try replace HY := Lib.hid (HY.out.below hqq)); clear hqq
               have HX := HNN
               clear HNN))
          all_goals first
            | (exfalso; omega)
            | (go_ret; exact ⟨by first | rfl | exact retb (by simp) | exact retb (by simp; omega), HB.out⟩)
set_option maxHeartbeats 2000000 in
theorem w_LeadValue (A : Option Addr) (n c : Nat) (hnc : n ≤ c) (hn : n ≤ maxLen) (w : World) (hb : Bytes w w.heap.size A n) :
    Calls Try.prog 12 #[.slice A n c] w fun e w' => e = .returned (.bool true) ∧ Below w.heap.size w w' := by
  have hn2 := hn
  unfold maxLen at hn2
  rcases (show 1048576 < n ∨ ¬ 1048576 < n by omega) with hbig | hbig
  · go_enter Try.func12, Try.ntmps12
    go_wp2
    go_ret
    exact ⟨rfl, Below.refl _ _⟩
  · go_enter Try.func12, Try.ntmps12
    go_wp2_with fail
    refine (dPartsLead_any A n c hnc hn _ hb).mono ?_
    rintro e W ⟨v, l, x, pc, rfl, hv, hl, hx, hpc, hbW⟩
    obtain ⟨Av, cv, hvv⟩ := hv.sl
    obtain ⟨q, hq⟩ : ∃ q, q = l.length := ⟨_, rfl⟩
    rw [← hq] at hvv
    subst hvv
    obtain ⟨hrow, hql, hqc, hcm⟩ := hv.row
    clear hrow hql
    unfold maxLen at hcm
    have hq21 : q ≤ 21 := by rw [hq]; exact hl.1
    have HV := Lib.hid hv
    have HQ := Lib.hid hq
    have HSB := Lib.hid hl.sum
    have HLN := Lib.hid hl.1
    have HB := Lib.hid hbW
    clear hv hl hbW hq hb
    cases hg : leadI l x pc
    · have HG := Lib.hid hg
      clear hg
      go_wp2_with (first
        | (go_at_call 24; (with_reducible refine (iPartsLead_is _ l _ HV.out x pc _ HG.out _ (Below.refl _ _)).mono ?_); rintro e w' ⟨rfl, hqq⟩; (try replace HV := Lib.hid (HV.out.below hqq)); replace HB := Lib.hid (HB.out.trans (hqq.mono HB.out.size)); (try replace HX := Lib.hid (HX.out.below hqq)); (try replace HY := Lib.hid (HY.out.below hqq)); clear hqq)
        | (go_at_call 27; (with_reducible refine (sLead_is _ l _ HV.out x pc _ HG.out _ (Below.refl _ _)).mono ?_); rintro e w' ⟨rfl, hqq⟩; (try replace HV := Lib.hid (HV.out.below hqq)); replace HB := Lib.hid (HB.out.trans (hqq.mono HB.out.size)); (try replace HX := Lib.hid (HX.out.below hqq)); (try replace HY := Lib.hid (HY.out.below hqq)); clear hqq))
      all_goals first
        | (exfalso; omega)
        | (go_ret; exact ⟨by first | rfl | exact retb (by simp) | exact retb (by simp; omega), HB.out⟩)
    · have HG := Lib.hid hg
      have hval := lead_val hg
      obtain ⟨t, ht⟩ : ∃ t, topI l x = t := ⟨_, rfl⟩
      obtain ⟨s, hs⟩ : ∃ s, l.sum = s := ⟨_, rfl⟩
      rw [ht, hs] at hval
      have HT := Lib.hid ht
      have HSS := Lib.hid hs
      have hsb := sum_bd (leadI_inv hg).1
      rw [hs] at hsb
      obtain ⟨p0, p1⟩ := in3_parts.1 (leadI_inv hg).2.2
      have hm := mul_bd p0 p1 hsb.1 hsb.2
      have hwm : wrap64 (pc * s) = pc * s := IntWalk.wrap64_in _ (by omega)
      obtain ⟨hv1, hv2, hv3, hv4⟩ := hval
      clear ht hs hg
      go_wp2_with (first
        | (go_at_call 24; (with_reducible refine (iPartsLead_is _ l _ HV.out x pc _ HG.out _ (Below.refl _ _)).mono ?_); rintro e w' ⟨rfl, hqq⟩; (try replace HV := Lib.hid (HV.out.below hqq)); replace HB := Lib.hid (HB.out.trans (hqq.mono HB.out.size)); (try replace HX := Lib.hid (HX.out.below hqq)); (try replace HY := Lib.hid (HY.out.below hqq)); clear hqq)
        | (go_at_call 27; (with_reducible refine (sLead_is _ l _ HV.out x pc _ HG.out _ (Below.refl _ _)).mono ?_); rintro e w' ⟨rfl, hqq⟩; (try replace HV := Lib.hid (HV.out.below hqq)); replace HB := Lib.hid (HB.out.trans (hqq.mono HB.out.size)); (try replace HX := Lib.hid (HX.out.below hqq)); (try replace HY := Lib.hid (HY.out.below hqq)); clear hqq)
        | (go_at_call 17; (with_reducible refine (iPartsTop_is _ l _ HV.out x _ HT.out _ (Below.refl _ _)).mono ?_); rintro e w' ⟨rfl, hqq⟩; (try replace HV := Lib.hid (HV.out.below hqq)); replace HB := Lib.hid (HB.out.trans (hqq.mono HB.out.size)); (try replace HX := Lib.hid (HX.out.below hqq)); (try replace HY := Lib.hid (HY.out.below hqq)); clear hqq)
        | (go_at_call 19; (with_reducible refine (sumOf_any l _ _ HV.out HSB.out _ HSS.out).mono ?_); rintro e w' ⟨rfl, rfl⟩))
      all_goals first
        | (exfalso; omega)
        | (go_ret; exact ⟨by first | rfl | exact retb (by simp) | exact retb (by simp; omega), HB.out⟩)
set_option maxHeartbeats 2000000 in
theorem w_Parts (A : Option Addr) (n c : Nat) (hnc : n ≤ c) (hn : n ≤ maxLen) (A2 : Option Addr) (m c2 : Nat) (_hmc : m ≤ c2) (hm : m ≤ maxLen) (w : World) (hb : Bytes w w.heap.size A n) (_hb2 : Bytes w w.heap.size A2 m) :
    Calls Try.prog 3 #[.slice A n c, .slice A2 m c2] w fun e w' => e = .returned (.bool true) ∧ Below w.heap.size w w' := by
  have hn2 := hn
  have hm2 := hm
  unfold maxLen at hn2 hm2
  rcases (show 1048576 < n ∨ (¬ 1048576 < n ∧ 1048576 < m) ∨ ¬ 1048576 < n ∧ ¬ 1048576 < m by omega) with hbig | ⟨hbig, hbig2⟩ | ⟨hbig, hbig2⟩
  · go_enter Try.func3, Try.ntmps3
    go_wp2
    go_ret
    exact ⟨rfl, Below.refl _ _⟩
  · go_enter Try.func3, Try.ntmps3
    go_wp2
    go_ret
    exact ⟨rfl, Below.refl _ _⟩
  · go_enter Try.func3, Try.ntmps3
    go_wp2_with fail
    refine (dPartsValid_any A n c hnc hn _ hb).mono ?_
    rintro e W ⟨v, l, rfl, hv, hl, hbW⟩
    obtain ⟨Av, cv, hvv⟩ := hv.sl
    obtain ⟨q, hq⟩ : ∃ q, q = l.length := ⟨_, rfl⟩
    rw [← hq] at hvv
    subst hvv
    obtain ⟨hrow, hql, hqc, hcm⟩ := hv.row
    clear hrow hql
    unfold maxLen at hcm
    have hq21 : q ≤ 21 := by rw [hq]; exact hl.1
    have HV := Lib.hid hv
    have HQ := Lib.hid hq
    have HSB := Lib.hid hl.sum
    have HLN := Lib.hid hl.1
    have HB := Lib.hid hbW
    clear hv hl hbW hq hb
    cases hg : pOk l
    · have HG := Lib.hid hg
      clear hg
      go_wp2_with (first
        | (go_at_call 14; (with_reducible refine (iPV_any l _ _ HV.out _ HG.out).mono ?_); rintro e w' ⟨rfl, rfl⟩)
        | (go_at_call 15; (with_reducible refine (sPV_any l _ _ HV.out _ HG.out).mono ?_); rintro e w' ⟨rfl, rfl⟩))
      all_goals first
        | (exfalso; omega)
        | (go_ret; exact ⟨by first | rfl | exact retb (by simp) | exact retb (by simp; omega), HB.out⟩)
    · have HG := Lib.hid hg
      obtain ⟨k, hk, hkq⟩ := modCut m q
      have HT := Lib.hid (pOk_take hg k)
      have HBD := Lib.hid (pOk_bad l)
      have hkq' : (k : Int) ≤ (q : Int) := by omega
      have hkc' : (k : Int) ≤ (cv : Int) := by omega
      have HKQ := Lib.hid hkq
      clear hg hkq
      go_wp2_with (first
        | (go_at_call 14; (with_reducible refine (iPV_any l _ _ HV.out _ HG.out).mono ?_); rintro e w' ⟨rfl, rfl⟩)
        | (go_at_call 15; (with_reducible refine (sPV_any l _ _ HV.out _ HG.out).mono ?_); rintro e w' ⟨rfl, rfl⟩)
        | (go_at_call 14; rw [hk]; (with_reducible refine (iPV_any (l.take k) _ _ (HV.out.front HKQ.out) _ HT.out).mono ?_); rintro e w' ⟨rfl, rfl⟩)
        | (go_at_call 14; (with_reducible refine (iPV_any (l.take k) _ _ (HV.out.front HKQ.out) _ HT.out).mono ?_); rintro e w' ⟨rfl, rfl⟩)
        | (go_at_call 14; (with_reducible refine (iPV_any (l ++ [100001]) _ _ HX.out _ HBD.out).mono ?_); rintro e w' ⟨rfl, rfl⟩)
        | (at_builtin
           refine appI rfl (.tmp 44) (.tmp 45) rfl _ _ [] rfl (own1_new (Nat.le_refl _)) (l) _ rfl (HV.out.below ((Below.refl _ _).alloc (Nat.le_refl _) _)) (by have := HLN.out; simp; omega) (by simp) ?_
           intro v5 w5 ho5 hb5
           have HB5 := Lib.hid (below_app hb5)
           have HO5 := Lib.hid ho5
           clear ho5 hb5)
        | (at_builtin
           refine appI rfl (.tmp 46) (.tmp 47) rfl _ _ _ rfl (HO5.out.alloc _) [100001] _ rfl (lit1 _ _) (by have := HLN.out; simp; omega) (by have := HB5.out.size; simp; omega) ?_
           intro vx w6 ho6 hb6
           have hqq := below_app2 HB5.out hb6
           have HNN := Lib.hid (show IsI w6 vx ((l) ++ [100001]) from ho6.isI)
           clear ho6 hb6 HO5 HB5
           (try replace HV := Lib.hid (HV.out.below hqq)); replace HB := Lib.hid (HB.out.trans (hqq.mono HB.out.size)); (try replace HX := Lib.hid (HX.out.below hqq)); (try replace HY := Lib.hid (HY.out.below hqq)); clear hqq
           have HX := HNN
           clear HNN))
      all_goals first
        | (exfalso; omega)
        | (go_ret; exact ⟨by first | rfl | exact retb (by simp) | exact retb (by simp; omega), HB.out⟩)
end Go.Proofs.Ytfnmddofkpigpaa
