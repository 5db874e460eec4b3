/- Walks of the laws of chapter 12: one less, a single contributor. -/
import Derived.Test.YtfaffpfjgipifaaWPB
import Derived.Test.YtfaffpfjgipifaaPL
namespace Go.Proofs.Ytfaffpfjgipifaa
open Go.RowKit
theorem below_lit {w w' : World} {o : Obj} (h : Below (w.alloc o).heap.size (w.alloc o) w') : Below w.heap.size w w' := below_app (h.mono (by simp))
set_option maxHeartbeats 4000000 in
theorem w_SpareLess (A : Option Addr) (n c : Nat) (hnc : n ≤ c) (hn : n ≤ maxLen) (w : World) (hb : Bytes w w.heap.size A n) :
    Calls Try.prog 7 #[.slice A n c] w fun e w' => e = .returned (.bool true) ∧ Below w.heap.size w w' := by
  have hn2 := hn
  unfold maxLen at hn2
  rcases (show 1048576 < n ∨ ¬ 1048576 < n by omega) with hbig | hbig
  · go_enter Try.func7, Try.ntmps7
    go_wp2
    go_ret
    exact ⟨rfl, Below.refl _ _⟩
  · go_enter Try.func7, Try.ntmps7
    go_wp2_with fail
    refine (dPartsSpare_any A n c hnc hn _ hb).mono ?_
    rintro e W ⟨v, l, x, rfl, hv, hl, hx, hbW⟩
    obtain ⟨Av, cv, hvv⟩ := hv.sl
    obtain ⟨q, hq⟩ : ∃ q, q = l.length := ⟨_, rfl⟩
    rw [← hq] at hvv
    subst hvv
    obtain ⟨hrow, hql, hqc, hcm⟩ := hv.row
    clear hrow hql
    unfold maxLen at hcm
    have hq21 : q ≤ 21 := by rw [hq]; exact hl.1
    have HV := Lib.hid hv
    have HQ := Lib.hid hq
    have HSB := Lib.hid hl.sum
    have HLN := Lib.hid hl.1
    have HB := Lib.hid hbW
    clear hv hl hbW hq hb
    obtain ⟨g, hg⟩ : ∃ g, spareI l x = g := ⟨_, rfl⟩
    have HG := Lib.hid hg
    rcases (show g < 0 ∨ 0 ≤ g by omega) with hneg | hg0
    · clear hg
      go_wp2_with (first
        | (go_at_call 21; (with_reducible refine (iPartsSpare_is _ l _ HV.out x _ HG.out _ (Below.refl _ _)).mono ?_); rintro e w' ⟨rfl, hqq⟩; (try replace HV := Lib.hid (HV.out.below hqq)); replace HB := Lib.hid (HB.out.trans (hqq.mono HB.out.size)); (try replace HX := Lib.hid (HX.out.below hqq)); (try replace HY := Lib.hid (HY.out.below hqq)); clear hqq)
        | (go_at_call 22; (with_reducible refine (sSpare_is _ l _ HV.out x _ HG.out _ (Below.refl _ _)).mono ?_); rintro e w' ⟨rfl, hqq⟩; (try replace HV := Lib.hid (HV.out.below hqq)); replace HB := Lib.hid (HB.out.trans (hqq.mono HB.out.size)); (try replace HX := Lib.hid (HX.out.below hqq)); (try replace HY := Lib.hid (HY.out.below hqq)); clear hqq))
      all_goals first
        | (exfalso; omega)
        | (go_ret; exact ⟨by first | rfl | exact retb (by simp) | exact retb (by simp; omega), HB.out⟩)
    · obtain ⟨hok, hx0⟩ := spareI_inv (l := l) (n := x) (by rw [hg]; exact hg0)
      have HOK := Lib.hid hok
      have HP := Lib.hid hx0
      have hgb := spare_bound hok hx0
      rw [hg] at hgb
      obtain ⟨hx0, hx1⟩ := in3_parts.1 hx0
      clear hg
      by_cases hg1 : g < 1
      · clear hgb hok
        go_wp2_with (first
          | (go_at_call 21; (with_reducible refine (iPartsSpare_is _ l _ HV.out x _ HG.out _ (Below.refl _ _)).mono ?_); rintro e w' ⟨rfl, hqq⟩; (try replace HV := Lib.hid (HV.out.below hqq)); replace HB := Lib.hid (HB.out.trans (hqq.mono HB.out.size)); (try replace HX := Lib.hid (HX.out.below hqq)); (try replace HY := Lib.hid (HY.out.below hqq)); clear hqq)
          | (go_at_call 22; (with_reducible refine (sSpare_is _ l _ HV.out x _ HG.out _ (Below.refl _ _)).mono ?_); rintro e w' ⟨rfl, hqq⟩; (try replace HV := Lib.hid (HV.out.below hqq)); replace HB := Lib.hid (HB.out.trans (hqq.mono HB.out.size)); (try replace HX := Lib.hid (HX.out.below hqq)); (try replace HY := Lib.hid (HY.out.below hqq)); clear hqq))
        all_goals first
          | (exfalso; omega)
          | (go_ret; exact ⟨by first | rfl | exact retb (by simp) | exact retb (by simp; omega), HB.out⟩)
      · have hg1' : ¬ g < 1 := hg1
        have hq20 : q ≤ 20 := by rw [HQ.out]; exact (pOk_parts.1 hok).1
        obtain ⟨t1, ht1⟩ : ∃ t, topI l 1 = t := ⟨_, rfl⟩
        obtain ⟨z, hz⟩ : ∃ z, nth l 1 = z := ⟨_, rfl⟩
        have h12 := second_is hok
        rw [ht1, hz] at h12
        have hzb := nth_bd hok 1
        rw [hz] at hzb
        have htb := top1_bd hok
        rw [ht1] at htb
        have HT1 := Lib.hid ht1
        have HT2 := Lib.hid (show topI l 2 = t1 + z by omega)
        have HEN := Lib.hid (fun (h0 : 1 ≤ g) (h1 : g ≤ z) (h2 : q ≤ 19) => show guessI (l ++ [g - 1]) x = true by
          have := spare_less hok HP.out (by rw [HG.out]; exact h0) (by rw [HG.out, hz]; exact h1) (by rw [← HQ.out]; exact h2)
          rwa [HG.out] at this)
        obtain ⟨gb1, gb2, gb3, gb4, gb5⟩ := hgb
        clear h12 ht1 hz hok gb1 gb4 gb5
        by_cases hbig5 : q = 20 ∨ z < g
        · have hcase : (20 : Int) < (q : Int) + 1 ∨ ¬ (20 : Int) < (q : Int) + 1 ∧ z < g := by omega
          clear hbig5
          rcases hcase with hc | ⟨hc, hc2⟩
          all_goals go_wp2_with (first
            | (go_at_call 21; (with_reducible refine (iPartsSpare_is _ l _ HV.out x _ HG.out _ (Below.refl _ _)).mono ?_); rintro e w' ⟨rfl, hqq⟩; (try replace HV := Lib.hid (HV.out.below hqq)); replace HB := Lib.hid (HB.out.trans (hqq.mono HB.out.size)); (try replace HX := Lib.hid (HX.out.below hqq)); (try replace HY := Lib.hid (HY.out.below hqq)); clear hqq)
            | (go_at_call 22; (with_reducible refine (sSpare_is _ l _ HV.out x _ HG.out _ (Below.refl _ _)).mono ?_); rintro e w' ⟨rfl, hqq⟩; (try replace HV := Lib.hid (HV.out.below hqq)); replace HB := Lib.hid (HB.out.trans (hqq.mono HB.out.size)); (try replace HX := Lib.hid (HX.out.below hqq)); (try replace HY := Lib.hid (HY.out.below hqq)); clear hqq)
            | (go_at_call 19; (with_reducible refine (iPartsTop_is _ l _ HV.out 2 _ HT2.out _ (Below.refl _ _)).mono ?_); rintro e w' ⟨rfl, hqq⟩; (try replace HV := Lib.hid (HV.out.below hqq)); replace HB := Lib.hid (HB.out.trans (hqq.mono HB.out.size)); (try replace HX := Lib.hid (HX.out.below hqq)); (try replace HY := Lib.hid (HY.out.below hqq)); clear hqq)
            | (go_at_call 19; (with_reducible refine (iPartsTop_is _ l _ HV.out 1 _ HT1.out _ (Below.refl _ _)).mono ?_); rintro e w' ⟨rfl, hqq⟩; (try replace HV := Lib.hid (HV.out.below hqq)); replace HB := Lib.hid (HB.out.trans (hqq.mono HB.out.size)); (try replace HX := Lib.hid (HX.out.below hqq)); (try replace HY := Lib.hid (HY.out.below hqq)); clear hqq)
            | (at_builtin
               refine appI rfl (.tmp 33) (.tmp 34) rfl _ _ [] rfl (own1_new (Nat.le_refl _)) (l) _ rfl (HV.out.below ((Below.refl _ _).alloc (Nat.le_refl _) _)) (by have := HLN.out; simp; omega) (by simp) ?_
               intro v5 w5 ho5 hb5
               have HB5 := Lib.hid (below_app hb5)
               have HO5 := Lib.hid ho5
               clear ho5 hb5)
            | (at_builtin
               refine appI rfl (.tmp 35) (.tmp 38) rfl _ _ _ rfl (HO5.out.alloc _) [g - 1] _ rfl (lit1 _ _) (by have := HLN.out; simp; omega) (by have := HB5.out.size; simp; omega) ?_
               intro vx w6 ho6 hb6
               have hqq := below_app2 HB5.out hb6
               have HNN := Lib.hid (show IsI w6 vx ((l) ++ [g - 1]) from ho6.isI)
               clear ho6 hb6 HO5 HB5
               (try replace HV := Lib.hid (HV.out.below hqq)); replace HB := Lib.hid (HB.out.trans (hqq.mono HB.out.size)); (try replace HX := Lib.hid (HX.out.below hqq)); (try replace HY := Lib.hid (HY.out.below hqq)); clear hqq
               have HX := HNN
               clear HNN
               obtain ⟨Ax, cx, hvx⟩ := HX.out.sl
               rw [show (l ++ [g - 1]).length = q + 1 by rw [HQ.out]; simp] at hvx
               subst hvx))
          all_goals first
            | (exfalso; omega)
            | (go_ret; exact ⟨by first | rfl | exact retb (by simp) | exact retb (by simp; omega), HB.out⟩)
        · have hc : ¬ (20 : Int) < (q : Int) + 1 := by omega
          have hc2 : ¬ z < g := by omega
          have HE := Lib.hid (HEN.out (by omega) (by omega) (by omega))
          clear hbig5
          go_wp2_with (first
            | (go_at_call 21; (with_reducible refine (iPartsSpare_is _ l _ HV.out x _ HG.out _ (Below.refl _ _)).mono ?_); rintro e w' ⟨rfl, hqq⟩; (try replace HV := Lib.hid (HV.out.below hqq)); replace HB := Lib.hid (HB.out.trans (hqq.mono HB.out.size)); (try replace HX := Lib.hid (HX.out.below hqq)); (try replace HY := Lib.hid (HY.out.below hqq)); clear hqq)
            | (go_at_call 22; (with_reducible refine (sSpare_is _ l _ HV.out x _ HG.out _ (Below.refl _ _)).mono ?_); rintro e w' ⟨rfl, hqq⟩; (try replace HV := Lib.hid (HV.out.below hqq)); replace HB := Lib.hid (HB.out.trans (hqq.mono HB.out.size)); (try replace HX := Lib.hid (HX.out.below hqq)); (try replace HY := Lib.hid (HY.out.below hqq)); clear hqq)
            | (go_at_call 19; (with_reducible refine (iPartsTop_is _ l _ HV.out 2 _ HT2.out _ (Below.refl _ _)).mono ?_); rintro e w' ⟨rfl, hqq⟩; (try replace HV := Lib.hid (HV.out.below hqq)); replace HB := Lib.hid (HB.out.trans (hqq.mono HB.out.size)); (try replace HX := Lib.hid (HX.out.below hqq)); (try replace HY := Lib.hid (HY.out.below hqq)); clear hqq)
            | (go_at_call 19; (with_reducible refine (iPartsTop_is _ l _ HV.out 1 _ HT1.out _ (Below.refl _ _)).mono ?_); rintro e w' ⟨rfl, hqq⟩; (try replace HV := Lib.hid (HV.out.below hqq)); replace HB := Lib.hid (HB.out.trans (hqq.mono HB.out.size)); (try replace HX := Lib.hid (HX.out.below hqq)); (try replace HY := Lib.hid (HY.out.below hqq)); clear hqq)
            | (go_at_call 17; (with_reducible refine (iPartsGuess_is _ (l ++ [g - 1]) _ HX.out x _ HE.out _ (Below.refl _ _)).mono ?_); rintro e w' ⟨rfl, hqq⟩; (try replace HV := Lib.hid (HV.out.below hqq)); replace HB := Lib.hid (HB.out.trans (hqq.mono HB.out.size)); (try replace HX := Lib.hid (HX.out.below hqq)); (try replace HY := Lib.hid (HY.out.below hqq)); clear hqq)
            | (at_builtin
               refine appI rfl (.tmp 33) (.tmp 34) rfl _ _ [] rfl (own1_new (Nat.le_refl _)) (l) _ rfl (HV.out.below ((Below.refl _ _).alloc (Nat.le_refl _) _)) (by have := HLN.out; simp; omega) (by simp) ?_
               intro v5 w5 ho5 hb5
               have HB5 := Lib.hid (below_app hb5)
               have HO5 := Lib.hid ho5
               clear ho5 hb5)
            | (at_builtin
               refine appI rfl (.tmp 35) (.tmp 38) rfl _ _ _ rfl (HO5.out.alloc _) [g - 1] _ rfl (lit1 _ _) (by have := HLN.out; simp; omega) (by have := HB5.out.size; simp; omega) ?_
               intro vx w6 ho6 hb6
               have hqq := below_app2 HB5.out hb6
               have HNN := Lib.hid (show IsI w6 vx ((l) ++ [g - 1]) from ho6.isI)
               clear ho6 hb6 HO5 HB5
               (try replace HV := Lib.hid (HV.out.below hqq)); replace HB := Lib.hid (HB.out.trans (hqq.mono HB.out.size)); (try replace HX := Lib.hid (HX.out.below hqq)); (try replace HY := Lib.hid (HY.out.below hqq)); clear hqq
               have HX := HNN
               clear HNN
               obtain ⟨Ax, cx, hvx⟩ := HX.out.sl
               rw [show (l ++ [g - 1]).length = q + 1 by rw [HQ.out]; simp] at hvx
               subst hvx))
          all_goals first
            | (exfalso; omega)
            | (go_ret; exact ⟨by first | rfl | exact retb (by simp) | exact retb (by simp; omega), HB.out⟩)
set_option maxHeartbeats 2000000 in
theorem w_LeadOne (A : Option Addr) (n c : Nat) (hnc : n ≤ c) (hn : n ≤ maxLen) (A2 : Option Addr) (m c2 : Nat) (_hmc : m ≤ c2) (hm : m ≤ maxLen) (w : World) (hb : Bytes w w.heap.size A n) (_hb2 : Bytes w w.heap.size A2 m) :
    Calls Try.prog 12 #[.slice A n c, .slice A2 m c2] w fun e w' => e = .returned (.bool true) ∧ Below w.heap.size w w' := by
  have hn2 := hn
  have hm2 := hm
  unfold maxLen at hn2 hm2
  rcases (show 1048576 < n ∨ (¬ 1048576 < n ∧ 1048576 < m) ∨ ¬ 1048576 < n ∧ ¬ 1048576 < m by omega) with hbig | ⟨hbig, hbig2⟩ | ⟨hbig, hbig2⟩
  · go_enter Try.func12, Try.ntmps12
    go_wp2
    go_ret
    exact ⟨rfl, Below.refl _ _⟩
  · go_enter Try.func12, Try.ntmps12
    go_wp2
    go_ret
    exact ⟨rfl, Below.refl _ _⟩
  · go_enter Try.func12, Try.ntmps12
    go_wp2_with fail
    refine (dPartsLead_any A n c hnc hn _ hb).mono ?_
    rintro e W ⟨v, l, x, pc, rfl, hv, hl, hx, hpc, hbW⟩
    obtain ⟨Av, cv, hvv⟩ := hv.sl
    obtain ⟨q, hq⟩ : ∃ q, q = l.length := ⟨_, rfl⟩
    rw [← hq] at hvv
    subst hvv
    obtain ⟨hrow, hql, hqc, hcm⟩ := hv.row
    clear hrow hql
    unfold maxLen at hcm
    have hq21 : q ≤ 21 := by rw [hq]; exact hl.1
    have HV := Lib.hid hv
    have HQ := Lib.hid hq
    have HSB := Lib.hid hl.sum
    have HLN := Lib.hid hl.1
    have HB := Lib.hid hbW
    clear hv hl hbW hq hb
    cases hg : leadI l x pc
    · have HG := Lib.hid hg
      clear hg
      go_wp2_with (first
        | (go_at_call 14; (with_reducible refine (iPartsLead_is _ l _ HV.out x pc _ HG.out _ (Below.refl _ _)).mono ?_); rintro e w' ⟨rfl, hqq⟩; (try replace HV := Lib.hid (HV.out.below hqq)); replace HB := Lib.hid (HB.out.trans (hqq.mono HB.out.size)); (try replace HX := Lib.hid (HX.out.below hqq)); (try replace HY := Lib.hid (HY.out.below hqq)); clear hqq)
        | (go_at_call 15; (with_reducible refine (sLead_is _ l _ HV.out x pc _ HG.out _ (Below.refl _ _)).mono ?_); rintro e w' ⟨rfl, hqq⟩; (try replace HV := Lib.hid (HV.out.below hqq)); replace HB := Lib.hid (HB.out.trans (hqq.mono HB.out.size)); (try replace HX := Lib.hid (HX.out.below hqq)); (try replace HY := Lib.hid (HY.out.below hqq)); clear hqq))
      all_goals first
        | (exfalso; omega)
        | (go_ret; exact ⟨by first | rfl | exact retb (by simp) | exact retb (by simp; omega), HB.out⟩)
    · have HG := Lib.hid hg
      have hval := lead_val hg
      have HOK := Lib.hid (leadI_inv hg).1
      obtain ⟨t, ht⟩ : ∃ t, topI l x = t := ⟨_, rfl⟩
      rw [ht] at hval
      have HT := Lib.hid ht
      obtain ⟨hv1, hv2, hv3, hv4⟩ := hval
      obtain ⟨r, hr⟩ : ∃ r, (m : Int) % 100 = r := ⟨_, rfl⟩
      have b1 : 0 ≤ r ∧ r < 100 := by omega
      clear hv1 hv2 ht hg
      by_cases hbt : 100000 < t
      · skip
        go_wp2_with (first
          | (go_at_call 14; (with_reducible refine (iPartsLead_is _ l _ HV.out x pc _ HG.out _ (Below.refl _ _)).mono ?_); rintro e w' ⟨rfl, hqq⟩; (try replace HV := Lib.hid (HV.out.below hqq)); replace HB := Lib.hid (HB.out.trans (hqq.mono HB.out.size)); (try replace HX := Lib.hid (HX.out.below hqq)); (try replace HY := Lib.hid (HY.out.below hqq)); clear hqq)
          | (go_at_call 15; (with_reducible refine (sLead_is _ l _ HV.out x pc _ HG.out _ (Below.refl _ _)).mono ?_); rintro e w' ⟨rfl, hqq⟩; (try replace HV := Lib.hid (HV.out.below hqq)); replace HB := Lib.hid (HB.out.trans (hqq.mono HB.out.size)); (try replace HX := Lib.hid (HX.out.below hqq)); (try replace HY := Lib.hid (HY.out.below hqq)); clear hqq)
          | (go_at_call 19; (with_reducible refine (iPartsTop_is _ l _ HV.out x _ HT.out _ (Below.refl _ _)).mono ?_); rintro e w' ⟨rfl, hqq⟩; (try replace HV := Lib.hid (HV.out.below hqq)); replace HB := Lib.hid (HB.out.trans (hqq.mono HB.out.size)); (try replace HX := Lib.hid (HX.out.below hqq)); (try replace HY := Lib.hid (HY.out.below hqq)); clear hqq)
          | (go_at_call 23; (with_reducible refine (iPV_any l _ _ HV.out _ HOK.out).mono ?_); rintro e w' ⟨rfl, rfl⟩))
        all_goals first
          | (exfalso; omega)
          | (go_ret; exact ⟨by first | rfl | exact retb (by simp) | exact retb (by simp; omega), HB.out⟩)
      · have hls := lead_single hv3 (by omega) b1.1 b1.2
        have H1 := Lib.hid hls.1
        have H2 := Lib.hid hls.2
        have hbt' : ¬ 100000 < t := hbt
        clear hls
        go_wp2_with (first
          | (go_at_call 14; (with_reducible refine (iPartsLead_is _ l _ HV.out x pc _ HG.out _ (Below.refl _ _)).mono ?_); rintro e w' ⟨rfl, hqq⟩; (try replace HV := Lib.hid (HV.out.below hqq)); replace HB := Lib.hid (HB.out.trans (hqq.mono HB.out.size)); (try replace HX := Lib.hid (HX.out.below hqq)); (try replace HY := Lib.hid (HY.out.below hqq)); clear hqq)
          | (go_at_call 15; (with_reducible refine (sLead_is _ l _ HV.out x pc _ HG.out _ (Below.refl _ _)).mono ?_); rintro e w' ⟨rfl, hqq⟩; (try replace HV := Lib.hid (HV.out.below hqq)); replace HB := Lib.hid (HB.out.trans (hqq.mono HB.out.size)); (try replace HX := Lib.hid (HX.out.below hqq)); (try replace HY := Lib.hid (HY.out.below hqq)); clear hqq)
          | (go_at_call 19; (with_reducible refine (iPartsTop_is _ l _ HV.out x _ HT.out _ (Below.refl _ _)).mono ?_); rintro e w' ⟨rfl, hqq⟩; (try replace HV := Lib.hid (HV.out.below hqq)); replace HB := Lib.hid (HB.out.trans (hqq.mono HB.out.size)); (try replace HX := Lib.hid (HX.out.below hqq)); (try replace HY := Lib.hid (HY.out.below hqq)); clear hqq)
          | (go_at_call 14; (with_reducible refine (iPartsLead_is _ [t] _ (lit1 _ _) 1 r _ H1.out _ (Below.refl _ _)).mono ?_); rintro e w' ⟨rfl, hqq⟩; replace hqq := below_lit hqq; (try replace HV := Lib.hid (HV.out.below hqq)); replace HB := Lib.hid (HB.out.trans (hqq.mono HB.out.size)); (try replace HX := Lib.hid (HX.out.below hqq)); (try replace HY := Lib.hid (HY.out.below hqq)); clear hqq)
          | (go_at_call 14; (with_reducible refine (iPartsLead_is _ [t] _ (lit1 _ _) 1 100 _ H2.out _ (Below.refl _ _)).mono ?_); rintro e w' ⟨rfl, hqq⟩; replace hqq := below_lit hqq; (try replace HV := Lib.hid (HV.out.below hqq)); replace HB := Lib.hid (HB.out.trans (hqq.mono HB.out.size)); (try replace HX := Lib.hid (HX.out.below hqq)); (try replace HY := Lib.hid (HY.out.below hqq)); clear hqq))
        all_goals first
          | (exfalso; omega)
          | (go_ret; exact ⟨by first | rfl | exact retb (by simp) | exact retb (by simp; omega), HB.out⟩)
end Go.Proofs.Ytfaffpfjgipifaa
