/- Walks of the laws of chapter 12: leaders, guesses and what is missing. -/
import Derived.Test.YtfaffpfjgipifaaWPB
import Derived.Test.YtfaffpfjgipifaaPL
namespace Go.Proofs.Ytfaffpfjgipifaa
open Go.RowKit
set_option maxHeartbeats 2000000 in
theorem w_Lead (A : Option Addr) (n c : Nat) (hnc : n ≤ c) (hn : n ≤ maxLen) (w : World) (hb : Bytes w w.heap.size A n) :
    Calls Try.prog 3 #[.slice A n c] w fun e w' => e = .returned (.bool true) ∧ Below w.heap.size w w' := by
  have hn2 := hn
  unfold maxLen at hn2
  rcases (show 1048576 < n ∨ ¬ 1048576 < n by omega) with hbig | hbig
  · go_enter Try.func3, Try.ntmps3
    go_wp2
    go_ret
    exact ⟨rfl, Below.refl _ _⟩
  · go_enter Try.func3, Try.ntmps3
    go_wp2_with fail
    refine (dPartsLead_any A n c hnc hn _ hb).mono ?_
    rintro e W ⟨v, l, x, pc, rfl, hv, hl, hx, hpc, hbW⟩
    obtain ⟨Av, cv, hvv⟩ := hv.sl
    obtain ⟨q, hq⟩ : ∃ q, q = l.length := ⟨_, rfl⟩
    rw [← hq] at hvv
    subst hvv
    obtain ⟨hrow, hql, hqc, hcm⟩ := hv.row
    clear hrow hql
    unfold maxLen at hcm
    have hq21 : q ≤ 21 := by rw [hq]; exact hl.1
    have HV := Lib.hid hv
    have HQ := Lib.hid hq
    have HSB := Lib.hid hl.sum
    have HLN := Lib.hid hl.1
    have HB := Lib.hid hbW
    clear hv hl hbW hq hb
    cases hg : leadI l x pc
    · have HG := Lib.hid hg
      clear hg
      go_wp2_with (first
        | (go_at_call 14; (with_reducible refine (iPartsLead_is _ l _ HV.out x pc _ HG.out _ (Below.refl _ _)).mono ?_); rintro e w' ⟨rfl, hqq⟩; (try replace HV := Lib.hid (HV.out.below hqq)); replace HB := Lib.hid (HB.out.trans (hqq.mono HB.out.size)); (try replace HX := Lib.hid (HX.out.below hqq)); (try replace HY := Lib.hid (HY.out.below hqq)); clear hqq)
        | (go_at_call 15; (with_reducible refine (sLead_is _ l _ HV.out x pc _ HG.out _ (Below.refl _ _)).mono ?_); rintro e w' ⟨rfl, hqq⟩; (try replace HV := Lib.hid (HV.out.below hqq)); replace HB := Lib.hid (HB.out.trans (hqq.mono HB.out.size)); (try replace HX := Lib.hid (HX.out.below hqq)); (try replace HY := Lib.hid (HY.out.below hqq)); clear hqq))
      all_goals first
        | (exfalso; omega)
        | (go_ret; exact ⟨by first | rfl | exact retb (by simp) | exact retb (by simp; omega), HB.out⟩)
    · have HG := Lib.hid hg
      obtain ⟨hok, hn5, hp5⟩ := leadI_inv hg
      obtain ⟨n0, n1⟩ := in3_parts.1 hn5
      obtain ⟨p0, p1⟩ := in3_parts.1 hp5
      have HN := Lib.hid (fun h : x ≠ 20 => leadI_next hg h)
      have HP := Lib.hid (fun h : pc ≠ 0 => leadI_less hg h)
      clear hg hn5 hp5 hok
      by_cases h20 : x = 20
      · subst h20
        by_cases h0 : pc = 0
        · subst h0
          go_wp2_with (first
            | (go_at_call 14; (with_reducible refine (iPartsLead_is _ l _ HV.out 20 0 _ HG.out _ (Below.refl _ _)).mono ?_); rintro e w' ⟨rfl, hqq⟩; (try replace HV := Lib.hid (HV.out.below hqq)); replace HB := Lib.hid (HB.out.trans (hqq.mono HB.out.size)); (try replace HX := Lib.hid (HX.out.below hqq)); (try replace HY := Lib.hid (HY.out.below hqq)); clear hqq)
            | (go_at_call 15; (with_reducible refine (sLead_is _ l _ HV.out 20 0 _ HG.out _ (Below.refl _ _)).mono ?_); rintro e w' ⟨rfl, hqq⟩; (try replace HV := Lib.hid (HV.out.below hqq)); replace HB := Lib.hid (HB.out.trans (hqq.mono HB.out.size)); (try replace HX := Lib.hid (HX.out.below hqq)); (try replace HY := Lib.hid (HY.out.below hqq)); clear hqq))
          all_goals first
            | (exfalso; omega)
            | (go_ret; exact ⟨by first | rfl | exact retb (by simp) | exact retb (by simp; omega), HB.out⟩)
        · have h0' : (pc == 0) = false := by simpa using h0
          have HPP := Lib.hid (HP.out h0)
          clear h0
          go_wp2_with (first
            | (go_at_call 14; (with_reducible refine (iPartsLead_is _ l _ HV.out 20 pc _ HG.out _ (Below.refl _ _)).mono ?_); rintro e w' ⟨rfl, hqq⟩; (try replace HV := Lib.hid (HV.out.below hqq)); replace HB := Lib.hid (HB.out.trans (hqq.mono HB.out.size)); (try replace HX := Lib.hid (HX.out.below hqq)); (try replace HY := Lib.hid (HY.out.below hqq)); clear hqq)
            | (go_at_call 15; (with_reducible refine (sLead_is _ l _ HV.out 20 pc _ HG.out _ (Below.refl _ _)).mono ?_); rintro e w' ⟨rfl, hqq⟩; (try replace HV := Lib.hid (HV.out.below hqq)); replace HB := Lib.hid (HB.out.trans (hqq.mono HB.out.size)); (try replace HX := Lib.hid (HX.out.below hqq)); (try replace HY := Lib.hid (HY.out.below hqq)); clear hqq)
            | (go_at_call 14; (with_reducible refine (iPartsLead_is _ l _ HV.out 20 (pc - 1) _ HPP.out _ (Below.refl _ _)).mono ?_); rintro e w' ⟨rfl, hqq⟩; (try replace HV := Lib.hid (HV.out.below hqq)); replace HB := Lib.hid (HB.out.trans (hqq.mono HB.out.size)); (try replace HX := Lib.hid (HX.out.below hqq)); (try replace HY := Lib.hid (HY.out.below hqq)); clear hqq))
          all_goals first
            | (exfalso; omega)
            | (go_ret; exact ⟨by first | rfl | exact retb (by simp) | exact retb (by simp; omega), HB.out⟩)
      · have h20' : (x == 20) = false := by simpa using h20
        have HNN := Lib.hid (HN.out h20)
        clear h20
        by_cases h0 : pc = 0
        · subst h0
          go_wp2_with (first
            | (go_at_call 14; (with_reducible refine (iPartsLead_is _ l _ HV.out x 0 _ HG.out _ (Below.refl _ _)).mono ?_); rintro e w' ⟨rfl, hqq⟩; (try replace HV := Lib.hid (HV.out.below hqq)); replace HB := Lib.hid (HB.out.trans (hqq.mono HB.out.size)); (try replace HX := Lib.hid (HX.out.below hqq)); (try replace HY := Lib.hid (HY.out.below hqq)); clear hqq)
            | (go_at_call 15; (with_reducible refine (sLead_is _ l _ HV.out x 0 _ HG.out _ (Below.refl _ _)).mono ?_); rintro e w' ⟨rfl, hqq⟩; (try replace HV := Lib.hid (HV.out.below hqq)); replace HB := Lib.hid (HB.out.trans (hqq.mono HB.out.size)); (try replace HX := Lib.hid (HX.out.below hqq)); (try replace HY := Lib.hid (HY.out.below hqq)); clear hqq)
            | (go_at_call 14; (with_reducible refine (iPartsLead_is _ l _ HV.out (x + 1) 0 _ HNN.out _ (Below.refl _ _)).mono ?_); rintro e w' ⟨rfl, hqq⟩; (try replace HV := Lib.hid (HV.out.below hqq)); replace HB := Lib.hid (HB.out.trans (hqq.mono HB.out.size)); (try replace HX := Lib.hid (HX.out.below hqq)); (try replace HY := Lib.hid (HY.out.below hqq)); clear hqq))
          all_goals first
            | (exfalso; omega)
            | (go_ret; exact ⟨by first | rfl | exact retb (by simp) | exact retb (by simp; omega), HB.out⟩)
        · have h0' : (pc == 0) = false := by simpa using h0
          have HPP := Lib.hid (HP.out h0)
          clear h0
          go_wp2_with (first
            | (go_at_call 14; (with_reducible refine (iPartsLead_is _ l _ HV.out x pc _ HG.out _ (Below.refl _ _)).mono ?_); rintro e w' ⟨rfl, hqq⟩; (try replace HV := Lib.hid (HV.out.below hqq)); replace HB := Lib.hid (HB.out.trans (hqq.mono HB.out.size)); (try replace HX := Lib.hid (HX.out.below hqq)); (try replace HY := Lib.hid (HY.out.below hqq)); clear hqq)
            | (go_at_call 15; (with_reducible refine (sLead_is _ l _ HV.out x pc _ HG.out _ (Below.refl _ _)).mono ?_); rintro e w' ⟨rfl, hqq⟩; (try replace HV := Lib.hid (HV.out.below hqq)); replace HB := Lib.hid (HB.out.trans (hqq.mono HB.out.size)); (try replace HX := Lib.hid (HX.out.below hqq)); (try replace HY := Lib.hid (HY.out.below hqq)); clear hqq)
            | (go_at_call 14; (with_reducible refine (iPartsLead_is _ l _ HV.out (x + 1) pc _ HNN.out _ (Below.refl _ _)).mono ?_); rintro e w' ⟨rfl, hqq⟩; (try replace HV := Lib.hid (HV.out.below hqq)); replace HB := Lib.hid (HB.out.trans (hqq.mono HB.out.size)); (try replace HX := Lib.hid (HX.out.below hqq)); (try replace HY := Lib.hid (HY.out.below hqq)); clear hqq)
            | (go_at_call 14; (with_reducible refine (iPartsLead_is _ l _ HV.out x (pc - 1) _ HPP.out _ (Below.refl _ _)).mono ?_); rintro e w' ⟨rfl, hqq⟩; (try replace HV := Lib.hid (HV.out.below hqq)); replace HB := Lib.hid (HB.out.trans (hqq.mono HB.out.size)); (try replace HX := Lib.hid (HX.out.below hqq)); (try replace HY := Lib.hid (HY.out.below hqq)); clear hqq))
          all_goals first
            | (exfalso; omega)
            | (go_ret; exact ⟨by first | rfl | exact retb (by simp) | exact retb (by simp; omega), HB.out⟩)
set_option maxHeartbeats 2000000 in
theorem w_Guess (A : Option Addr) (n c : Nat) (hnc : n ≤ c) (hn : n ≤ maxLen) (w : World) (hb : Bytes w w.heap.size A n) :
    Calls Try.prog 4 #[.slice A n c] w fun e w' => e = .returned (.bool true) ∧ Below w.heap.size w w' := by
  have hn2 := hn
  unfold maxLen at hn2
  rcases (show 1048576 < n ∨ ¬ 1048576 < n by omega) with hbig | hbig
  · go_enter Try.func4, Try.ntmps4
    go_wp2
    go_ret
    exact ⟨rfl, Below.refl _ _⟩
  · go_enter Try.func4, Try.ntmps4
    go_wp2_with fail
    refine (dPartsGuess_any A n c hnc hn _ hb).mono ?_
    rintro e W ⟨v, l, x, rfl, hv, hl, hx, hbW⟩
    obtain ⟨Av, cv, hvv⟩ := hv.sl
    obtain ⟨q, hq⟩ : ∃ q, q = l.length := ⟨_, rfl⟩
    rw [← hq] at hvv
    subst hvv
    obtain ⟨hrow, hql, hqc, hcm⟩ := hv.row
    clear hrow hql
    unfold maxLen at hcm
    have hq21 : q ≤ 21 := by rw [hq]; exact hl.1
    have HV := Lib.hid hv
    have HQ := Lib.hid hq
    have HSB := Lib.hid hl.sum
    have HLN := Lib.hid hl.1
    have HB := Lib.hid hbW
    clear hv hl hbW hq hb
    cases hg : guessI l x
    · have HG := Lib.hid hg
      clear hg
      go_wp2_with (first
        | (go_at_call 17; (with_reducible refine (iPartsGuess_is _ l _ HV.out x _ HG.out _ (Below.refl _ _)).mono ?_); rintro e w' ⟨rfl, hqq⟩; (try replace HV := Lib.hid (HV.out.below hqq)); replace HB := Lib.hid (HB.out.trans (hqq.mono HB.out.size)); (try replace HX := Lib.hid (HX.out.below hqq)); (try replace HY := Lib.hid (HY.out.below hqq)); clear hqq)
        | (go_at_call 18; (with_reducible refine (sGuess_is _ l _ HV.out x _ HG.out _ (Below.refl _ _)).mono ?_); rintro e w' ⟨rfl, hqq⟩; (try replace HV := Lib.hid (HV.out.below hqq)); replace HB := Lib.hid (HB.out.trans (hqq.mono HB.out.size)); (try replace HX := Lib.hid (HX.out.below hqq)); (try replace HY := Lib.hid (HY.out.below hqq)); clear hqq))
      all_goals first
        | (exfalso; omega)
        | (go_ret; exact ⟨by first | rfl | exact retb (by simp) | exact retb (by simp; omega), HB.out⟩)
    · have HG := Lib.hid hg
      obtain ⟨hok, hp5⟩ := guessI_inv hg
      obtain ⟨p0, p1⟩ := in3_parts.1 hp5
      have hq20 : q ≤ 20 := by rw [HQ.out]; exact (pOk_parts.1 hok).1
      obtain ⟨t, ht⟩ : ∃ t, topI l 1 = t := ⟨_, rfl⟩
      have htb := top1_bd hok
      rw [ht] at htb
      have HT := Lib.hid ht
      have HN := Lib.hid (guess_no_two hok hp5)
      rw [ht] at HN
      have HM := Lib.hid (fun h : x ≠ 100 => guess_more hg h)
      clear hg hp5 ht hok
      by_cases h100 : x = 100
      · subst h100
        go_wp2_with (first
          | (go_at_call 17; (with_reducible refine (iPartsGuess_is _ l _ HV.out 100 _ HG.out _ (Below.refl _ _)).mono ?_); rintro e w' ⟨rfl, hqq⟩; (try replace HV := Lib.hid (HV.out.below hqq)); replace HB := Lib.hid (HB.out.trans (hqq.mono HB.out.size)); (try replace HX := Lib.hid (HX.out.below hqq)); (try replace HY := Lib.hid (HY.out.below hqq)); clear hqq)
          | (go_at_call 18; (with_reducible refine (sGuess_is _ l _ HV.out 100 _ HG.out _ (Below.refl _ _)).mono ?_); rintro e w' ⟨rfl, hqq⟩; (try replace HV := Lib.hid (HV.out.below hqq)); replace HB := Lib.hid (HB.out.trans (hqq.mono HB.out.size)); (try replace HX := Lib.hid (HX.out.below hqq)); (try replace HY := Lib.hid (HY.out.below hqq)); clear hqq)
          | (go_at_call 19; (with_reducible refine (iPartsTop_is _ l _ HV.out 1 _ HT.out _ (Below.refl _ _)).mono ?_); rintro e w' ⟨rfl, hqq⟩; (try replace HV := Lib.hid (HV.out.below hqq)); replace HB := Lib.hid (HB.out.trans (hqq.mono HB.out.size)); (try replace HX := Lib.hid (HX.out.below hqq)); (try replace HY := Lib.hid (HY.out.below hqq)); clear hqq)
          | (go_at_call 17; (with_reducible refine (iPartsGuess_is _ (l ++ [t, t]) _ HX.out 100 _ HN.out _ (Below.refl _ _)).mono ?_); rintro e w' ⟨rfl, hqq⟩; (try replace HV := Lib.hid (HV.out.below hqq)); replace HB := Lib.hid (HB.out.trans (hqq.mono HB.out.size)); (try replace HX := Lib.hid (HX.out.below hqq)); (try replace HY := Lib.hid (HY.out.below hqq)); clear hqq)
          | (at_builtin
             refine appI rfl (.tmp 35) (.tmp 36) rfl _ _ [] rfl (own1_new (Nat.le_refl _)) (l) _ rfl (HV.out.below ((Below.refl _ _).alloc (Nat.le_refl _) _)) (by have := HLN.out; simp; omega) (by simp) ?_
             intro v5 w5 ho5 hb5
             have HB5 := Lib.hid (below_app hb5)
             have HO5 := Lib.hid ho5
             clear ho5 hb5)
          | (at_builtin
             refine appI rfl (.tmp 37) (.tmp 40) rfl _ _ _ rfl (HO5.out.alloc _) [t, t] _ rfl (lit2 _ _ _) (by have := HLN.out; simp; omega) (by have := HB5.out.size; simp; omega) ?_
             intro vx w6 ho6 hb6
             have hqq := below_app2 HB5.out hb6
             have HNN := Lib.hid (show IsI w6 vx ((l) ++ [t, t]) from ho6.isI)
             clear ho6 hb6 HO5 HB5
             (try replace HV := Lib.hid (HV.out.below hqq)); replace HB := Lib.hid (HB.out.trans (hqq.mono HB.out.size)); (try replace HX := Lib.hid (HX.out.below hqq)); (try replace HY := Lib.hid (HY.out.below hqq)); clear hqq
             have HX := HNN
             clear HNN
             obtain ⟨Ax, cx, hvx⟩ := HX.out.sl
             rw [show (l ++ [t, t]).length = q + 2 by rw [HQ.out]; simp] at hvx
             subst hvx))
        all_goals first
          | (exfalso; omega)
          | (go_ret; exact ⟨by first | rfl | exact retb (by simp) | exact retb (by simp; omega), HB.out⟩)
      · have h100' : (x == 100) = false := by simpa using h100
        have HMM := Lib.hid (HM.out h100)
        clear h100
        go_wp2_with (first
          | (go_at_call 17; (with_reducible refine (iPartsGuess_is _ l _ HV.out x _ HG.out _ (Below.refl _ _)).mono ?_); rintro e w' ⟨rfl, hqq⟩; (try replace HV := Lib.hid (HV.out.below hqq)); replace HB := Lib.hid (HB.out.trans (hqq.mono HB.out.size)); (try replace HX := Lib.hid (HX.out.below hqq)); (try replace HY := Lib.hid (HY.out.below hqq)); clear hqq)
          | (go_at_call 18; (with_reducible refine (sGuess_is _ l _ HV.out x _ HG.out _ (Below.refl _ _)).mono ?_); rintro e w' ⟨rfl, hqq⟩; (try replace HV := Lib.hid (HV.out.below hqq)); replace HB := Lib.hid (HB.out.trans (hqq.mono HB.out.size)); (try replace HX := Lib.hid (HX.out.below hqq)); (try replace HY := Lib.hid (HY.out.below hqq)); clear hqq)
          | (go_at_call 19; (with_reducible refine (iPartsTop_is _ l _ HV.out 1 _ HT.out _ (Below.refl _ _)).mono ?_); rintro e w' ⟨rfl, hqq⟩; (try replace HV := Lib.hid (HV.out.below hqq)); replace HB := Lib.hid (HB.out.trans (hqq.mono HB.out.size)); (try replace HX := Lib.hid (HX.out.below hqq)); (try replace HY := Lib.hid (HY.out.below hqq)); clear hqq)
          | (go_at_call 17; (with_reducible refine (iPartsGuess_is _ l _ HV.out (x + 1) _ HMM.out _ (Below.refl _ _)).mono ?_); rintro e w' ⟨rfl, hqq⟩; (try replace HV := Lib.hid (HV.out.below hqq)); replace HB := Lib.hid (HB.out.trans (hqq.mono HB.out.size)); (try replace HX := Lib.hid (HX.out.below hqq)); (try replace HY := Lib.hid (HY.out.below hqq)); clear hqq)
          | (go_at_call 17; (with_reducible refine (iPartsGuess_is _ (l ++ [t, t]) _ HX.out x _ HN.out _ (Below.refl _ _)).mono ?_); rintro e w' ⟨rfl, hqq⟩; (try replace HV := Lib.hid (HV.out.below hqq)); replace HB := Lib.hid (HB.out.trans (hqq.mono HB.out.size)); (try replace HX := Lib.hid (HX.out.below hqq)); (try replace HY := Lib.hid (HY.out.below hqq)); clear hqq)
          | (at_builtin
             refine appI rfl (.tmp 35) (.tmp 36) rfl _ _ [] rfl (own1_new (Nat.le_refl _)) (l) _ rfl (HV.out.below ((Below.refl _ _).alloc (Nat.le_refl _) _)) (by have := HLN.out; simp; omega) (by simp) ?_
             intro v5 w5 ho5 hb5
             have HB5 := Lib.hid (below_app hb5)
             have HO5 := Lib.hid ho5
             clear ho5 hb5)
          | (at_builtin
             refine appI rfl (.tmp 37) (.tmp 40) rfl _ _ _ rfl (HO5.out.alloc _) [t, t] _ rfl (lit2 _ _ _) (by have := HLN.out; simp; omega) (by have := HB5.out.size; simp; omega) ?_
             intro vx w6 ho6 hb6
             have hqq := below_app2 HB5.out hb6
             have HNN := Lib.hid (show IsI w6 vx ((l) ++ [t, t]) from ho6.isI)
             clear ho6 hb6 HO5 HB5
             (try replace HV := Lib.hid (HV.out.below hqq)); replace HB := Lib.hid (HB.out.trans (hqq.mono HB.out.size)); (try replace HX := Lib.hid (HX.out.below hqq)); (try replace HY := Lib.hid (HY.out.below hqq)); clear hqq
             have HX := HNN
             clear HNN
             obtain ⟨Ax, cx, hvx⟩ := HX.out.sl
             rw [show (l ++ [t, t]).length = q + 2 by rw [HQ.out]; simp] at hvx
             subst hvx))
        all_goals first
          | (exfalso; omega)
          | (go_ret; exact ⟨by first | rfl | exact retb (by simp) | exact retb (by simp; omega), HB.out⟩)
set_option maxHeartbeats 4000000 in
theorem w_GuessMerge (A : Option Addr) (n c : Nat) (hnc : n ≤ c) (hn : n ≤ maxLen) (w : World) (hb : Bytes w w.heap.size A n) :
    Calls Try.prog 5 #[.slice A n c] w fun e w' => e = .returned (.bool true) ∧ Below w.heap.size w w' := by
  have hn2 := hn
  unfold maxLen at hn2
  rcases (show 1048576 < n ∨ ¬ 1048576 < n by omega) with hbig | hbig
  · go_enter Try.func5, Try.ntmps5
    go_wp2
    go_ret
    exact ⟨rfl, Below.refl _ _⟩
  · go_enter Try.func5, Try.ntmps5
    go_wp2_with fail
    refine (dPartsGuess_any A n c hnc hn _ hb).mono ?_
    rintro e W ⟨v, l, x, rfl, hv, hl, hx, hbW⟩
    obtain ⟨Av, cv, hvv⟩ := hv.sl
    obtain ⟨q, hq⟩ : ∃ q, q = l.length := ⟨_, rfl⟩
    rw [← hq] at hvv
    subst hvv
    obtain ⟨hrow, hql, hqc, hcm⟩ := hv.row
    clear hrow hql
    unfold maxLen at hcm
    have hq21 : q ≤ 21 := by rw [hq]; exact hl.1
    have HV := Lib.hid hv
    have HQ := Lib.hid hq
    have HSB := Lib.hid hl.sum
    have HLN := Lib.hid hl.1
    have HB := Lib.hid hbW
    clear hv hl hbW hq hb
    cases hg : guessI l x
    · have HG := Lib.hid hg
      clear hg
      go_wp2_with (first
        | (go_at_call 17; (with_reducible refine (iPartsGuess_is _ l _ HV.out x _ HG.out _ (Below.refl _ _)).mono ?_); rintro e w' ⟨rfl, hqq⟩; (try replace HV := Lib.hid (HV.out.below hqq)); replace HB := Lib.hid (HB.out.trans (hqq.mono HB.out.size)); (try replace HX := Lib.hid (HX.out.below hqq)); (try replace HY := Lib.hid (HY.out.below hqq)); clear hqq)
        | (go_at_call 18; (with_reducible refine (sGuess_is _ l _ HV.out x _ HG.out _ (Below.refl _ _)).mono ?_); rintro e w' ⟨rfl, hqq⟩; (try replace HV := Lib.hid (HV.out.below hqq)); replace HB := Lib.hid (HB.out.trans (hqq.mono HB.out.size)); (try replace HX := Lib.hid (HX.out.below hqq)); (try replace HY := Lib.hid (HY.out.below hqq)); clear hqq))
      all_goals first
        | (exfalso; omega)
        | (go_ret; exact ⟨by first | rfl | exact retb (by simp) | exact retb (by simp; omega), HB.out⟩)
    · have HG := Lib.hid hg
      obtain ⟨hok, hp5⟩ := guessI_inv hg
      obtain ⟨p0, p1⟩ := in3_parts.1 hp5
      have hq20 : q ≤ 20 := by rw [HQ.out]; exact (pOk_parts.1 hok).1
      obtain ⟨t, ht⟩ : ∃ t, topI l 1 = t := ⟨_, rfl⟩
      have htb := top1_bd hok
      rw [ht] at htb
      have HT := Lib.hid ht
      have hlen := guess_len hg
      rw [← HQ.out] at hlen
      have hlen' : (0 : Int) < (q : Int) := by omega
      obtain ⟨s, hs⟩ : ∃ s, t / 2 = s := ⟨_, rfl⟩
      obtain ⟨u, hu⟩ : ∃ u, s / 2 = u := ⟨_, rfl⟩
      have hub : 0 ≤ s ∧ s ≤ 50000 ∧ 0 ≤ u ∧ u ≤ s := by omega
      have hst : s = topI l 1 / 2 := by rw [ht, hs]
      obtain ⟨gx, hgx⟩ : ∃ gx, guessI (l ++ [s, s, s]) x = gx := ⟨_, rfl⟩
      have HGX := Lib.hid hgx
      have HM := Lib.hid (fun (h1 : q ≤ 16) (h2 : gx = false) (m : Int) (h3 : 0 ≤ m) (h4 : m ≤ s) => guess_merge hok hp5 hst (by rw [← HQ.out]; exact h1) (hgx.trans h2) h3 h4)
      clear hg hp5 ht hok hst hgx
      by_cases h16 : 17 ≤ q
      · have h16' : (20 : Int) ≤ (q : Int) + 3 := by omega
        go_wp2_with (first
          | (go_at_call 17; (with_reducible refine (iPartsGuess_is _ l _ HV.out x _ HG.out _ (Below.refl _ _)).mono ?_); rintro e w' ⟨rfl, hqq⟩; (try replace HV := Lib.hid (HV.out.below hqq)); replace HB := Lib.hid (HB.out.trans (hqq.mono HB.out.size)); (try replace HX := Lib.hid (HX.out.below hqq)); (try replace HY := Lib.hid (HY.out.below hqq)); clear hqq)
          | (go_at_call 18; (with_reducible refine (sGuess_is _ l _ HV.out x _ HG.out _ (Below.refl _ _)).mono ?_); rintro e w' ⟨rfl, hqq⟩; (try replace HV := Lib.hid (HV.out.below hqq)); replace HB := Lib.hid (HB.out.trans (hqq.mono HB.out.size)); (try replace HX := Lib.hid (HX.out.below hqq)); (try replace HY := Lib.hid (HY.out.below hqq)); clear hqq)
          | (go_at_call 19; (with_reducible refine (iPartsTop_is _ l _ HV.out 1 _ HT.out _ (Below.refl _ _)).mono ?_); rintro e w' ⟨rfl, hqq⟩; (try replace HV := Lib.hid (HV.out.below hqq)); replace HB := Lib.hid (HB.out.trans (hqq.mono HB.out.size)); (try replace HX := Lib.hid (HX.out.below hqq)); (try replace HY := Lib.hid (HY.out.below hqq)); clear hqq)
          | (at_builtin
             refine appI rfl (.tmp 36) (.tmp 37) rfl _ _ [] rfl (own1_new (Nat.le_refl _)) (l) _ rfl (HV.out.below ((Below.refl _ _).alloc (Nat.le_refl _) _)) (by have := HLN.out; simp; omega) (by simp) ?_
             intro v5 w5 ho5 hb5
             have HB5 := Lib.hid (below_app hb5)
             have HO5 := Lib.hid ho5
             clear ho5 hb5)
          | (at_builtin
             refine appI rfl (.tmp 38) (.tmp 42) rfl _ _ _ rfl (HO5.out.alloc _) [s, s, s] _ rfl (lit3 _ _ _ _) (by have := HLN.out; simp; omega) (by have := HB5.out.size; simp; omega) ?_
             intro vx w6 ho6 hb6
             have hqq := below_app2 HB5.out hb6
             have HNN := Lib.hid (show IsI w6 vx ((l) ++ [s, s, s]) from ho6.isI)
             clear ho6 hb6 HO5 HB5
             (try replace HV := Lib.hid (HV.out.below hqq)); replace HB := Lib.hid (HB.out.trans (hqq.mono HB.out.size)); (try replace HX := Lib.hid (HX.out.below hqq)); (try replace HY := Lib.hid (HY.out.below hqq)); clear hqq
             have HX := HNN
             clear HNN
             obtain ⟨Ax, cx, hvx⟩ := HX.out.sl
             rw [show (l ++ [s, s, s]).length = q + 3 by rw [HQ.out]; simp] at hvx
             subst hvx))
        all_goals first
          | (exfalso; omega)
          | (go_ret; exact ⟨by first | rfl | exact retb (by simp) | exact retb (by simp; omega), HB.out⟩)
      · have h16' : ¬ (20 : Int) ≤ (q : Int) + 3 := by omega
        cases gx
        · have M1 := Lib.hid (HM.out (by omega) rfl s hub.1 (Int.le_refl _))
          have M2 := Lib.hid (HM.out (by omega) rfl u hub.2.2.1 hub.2.2.2)
          go_wp2_with (first
            | (go_at_call 17; (with_reducible refine (iPartsGuess_is _ l _ HV.out x _ HG.out _ (Below.refl _ _)).mono ?_); rintro e w' ⟨rfl, hqq⟩; (try replace HV := Lib.hid (HV.out.below hqq)); replace HB := Lib.hid (HB.out.trans (hqq.mono HB.out.size)); (try replace HX := Lib.hid (HX.out.below hqq)); (try replace HY := Lib.hid (HY.out.below hqq)); clear hqq)
            | (go_at_call 18; (with_reducible refine (sGuess_is _ l _ HV.out x _ HG.out _ (Below.refl _ _)).mono ?_); rintro e w' ⟨rfl, hqq⟩; (try replace HV := Lib.hid (HV.out.below hqq)); replace HB := Lib.hid (HB.out.trans (hqq.mono HB.out.size)); (try replace HX := Lib.hid (HX.out.below hqq)); (try replace HY := Lib.hid (HY.out.below hqq)); clear hqq)
            | (go_at_call 19; (with_reducible refine (iPartsTop_is _ l _ HV.out 1 _ HT.out _ (Below.refl _ _)).mono ?_); rintro e w' ⟨rfl, hqq⟩; (try replace HV := Lib.hid (HV.out.below hqq)); replace HB := Lib.hid (HB.out.trans (hqq.mono HB.out.size)); (try replace HX := Lib.hid (HX.out.below hqq)); (try replace HY := Lib.hid (HY.out.below hqq)); clear hqq)
            | (go_at_call 17; (with_reducible refine (iPartsGuess_is _ (l ++ [s, s, s]) _ HX.out x _ HGX.out _ (Below.refl _ _)).mono ?_); rintro e w' ⟨rfl, hqq⟩; (try replace HV := Lib.hid (HV.out.below hqq)); replace HB := Lib.hid (HB.out.trans (hqq.mono HB.out.size)); (try replace HX := Lib.hid (HX.out.below hqq)); (try replace HY := Lib.hid (HY.out.below hqq)); clear hqq)
            | (go_at_call 17; (with_reducible refine (iPartsGuess_is _ (l ++ [s, s, s] ++ [s]) _ HY.out x _ M1.out _ (Below.refl _ _)).mono ?_); rintro e w' ⟨rfl, hqq⟩; (try replace HV := Lib.hid (HV.out.below hqq)); replace HB := Lib.hid (HB.out.trans (hqq.mono HB.out.size)); (try replace HX := Lib.hid (HX.out.below hqq)); (try replace HY := Lib.hid (HY.out.below hqq)); clear hqq)
            | (go_at_call 17; (with_reducible refine (iPartsGuess_is _ (l ++ [s, s, s] ++ [u]) _ HY.out x _ M2.out _ (Below.refl _ _)).mono ?_); rintro e w' ⟨rfl, hqq⟩; (try replace HV := Lib.hid (HV.out.below hqq)); replace HB := Lib.hid (HB.out.trans (hqq.mono HB.out.size)); (try replace HX := Lib.hid (HX.out.below hqq)); (try replace HY := Lib.hid (HY.out.below hqq)); clear hqq)
            | (at_builtin
               refine appI rfl (.tmp 36) (.tmp 37) rfl _ _ [] rfl (own1_new (Nat.le_refl _)) (l) _ rfl (HV.out.below ((Below.refl _ _).alloc (Nat.le_refl _) _)) (by have := HLN.out; simp; omega) (by simp) ?_
               intro v5 w5 ho5 hb5
               have HB5 := Lib.hid (below_app hb5)
               have HO5 := Lib.hid ho5
               clear ho5 hb5)
            | (at_builtin
               refine appI rfl (.tmp 38) (.tmp 42) rfl _ _ _ rfl (HO5.out.alloc _) [s, s, s] _ rfl (lit3 _ _ _ _) (by have := HLN.out; simp; omega) (by have := HB5.out.size; simp; omega) ?_
               intro vx w6 ho6 hb6
               have hqq := below_app2 HB5.out hb6
               have HNN := Lib.hid (show IsI w6 vx ((l) ++ [s, s, s]) from ho6.isI)
               clear ho6 hb6 HO5 HB5
               (try replace HV := Lib.hid (HV.out.below hqq)); replace HB := Lib.hid (HB.out.trans (hqq.mono HB.out.size)); (try replace HX := Lib.hid (HX.out.below hqq)); (try replace HY := Lib.hid (HY.out.below hqq)); clear hqq
               have HX := HNN
               clear HNN
               obtain ⟨Ax, cx, hvx⟩ := HX.out.sl
               rw [show (l ++ [s, s, s]).length = q + 3 by rw [HQ.out]; simp] at hvx
               subst hvx)
            | (at_builtin
               refine appI rfl (.tmp 55) (.tmp 56) rfl _ _ [] rfl (own1_new (Nat.le_refl _)) (l ++ [s, s, s]) _ rfl (HX.out.below ((Below.refl _ _).alloc (Nat.le_refl _) _)) (by have := HLN.out; simp; omega) (by simp) ?_
               intro v5 w5 ho5 hb5
               have HB5 := Lib.hid (below_app hb5)
               have HO5 := Lib.hid ho5
               clear ho5 hb5)
            | (at_builtin
               refine appI rfl (.tmp 57) (.tmp 59) rfl _ _ _ rfl (HO5.out.alloc _) [s] _ rfl (lit1 _ _) (by have := HLN.out; simp; omega) (by have := HB5.out.size; simp; omega) ?_
               intro vy w6 ho6 hb6
               have hqq := below_app2 HB5.out hb6
               have HNN := Lib.hid (show IsI w6 vy ((l ++ [s, s, s]) ++ [s]) from ho6.isI)
               clear ho6 hb6 HO5 HB5
               (try replace HV := Lib.hid (HV.out.below hqq)); replace HB := Lib.hid (HB.out.trans (hqq.mono HB.out.size)); (try replace HX := Lib.hid (HX.out.below hqq)); (try replace HY := Lib.hid (HY.out.below hqq)); clear hqq
               have HY := HNN
               clear HNN)
            | (at_builtin
               refine appI rfl (.tmp 65) (.tmp 66) rfl _ _ [] rfl (own1_new (Nat.le_refl _)) (l ++ [s, s, s]) _ rfl (HX.out.below ((Below.refl _ _).alloc (Nat.le_refl _) _)) (by have := HLN.out; simp; omega) (by simp) ?_
               intro v5 w5 ho5 hb5
               have HB5 := Lib.hid (below_app hb5)
               have HO5 := Lib.hid ho5
               clear ho5 hb5)
            | (at_builtin
               refine appI rfl (.tmp 67) (.tmp 70) rfl _ _ _ rfl (HO5.out.alloc _) [u] _ rfl (lit1 _ _) (by have := HLN.out; simp; omega) (by have := HB5.out.size; simp; omega) ?_
               intro vz w6 ho6 hb6
               have hqq := below_app2 HB5.out hb6
               have HNN := Lib.hid (show IsI w6 vz ((l ++ [s, s, s]) ++ [u]) from ho6.isI)
               clear ho6 hb6 HO5 HB5
               (try replace HV := Lib.hid (HV.out.below hqq)); replace HB := Lib.hid (HB.out.trans (hqq.mono HB.out.size)); (try replace HX := Lib.hid (HX.out.below hqq)); (try replace HY := Lib.hid (HY.out.below hqq)); clear hqq
               have HY := HNN
               clear HNN))
          all_goals first
            | (exfalso; omega)
            | (go_ret; exact ⟨by first | rfl | exact retb (by simp) | exact retb (by simp; omega), HB.out⟩)
        · skip
          go_wp2_with (first
            | (go_at_call 17; (with_reducible refine (iPartsGuess_is _ l _ HV.out x _ HG.out _ (Below.refl _ _)).mono ?_); rintro e w' ⟨rfl, hqq⟩; (try replace HV := Lib.hid (HV.out.below hqq)); replace HB := Lib.hid (HB.out.trans (hqq.mono HB.out.size)); (try replace HX := Lib.hid (HX.out.below hqq)); (try replace HY := Lib.hid (HY.out.below hqq)); clear hqq)
            | (go_at_call 18; (with_reducible refine (sGuess_is _ l _ HV.out x _ HG.out _ (Below.refl _ _)).mono ?_); rintro e w' ⟨rfl, hqq⟩; (try replace HV := Lib.hid (HV.out.below hqq)); replace HB := Lib.hid (HB.out.trans (hqq.mono HB.out.size)); (try replace HX := Lib.hid (HX.out.below hqq)); (try replace HY := Lib.hid (HY.out.below hqq)); clear hqq)
            | (go_at_call 19; (with_reducible refine (iPartsTop_is _ l _ HV.out 1 _ HT.out _ (Below.refl _ _)).mono ?_); rintro e w' ⟨rfl, hqq⟩; (try replace HV := Lib.hid (HV.out.below hqq)); replace HB := Lib.hid (HB.out.trans (hqq.mono HB.out.size)); (try replace HX := Lib.hid (HX.out.below hqq)); (try replace HY := Lib.hid (HY.out.below hqq)); clear hqq)
            | (go_at_call 17; (with_reducible refine (iPartsGuess_is _ (l ++ [s, s, s]) _ HX.out x _ HGX.out _ (Below.refl _ _)).mono ?_); rintro e w' ⟨rfl, hqq⟩; (try replace HV := Lib.hid (HV.out.below hqq)); replace HB := Lib.hid (HB.out.trans (hqq.mono HB.out.size)); (try replace HX := Lib.hid (HX.out.below hqq)); (try replace HY := Lib.hid (HY.out.below hqq)); clear hqq)
            | (at_builtin
               refine appI rfl (.tmp 36) (.tmp 37) rfl _ _ [] rfl (own1_new (Nat.le_refl _)) (l) _ rfl (HV.out.below ((Below.refl _ _).alloc (Nat.le_refl _) _)) (by have := HLN.out; simp; omega) (by simp) ?_
               intro v5 w5 ho5 hb5
               have HB5 := Lib.hid (below_app hb5)
               have HO5 := Lib.hid ho5
               clear ho5 hb5)
            | (at_builtin
               refine appI rfl (.tmp 38) (.tmp 42) rfl _ _ _ rfl (HO5.out.alloc _) [s, s, s] _ rfl (lit3 _ _ _ _) (by have := HLN.out; simp; omega) (by have := HB5.out.size; simp; omega) ?_
               intro vx w6 ho6 hb6
               have hqq := below_app2 HB5.out hb6
               have HNN := Lib.hid (show IsI w6 vx ((l) ++ [s, s, s]) from ho6.isI)
               clear ho6 hb6 HO5 HB5
               (try replace HV := Lib.hid (HV.out.below hqq)); replace HB := Lib.hid (HB.out.trans (hqq.mono HB.out.size)); (try replace HX := Lib.hid (HX.out.below hqq)); (try replace HY := Lib.hid (HY.out.below hqq)); clear hqq
               have HX := HNN
               clear HNN
               obtain ⟨Ax, cx, hvx⟩ := HX.out.sl
               rw [show (l ++ [s, s, s]).length = q + 3 by rw [HQ.out]; simp] at hvx
               subst hvx))
          all_goals first
            | (exfalso; omega)
            | (go_ret; exact ⟨by first | rfl | exact retb (by simp) | exact retb (by simp; omega), HB.out⟩)
set_option maxHeartbeats 4000000 in
theorem w_Spare (A : Option Addr) (n c : Nat) (hnc : n ≤ c) (hn : n ≤ maxLen) (w : World) (hb : Bytes w w.heap.size A n) :
    Calls Try.prog 6 #[.slice A n c] w fun e w' => e = .returned (.bool true) ∧ Below w.heap.size w w' := by
  have hn2 := hn
  unfold maxLen at hn2
  rcases (show 1048576 < n ∨ ¬ 1048576 < n by omega) with hbig | hbig
  · go_enter Try.func6, Try.ntmps6
    go_wp2
    go_ret
    exact ⟨rfl, Below.refl _ _⟩
  · go_enter Try.func6, Try.ntmps6
    go_wp2_with fail
    refine (dPartsSpare_any A n c hnc hn _ hb).mono ?_
    rintro e W ⟨v, l, x, rfl, hv, hl, hx, hbW⟩
    obtain ⟨Av, cv, hvv⟩ := hv.sl
    obtain ⟨q, hq⟩ : ∃ q, q = l.length := ⟨_, rfl⟩
    rw [← hq] at hvv
    subst hvv
    obtain ⟨hrow, hql, hqc, hcm⟩ := hv.row
    clear hrow hql
    unfold maxLen at hcm
    have hq21 : q ≤ 21 := by rw [hq]; exact hl.1
    have HV := Lib.hid hv
    have HQ := Lib.hid hq
    have HSB := Lib.hid hl.sum
    have HLN := Lib.hid hl.1
    have HB := Lib.hid hbW
    clear hv hl hbW hq hb
    obtain ⟨g, hg⟩ : ∃ g, spareI l x = g := ⟨_, rfl⟩
    have HG := Lib.hid hg
    rcases (show g < 0 ∨ 0 ≤ g by omega) with hneg | hg0
    · clear hg
      go_wp2_with (first
        | (go_at_call 21; (with_reducible refine (iPartsSpare_is _ l _ HV.out x _ HG.out _ (Below.refl _ _)).mono ?_); rintro e w' ⟨rfl, hqq⟩; (try replace HV := Lib.hid (HV.out.below hqq)); replace HB := Lib.hid (HB.out.trans (hqq.mono HB.out.size)); (try replace HX := Lib.hid (HX.out.below hqq)); (try replace HY := Lib.hid (HY.out.below hqq)); clear hqq)
        | (go_at_call 22; (with_reducible refine (sSpare_is _ l _ HV.out x _ HG.out _ (Below.refl _ _)).mono ?_); rintro e w' ⟨rfl, hqq⟩; (try replace HV := Lib.hid (HV.out.below hqq)); replace HB := Lib.hid (HB.out.trans (hqq.mono HB.out.size)); (try replace HX := Lib.hid (HX.out.below hqq)); (try replace HY := Lib.hid (HY.out.below hqq)); clear hqq))
      all_goals first
        | (exfalso; omega)
        | (go_ret; exact ⟨by first | rfl | exact retb (by simp) | exact retb (by simp; omega), HB.out⟩)
    · obtain ⟨hok, hx0⟩ := spareI_inv (l := l) (n := x) (by rw [hg]; exact hg0)
      have HOK := Lib.hid hok
      have HP := Lib.hid hx0
      have hgb := spare_bound hok hx0
      rw [hg] at hgb
      obtain ⟨hx0, hx1⟩ := in3_parts.1 hx0
      clear hg
      have hq20 : q ≤ 20 := by rw [HQ.out]; exact (pOk_parts.1 hok).1
      obtain ⟨t1, ht1⟩ : ∃ t, topI l 1 = t := ⟨_, rfl⟩
      obtain ⟨z, hz⟩ : ∃ z, nth l 1 = z := ⟨_, rfl⟩
      have h12 := second_is hok
      rw [ht1, hz] at h12
      have hzb := nth_bd hok 1
      rw [hz] at hzb
      have htb := top1_bd hok
      rw [ht1] at htb
      have HT1 := Lib.hid ht1
      have HT2 := Lib.hid (show topI l 2 = t1 + z by omega)
      obtain ⟨gg, hgg⟩ : ∃ gg, guessI l x = gg := ⟨_, rfl⟩
      have HGG := Lib.hid hgg
      have hiff := spare_iff hok HP.out
      rw [HG.out, hgg] at hiff
      have HEN := Lib.hid (fun (h1 : g ≤ z) (h2 : q ≤ 19) => show guessI (l ++ [g]) x = false by
        have := spare_enough hok HP.out (by rw [HG.out, hz]; exact h1) (by rw [← HQ.out]; exact h2)
        rwa [HG.out] at this)
      obtain ⟨gb1, gb2, gb3, gb4, gb5⟩ := hgb
      have HI := Lib.hid hiff
      clear h12 ht1 hz hgg hok hiff gb1 gb4 gb5
      by_cases hbig5 : q = 20 ∨ z < g
      · have hcase : (20 : Int) < (q : Int) + 1 ∨ ¬ (20 : Int) < (q : Int) + 1 ∧ z < g := by omega
        clear hbig5
        have hdd : (g == 0) = !gg := by rw [← HI.out]; rfl
        rcases hcase with hc | ⟨hc, hc2⟩
        all_goals
          cases gg
          all_goals go_wp2_with (first
            | (go_at_call 21; (with_reducible refine (iPartsSpare_is _ l _ HV.out x _ HG.out _ (Below.refl _ _)).mono ?_); rintro e w' ⟨rfl, hqq⟩; (try replace HV := Lib.hid (HV.out.below hqq)); replace HB := Lib.hid (HB.out.trans (hqq.mono HB.out.size)); (try replace HX := Lib.hid (HX.out.below hqq)); (try replace HY := Lib.hid (HY.out.below hqq)); clear hqq)
            | (go_at_call 22; (with_reducible refine (sSpare_is _ l _ HV.out x _ HG.out _ (Below.refl _ _)).mono ?_); rintro e w' ⟨rfl, hqq⟩; (try replace HV := Lib.hid (HV.out.below hqq)); replace HB := Lib.hid (HB.out.trans (hqq.mono HB.out.size)); (try replace HX := Lib.hid (HX.out.below hqq)); (try replace HY := Lib.hid (HY.out.below hqq)); clear hqq)
            | (go_at_call 19; (with_reducible refine (iPartsTop_is _ l _ HV.out 2 _ HT2.out _ (Below.refl _ _)).mono ?_); rintro e w' ⟨rfl, hqq⟩; (try replace HV := Lib.hid (HV.out.below hqq)); replace HB := Lib.hid (HB.out.trans (hqq.mono HB.out.size)); (try replace HX := Lib.hid (HX.out.below hqq)); (try replace HY := Lib.hid (HY.out.below hqq)); clear hqq)
            | (go_at_call 19; (with_reducible refine (iPartsTop_is _ l _ HV.out 1 _ HT1.out _ (Below.refl _ _)).mono ?_); rintro e w' ⟨rfl, hqq⟩; (try replace HV := Lib.hid (HV.out.below hqq)); replace HB := Lib.hid (HB.out.trans (hqq.mono HB.out.size)); (try replace HX := Lib.hid (HX.out.below hqq)); (try replace HY := Lib.hid (HY.out.below hqq)); clear hqq)
            | (go_at_call 17; (with_reducible refine (iPartsGuess_is _ l _ HV.out x _ HGG.out _ (Below.refl _ _)).mono ?_); rintro e w' ⟨rfl, hqq⟩; (try replace HV := Lib.hid (HV.out.below hqq)); replace HB := Lib.hid (HB.out.trans (hqq.mono HB.out.size)); (try replace HX := Lib.hid (HX.out.below hqq)); (try replace HY := Lib.hid (HY.out.below hqq)); clear hqq)
            | (at_builtin
               refine appI rfl (.tmp 33) (.tmp 34) rfl _ _ [] rfl (own1_new (Nat.le_refl _)) (l) _ rfl (HV.out.below ((Below.refl _ _).alloc (Nat.le_refl _) _)) (by have := HLN.out; simp; omega) (by simp) ?_
               intro v5 w5 ho5 hb5
               have HB5 := Lib.hid (below_app hb5)
               have HO5 := Lib.hid ho5
               clear ho5 hb5)
            | (at_builtin
               refine appI rfl (.tmp 35) (.tmp 37) rfl _ _ _ rfl (HO5.out.alloc _) [g] _ rfl (lit1 _ _) (by have := HLN.out; simp; omega) (by have := HB5.out.size; simp; omega) ?_
               intro vx w6 ho6 hb6
               have hqq := below_app2 HB5.out hb6
               have HNN := Lib.hid (show IsI w6 vx ((l) ++ [g]) from ho6.isI)
               clear ho6 hb6 HO5 HB5
               (try replace HV := Lib.hid (HV.out.below hqq)); replace HB := Lib.hid (HB.out.trans (hqq.mono HB.out.size)); (try replace HX := Lib.hid (HX.out.below hqq)); (try replace HY := Lib.hid (HY.out.below hqq)); clear hqq
               have HX := HNN
               clear HNN
               obtain ⟨Ax, cx, hvx⟩ := HX.out.sl
               rw [show (l ++ [g]).length = q + 1 by rw [HQ.out]; simp] at hvx
               subst hvx))
          all_goals first
            | (exfalso; omega)
            | (go_ret; exact ⟨by first | rfl | exact retb (by simp) | exact retb (by simp; omega), HB.out⟩)
      · have hc : ¬ (20 : Int) < (q : Int) + 1 := by omega
        have hc2 : ¬ z < g := by omega
        have HE := Lib.hid (HEN.out (by omega) (by omega))
        have hdd : (g == 0) = !gg := by rw [← HI.out]; rfl
        clear hbig5
        cases gg
        all_goals go_wp2_with (first
          | (go_at_call 21; (with_reducible refine (iPartsSpare_is _ l _ HV.out x _ HG.out _ (Below.refl _ _)).mono ?_); rintro e w' ⟨rfl, hqq⟩; (try replace HV := Lib.hid (HV.out.below hqq)); replace HB := Lib.hid (HB.out.trans (hqq.mono HB.out.size)); (try replace HX := Lib.hid (HX.out.below hqq)); (try replace HY := Lib.hid (HY.out.below hqq)); clear hqq)
          | (go_at_call 22; (with_reducible refine (sSpare_is _ l _ HV.out x _ HG.out _ (Below.refl _ _)).mono ?_); rintro e w' ⟨rfl, hqq⟩; (try replace HV := Lib.hid (HV.out.below hqq)); replace HB := Lib.hid (HB.out.trans (hqq.mono HB.out.size)); (try replace HX := Lib.hid (HX.out.below hqq)); (try replace HY := Lib.hid (HY.out.below hqq)); clear hqq)
          | (go_at_call 19; (with_reducible refine (iPartsTop_is _ l _ HV.out 2 _ HT2.out _ (Below.refl _ _)).mono ?_); rintro e w' ⟨rfl, hqq⟩; (try replace HV := Lib.hid (HV.out.below hqq)); replace HB := Lib.hid (HB.out.trans (hqq.mono HB.out.size)); (try replace HX := Lib.hid (HX.out.below hqq)); (try replace HY := Lib.hid (HY.out.below hqq)); clear hqq)
          | (go_at_call 19; (with_reducible refine (iPartsTop_is _ l _ HV.out 1 _ HT1.out _ (Below.refl _ _)).mono ?_); rintro e w' ⟨rfl, hqq⟩; (try replace HV := Lib.hid (HV.out.below hqq)); replace HB := Lib.hid (HB.out.trans (hqq.mono HB.out.size)); (try replace HX := Lib.hid (HX.out.below hqq)); (try replace HY := Lib.hid (HY.out.below hqq)); clear hqq)
          | (go_at_call 17; (with_reducible refine (iPartsGuess_is _ l _ HV.out x _ HGG.out _ (Below.refl _ _)).mono ?_); rintro e w' ⟨rfl, hqq⟩; (try replace HV := Lib.hid (HV.out.below hqq)); replace HB := Lib.hid (HB.out.trans (hqq.mono HB.out.size)); (try replace HX := Lib.hid (HX.out.below hqq)); (try replace HY := Lib.hid (HY.out.below hqq)); clear hqq)
          | (go_at_call 17; (with_reducible refine (iPartsGuess_is _ (l ++ [g]) _ HX.out x _ HE.out _ (Below.refl _ _)).mono ?_); rintro e w' ⟨rfl, hqq⟩; (try replace HV := Lib.hid (HV.out.below hqq)); replace HB := Lib.hid (HB.out.trans (hqq.mono HB.out.size)); (try replace HX := Lib.hid (HX.out.below hqq)); (try replace HY := Lib.hid (HY.out.below hqq)); clear hqq)
          | (at_builtin
             refine appI rfl (.tmp 33) (.tmp 34) rfl _ _ [] rfl (own1_new (Nat.le_refl _)) (l) _ rfl (HV.out.below ((Below.refl _ _).alloc (Nat.le_refl _) _)) (by have := HLN.out; simp; omega) (by simp) ?_
             intro v5 w5 ho5 hb5
             have HB5 := Lib.hid (below_app hb5)
             have HO5 := Lib.hid ho5
             clear ho5 hb5)
          | (at_builtin
             refine appI rfl (.tmp 35) (.tmp 37) rfl _ _ _ rfl (HO5.out.alloc _) [g] _ rfl (lit1 _ _) (by have := HLN.out; simp; omega) (by have := HB5.out.size; simp; omega) ?_
             intro vx w6 ho6 hb6
             have hqq := below_app2 HB5.out hb6
             have HNN := Lib.hid (show IsI w6 vx ((l) ++ [g]) from ho6.isI)
             clear ho6 hb6 HO5 HB5
             (try replace HV := Lib.hid (HV.out.below hqq)); replace HB := Lib.hid (HB.out.trans (hqq.mono HB.out.size)); (try replace HX := Lib.hid (HX.out.below hqq)); (try replace HY := Lib.hid (HY.out.below hqq)); clear hqq
             have HX := HNN
             clear HNN
             obtain ⟨Ax, cx, hvx⟩ := HX.out.sl
             rw [show (l ++ [g]).length = q + 1 by rw [HQ.out]; simp] at hvx
             subst hvx))
        all_goals first
          | (exfalso; omega)
          | (go_ret; exact ⟨by first | rfl | exact retb (by simp) | exact retb (by simp; omega), HB.out⟩)
set_option maxHeartbeats 2000000 in
theorem w_SpareBound (A : Option Addr) (n c : Nat) (hnc : n ≤ c) (hn : n ≤ maxLen) (w : World) (hb : Bytes w w.heap.size A n) :
    Calls Try.prog 11 #[.slice A n c] w fun e w' => e = .returned (.bool true) ∧ Below w.heap.size w w' := by
  have hn2 := hn
  unfold maxLen at hn2
  rcases (show 1048576 < n ∨ ¬ 1048576 < n by omega) with hbig | hbig
  · go_enter Try.func11, Try.ntmps11
    go_wp2
    go_ret
    exact ⟨rfl, Below.refl _ _⟩
  · go_enter Try.func11, Try.ntmps11
    go_wp2_with fail
    refine (dPartsSpare_any A n c hnc hn _ hb).mono ?_
    rintro e W ⟨v, l, x, rfl, hv, hl, hx, hbW⟩
    obtain ⟨Av, cv, hvv⟩ := hv.sl
    obtain ⟨q, hq⟩ : ∃ q, q = l.length := ⟨_, rfl⟩
    rw [← hq] at hvv
    subst hvv
    obtain ⟨hrow, hql, hqc, hcm⟩ := hv.row
    clear hrow hql
    unfold maxLen at hcm
    have hq21 : q ≤ 21 := by rw [hq]; exact hl.1
    have HV := Lib.hid hv
    have HQ := Lib.hid hq
    have HSB := Lib.hid hl.sum
    have HLN := Lib.hid hl.1
    have HB := Lib.hid hbW
    clear hv hl hbW hq hb
    obtain ⟨g, hg⟩ : ∃ g, spareI l x = g := ⟨_, rfl⟩
    have HG := Lib.hid hg
    rcases (show g < 0 ∨ 0 ≤ g by omega) with hneg | hg0
    · clear hg
      go_wp2_with (first
        | (go_at_call 21; (with_reducible refine (iPartsSpare_is _ l _ HV.out x _ HG.out _ (Below.refl _ _)).mono ?_); rintro e w' ⟨rfl, hqq⟩; (try replace HV := Lib.hid (HV.out.below hqq)); replace HB := Lib.hid (HB.out.trans (hqq.mono HB.out.size)); (try replace HX := Lib.hid (HX.out.below hqq)); (try replace HY := Lib.hid (HY.out.below hqq)); clear hqq)
        | (go_at_call 22; (with_reducible refine (sSpare_is _ l _ HV.out x _ HG.out _ (Below.refl _ _)).mono ?_); rintro e w' ⟨rfl, hqq⟩; (try replace HV := Lib.hid (HV.out.below hqq)); replace HB := Lib.hid (HB.out.trans (hqq.mono HB.out.size)); (try replace HX := Lib.hid (HX.out.below hqq)); (try replace HY := Lib.hid (HY.out.below hqq)); clear hqq))
      all_goals first
        | (exfalso; omega)
        | (go_ret; exact ⟨by first | rfl | exact retb (by simp) | exact retb (by simp; omega), HB.out⟩)
    · obtain ⟨hok, hx0⟩ := spareI_inv (l := l) (n := x) (by rw [hg]; exact hg0)
      have HOK := Lib.hid hok
      have HP := Lib.hid hx0
      have hgb := spare_bound hok hx0
      rw [hg] at hgb
      obtain ⟨hx0, hx1⟩ := in3_parts.1 hx0
      clear hg
      obtain ⟨t1, ht1⟩ : ∃ t, topI l 1 = t := ⟨_, rfl⟩
      rw [ht1] at hgb
      have HT1 := Lib.hid ht1
      obtain ⟨gb1, gb2, gb3, gb4, gb5⟩ := hgb
      have hwm : wrap64 (x * t1) = x * t1 := IntWalk.wrap64_in _ (by omega)
      clear ht1 hok
      go_wp2_with (first
        | (go_at_call 21; (with_reducible refine (iPartsSpare_is _ l _ HV.out x _ HG.out _ (Below.refl _ _)).mono ?_); rintro e w' ⟨rfl, hqq⟩; (try replace HV := Lib.hid (HV.out.below hqq)); replace HB := Lib.hid (HB.out.trans (hqq.mono HB.out.size)); (try replace HX := Lib.hid (HX.out.below hqq)); (try replace HY := Lib.hid (HY.out.below hqq)); clear hqq)
        | (go_at_call 22; (with_reducible refine (sSpare_is _ l _ HV.out x _ HG.out _ (Below.refl _ _)).mono ?_); rintro e w' ⟨rfl, hqq⟩; (try replace HV := Lib.hid (HV.out.below hqq)); replace HB := Lib.hid (HB.out.trans (hqq.mono HB.out.size)); (try replace HX := Lib.hid (HX.out.below hqq)); (try replace HY := Lib.hid (HY.out.below hqq)); clear hqq)
        | (go_at_call 19; (with_reducible refine (iPartsTop_is _ l _ HV.out 1 _ HT1.out _ (Below.refl _ _)).mono ?_); rintro e w' ⟨rfl, hqq⟩; (try replace HV := Lib.hid (HV.out.below hqq)); replace HB := Lib.hid (HB.out.trans (hqq.mono HB.out.size)); (try replace HX := Lib.hid (HX.out.below hqq)); (try replace HY := Lib.hid (HY.out.below hqq)); clear hqq))
      all_goals first
        | (exfalso; omega)
        | (go_ret; exact ⟨by first | rfl | exact retb (by simp) | exact retb (by simp; omega), HB.out⟩)
end Go.Proofs.Ytfaffpfjgipifaa
