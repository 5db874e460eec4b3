/- Walks of the laws of chapter 12: any order, and twice as much. -/
import Derived.Test.YtfaffpfjgipifaaWPB
import Derived.Test.YtfaffpfjgipifaaPL
namespace Go.Proofs.Ytfaffpfjgipifaa
open Go.RowKit
theorem dbl_take {l : List Int} {k : Nat} (hk : k < l.length) : ((l.take (k + 1)).map fun x => 2 * x) = ((l.take k).map fun x => 2 * x) ++ [2 * l.getD k 0] := by
  rw [List.getD_eq_getElem?_getD, List.getElem?_eq_getElem hk, List.take_succ_eq_append_getElem hk, List.map_append]; rfl
set_option maxHeartbeats 4000000 in
theorem w_LeadTwice (A : Option Addr) (n c : Nat) (hnc : n ≤ c) (hn : n ≤ maxLen) (w : World) (hb : Bytes w w.heap.size A n) :
    Calls Try.prog 8 #[.slice A n c] w fun e w' => e = .returned (.bool true) ∧ Below w.heap.size w w' := by
  have hn2 := hn
  unfold maxLen at hn2
  rcases (show 1048576 < n ∨ ¬ 1048576 < n by omega) with hbig | hbig
  · go_enter Try.func8, Try.ntmps8
    go_wp2
    go_ret
    exact ⟨rfl, Below.refl _ _⟩
  · go_enter Try.func8, Try.ntmps8
    go_wp2_with fail
    refine (dPartsLead_any A n c hnc hn _ hb).mono ?_
    rintro e W ⟨v, l, x, pc, rfl, hv, hl, hx, hpc, hbW⟩
    obtain ⟨Av, cv, hvv⟩ := hv.sl
    obtain ⟨q, hq⟩ : ∃ q, q = l.length := ⟨_, rfl⟩
    rw [← hq] at hvv
    subst hvv
    obtain ⟨hrow, hql, hqc, hcm⟩ := hv.row
    clear hrow hql
    unfold maxLen at hcm
    have hq21 : q ≤ 21 := by rw [hq]; exact hl.1
    have HV := Lib.hid hv
    have HQ := Lib.hid hq
    have HSB := Lib.hid hl.sum
    have HLN := Lib.hid hl.1
    have HB := Lib.hid hbW
    clear hv hl hbW hq hb
    cases hg : leadI l x pc
    · have HG := Lib.hid hg
      clear hg
      go_wp2_with (first
        | (go_at_call 14; (with_reducible refine (iPartsLead_is _ l _ HV.out x pc _ HG.out _ (Below.refl _ _)).mono ?_); rintro e w' ⟨rfl, hqq⟩; (try replace HV := Lib.hid (HV.out.below hqq)); replace HB := Lib.hid (HB.out.trans (hqq.mono HB.out.size)); (try replace HX := Lib.hid (HX.out.below hqq)); (try replace HY := Lib.hid (HY.out.below hqq)); clear hqq)
        | (go_at_call 15; (with_reducible refine (sLead_is _ l _ HV.out x pc _ HG.out _ (Below.refl _ _)).mono ?_); rintro e w' ⟨rfl, hqq⟩; (try replace HV := Lib.hid (HV.out.below hqq)); replace HB := Lib.hid (HB.out.trans (hqq.mono HB.out.size)); (try replace HX := Lib.hid (HX.out.below hqq)); (try replace HY := Lib.hid (HY.out.below hqq)); clear hqq))
      all_goals first
        | (exfalso; omega)
        | (go_ret; exact ⟨by first | rfl | exact retb (by simp) | exact retb (by simp; omega), HB.out⟩)
    · have HG := Lib.hid hg
      have hq20 : q ≤ 20 := by rw [HQ.out]; exact (pOk_parts.1 (leadI_inv hg).1).1
      obtain ⟨py, hpy⟩ : ∃ py, pOk (l.map fun x => 2 * x) = py := ⟨_, rfl⟩
      have HPY := Lib.hid hpy
      have HYF := Lib.hid (fun h : py = true => leadI_dbl hg (hpy.trans h))
      have HS := Lib.hid (fun h : q ≤ 19 => leadI_snoc0 hg (by rw [← HQ.out]; exact h))
      clear hg hpy
      go_wp2_with (first
        | (go_at_call 14; (with_reducible refine (iPartsLead_is _ l _ HV.out x pc _ HG.out _ (Below.refl _ _)).mono ?_); rintro e w' ⟨rfl, hqq⟩; (try replace HV := Lib.hid (HV.out.below hqq)); replace HB := Lib.hid (HB.out.trans (hqq.mono HB.out.size)); (try replace HX := Lib.hid (HX.out.below hqq)); (try replace HY := Lib.hid (HY.out.below hqq)); clear hqq)
        | (go_at_call 15; (with_reducible refine (sLead_is _ l _ HV.out x pc _ HG.out _ (Below.refl _ _)).mono ?_); rintro e w' ⟨rfl, hqq⟩; (try replace HV := Lib.hid (HV.out.below hqq)); replace HB := Lib.hid (HB.out.trans (hqq.mono HB.out.size)); (try replace HX := Lib.hid (HX.out.below hqq)); (try replace HY := Lib.hid (HY.out.below hqq)); clear hqq))
      obtain ⟨we, hwe⟩ : ∃ we, we = w' := ⟨_, rfl⟩
      subst hwe
      have HR5 := Lib.hid HV.out.row.1
      go_loopw [8, 9] (fun y i wr => ∃ k5 : Nat, k5 ≤ q ∧ i = .int .i64 k5 ∧ Own1 TN wr we.heap.size y (icells ((l.take k5).map fun x => 2 * x)) ∧ Below we.heap.size we wr) (fun _ i _ => q - (intOf i).toNat)
      case atStart => exact ⟨0, Nat.zero_le _, rfl, own1_new (Nat.le_refl _), (Below.refl _ _).alloc (Nat.le_refl _) _⟩
      case round =>
        obtain ⟨k5, hk5, rfl, ho5, hb5⟩ := hrel
        have HO5 := Lib.hid ho5
        have HB5 := Lib.hid hb5
        clear ho5 hb5
        by_cases hlt5 : k5 < q
        · have hki5 : (k5 : Int) < (q : Int) := by omega
          have hkl5 : k5 < l.length := by rw [← HQ.out]; exact hlt5
          obtain ⟨b5, o5, rfl, hbw5, c5⟩ := HR5.out.int_ k5 hkl5
          have hyb := HSB.out.2 (l.getD k5 0) (by rw [List.getD_eq_getElem?_getD, List.getElem?_eq_getElem hkl5]; exact List.getElem_mem _)
          have HTK := Lib.hid (dbl_take hkl5)
          obtain ⟨y5, hy5⟩ : ∃ y, l.getD k5 0 = y := ⟨_, rfl⟩
          rw [hy5] at c5 hyb HTK
          have c6 : wr.cell? ⟨b5, o5 + k5, none⟩ = some (.int .i64 y5) := (HB5.out.cell (p := ⟨b5, o5 + k5, none⟩) hbw5).trans c5
          have HL5 := Lib.hid (show ((l.take k5).map fun x => 2 * x).length ≤ 21 by rw [List.length_map, List.length_take]; have := HLN.out; omega)
          clear hkl5 hy5 c5
          go_wp2_with (first
            | (at_builtin
               refine appI rfl (.tmp 44) (.tmp 50) rfl we.heap.size _ _ rfl (HO5.out.alloc _) [2 * y5] _ rfl (lit1 _ _) (by have := HL5.out; simp only [List.length_cons, List.length_nil]; omega) (by have := HB5.out.size; simp; omega) ?_
               intro v6 w6 ho6 hb6
               have HO6 := Lib.hid ho6
               have HB6 := Lib.hid (below_app2 HB5.out hb6)
               clear ho6 hb6))
          go_roundw
          case rel => exact ⟨k5 + 1, by omega, by go_num, by rw [HTK.out]; exact HO6.out, HB6.out⟩
          case measure => simp [intOf]; omega
        · have HTA := Lib.hid (show l.take k5 = l by rw [List.take_of_length_le (by rw [← HQ.out]; omega)])
          have hki5 : ¬ (k5 : Int) < (q : Int) := by omega
          have HY := Lib.hid (show IsI wr _ (l.map fun x => 2 * x) by have h := HO5.out; rw [HTA.out] at h; exact h.isI)
          have hqq := HB5.out
          clear HO5 HB5 HTA
          (try replace HV := Lib.hid (HV.out.below hqq)); replace HB := Lib.hid (HB.out.trans (hqq.mono HB.out.size)); (try replace HX := Lib.hid (HX.out.below hqq)); clear hqq
          by_cases h20 : q = 20
          · have h20' : (q : Int) = 20 := by omega
            clear h20 HS
            cases py
            · skip
              go_wp2_with (first
                | (go_at_call 23; (with_reducible refine (iPV_any (l.map fun x => 2 * x) _ _ HY.out _ HPY.out).mono ?_); rintro e w' ⟨rfl, rfl⟩))
              all_goals first
                | (exfalso; omega)
                | (go_ret; exact ⟨by first | rfl | exact retb (by simp) | exact retb (by simp; omega), HB.out⟩)
            · have HYY := Lib.hid (HYF.out rfl)
              go_wp2_with (first
                | (go_at_call 23; (with_reducible refine (iPV_any (l.map fun x => 2 * x) _ _ HY.out _ HPY.out).mono ?_); rintro e w' ⟨rfl, rfl⟩)
                | (go_at_call 14; (with_reducible refine (iPartsLead_is _ (l.map fun x => 2 * x) _ HY.out x pc _ HYY.out _ (Below.refl _ _)).mono ?_); rintro e w' ⟨rfl, hqq⟩; (try replace HV := Lib.hid (HV.out.below hqq)); replace HB := Lib.hid (HB.out.trans (hqq.mono HB.out.size)); (try replace HX := Lib.hid (HX.out.below hqq)); (try replace HY := Lib.hid (HY.out.below hqq)); clear hqq))
              all_goals first
                | (exfalso; omega)
                | (go_ret; exact ⟨by first | rfl | exact retb (by simp) | exact retb (by simp; omega), HB.out⟩)
          · have h20' : ((q : Int) == 20) = false := by simp; omega
            have HSS := Lib.hid (HS.out (by omega))
            clear h20 HS
            cases py
            · skip
              go_wp2_with (first
                | (go_at_call 23; (with_reducible refine (iPV_any (l.map fun x => 2 * x) _ _ HY.out _ HPY.out).mono ?_); rintro e w' ⟨rfl, rfl⟩)
                | (go_at_call 14; (with_reducible refine (iPartsLead_is _ (l ++ [0]) _ HX.out x pc _ HSS.out _ (Below.refl _ _)).mono ?_); rintro e w' ⟨rfl, hqq⟩; (try replace HV := Lib.hid (HV.out.below hqq)); replace HB := Lib.hid (HB.out.trans (hqq.mono HB.out.size)); (try replace HX := Lib.hid (HX.out.below hqq)); (try replace HY := Lib.hid (HY.out.below hqq)); clear hqq)
                | (at_builtin
                   refine appI rfl (.tmp 66) (.tmp 67) rfl _ _ [] rfl (own1_new (Nat.le_refl _)) (l) _ rfl (HV.out.below ((Below.refl _ _).alloc (Nat.le_refl _) _)) (by have := HLN.out; simp; omega) (by simp) ?_
                   intro v5 w5 ho5 hb5
                   have HB5 := Lib.hid (below_app hb5)
                   have HO5 := Lib.hid ho5
                   clear ho5 hb5)
                | (at_builtin
                   refine appI rfl (.tmp 68) (.tmp 69) rfl _ _ _ rfl (HO5.out.alloc _) [0] _ rfl (lit1 _ _) (by have := HLN.out; simp; omega) (by have := HB5.out.size; simp; omega) ?_
                   intro vx w6 ho6 hb6
                   have hqq := below_app2 HB5.out hb6
                   have HNN := Lib.hid (show IsI w6 vx ((l) ++ [0]) from ho6.isI)
                   clear ho6 hb6 HO5 HB5
                   (try replace HV := Lib.hid (HV.out.below hqq)); replace HB := Lib.hid (HB.out.trans (hqq.mono HB.out.size)); (try replace HX := Lib.hid (HX.out.below hqq)); (try replace HY := Lib.hid (HY.out.below hqq)); clear hqq
                   have HX := HNN
                   clear HNN))
              all_goals first
                | (exfalso; omega)
                | (go_ret; exact ⟨by first | rfl | exact retb (by simp) | exact retb (by simp; omega), HB.out⟩)
            · have HYY := Lib.hid (HYF.out rfl)
              go_wp2_with (first
                | (go_at_call 23; (with_reducible refine (iPV_any (l.map fun x => 2 * x) _ _ HY.out _ HPY.out).mono ?_); rintro e w' ⟨rfl, rfl⟩)
                | (go_at_call 14; (with_reducible refine (iPartsLead_is _ (l.map fun x => 2 * x) _ HY.out x pc _ HYY.out _ (Below.refl _ _)).mono ?_); rintro e w' ⟨rfl, hqq⟩; (try replace HV := Lib.hid (HV.out.below hqq)); replace HB := Lib.hid (HB.out.trans (hqq.mono HB.out.size)); (try replace HX := Lib.hid (HX.out.below hqq)); (try replace HY := Lib.hid (HY.out.below hqq)); clear hqq)
                | (go_at_call 14; (with_reducible refine (iPartsLead_is _ (l ++ [0]) _ HX.out x pc _ HSS.out _ (Below.refl _ _)).mono ?_); rintro e w' ⟨rfl, hqq⟩; (try replace HV := Lib.hid (HV.out.below hqq)); replace HB := Lib.hid (HB.out.trans (hqq.mono HB.out.size)); (try replace HX := Lib.hid (HX.out.below hqq)); (try replace HY := Lib.hid (HY.out.below hqq)); clear hqq)
                | (at_builtin
                   refine appI rfl (.tmp 66) (.tmp 67) rfl _ _ [] rfl (own1_new (Nat.le_refl _)) (l) _ rfl (HV.out.below ((Below.refl _ _).alloc (Nat.le_refl _) _)) (by have := HLN.out; simp; omega) (by simp) ?_
                   intro v5 w5 ho5 hb5
                   have HB5 := Lib.hid (below_app hb5)
                   have HO5 := Lib.hid ho5
                   clear ho5 hb5)
                | (at_builtin
                   refine appI rfl (.tmp 68) (.tmp 69) rfl _ _ _ rfl (HO5.out.alloc _) [0] _ rfl (lit1 _ _) (by have := HLN.out; simp; omega) (by have := HB5.out.size; simp; omega) ?_
                   intro vx w6 ho6 hb6
                   have hqq := below_app2 HB5.out hb6
                   have HNN := Lib.hid (show IsI w6 vx ((l) ++ [0]) from ho6.isI)
                   clear ho6 hb6 HO5 HB5
                   (try replace HV := Lib.hid (HV.out.below hqq)); replace HB := Lib.hid (HB.out.trans (hqq.mono HB.out.size)); (try replace HX := Lib.hid (HX.out.below hqq)); (try replace HY := Lib.hid (HY.out.below hqq)); clear hqq
                   have HX := HNN
                   clear HNN))
              all_goals first
                | (exfalso; omega)
                | (go_ret; exact ⟨by first | rfl | exact retb (by simp) | exact retb (by simp; omega), HB.out⟩)
set_option maxHeartbeats 4000000 in
theorem w_GuessTwice (A : Option Addr) (n c : Nat) (hnc : n ≤ c) (hn : n ≤ maxLen) (A2 : Option Addr) (m c2 : Nat) (_hmc : m ≤ c2) (hm : m ≤ maxLen) (w : World) (hb : Bytes w w.heap.size A n) (_hb2 : Bytes w w.heap.size A2 m) :
    Calls Try.prog 9 #[.slice A n c, .slice A2 m c2] w fun e w' => e = .returned (.bool true) ∧ Below w.heap.size w w' := by
  have hn2 := hn
  have hm2 := hm
  unfold maxLen at hn2 hm2
  rcases (show 1048576 < n ∨ (¬ 1048576 < n ∧ 1048576 < m) ∨ ¬ 1048576 < n ∧ ¬ 1048576 < m by omega) with hbig | ⟨hbig, hbig2⟩ | ⟨hbig, hbig2⟩
  · go_enter Try.func9, Try.ntmps9
    go_wp2
    go_ret
    exact ⟨rfl, Below.refl _ _⟩
  · go_enter Try.func9, Try.ntmps9
    go_wp2
    go_ret
    exact ⟨rfl, Below.refl _ _⟩
  · go_enter Try.func9, Try.ntmps9
    go_wp2_with fail
    refine (dPartsGuess_any A n c hnc hn _ hb).mono ?_
    rintro e W ⟨v, l, x, rfl, hv, hl, hx, hbW⟩
    obtain ⟨Av, cv, hvv⟩ := hv.sl
    obtain ⟨q, hq⟩ : ∃ q, q = l.length := ⟨_, rfl⟩
    rw [← hq] at hvv
    subst hvv
    obtain ⟨hrow, hql, hqc, hcm⟩ := hv.row
    clear hrow hql
    unfold maxLen at hcm
    have hq21 : q ≤ 21 := by rw [hq]; exact hl.1
    have HV := Lib.hid hv
    have HQ := Lib.hid hq
    have HSB := Lib.hid hl.sum
    have HLN := Lib.hid hl.1
    have HB := Lib.hid hbW
    clear hv hl hbW hq hb
    cases hg : guessI l x
    · have HG := Lib.hid hg
      clear hg
      go_wp2_with (first
        | (go_at_call 17; (with_reducible refine (iPartsGuess_is _ l _ HV.out x _ HG.out _ (Below.refl _ _)).mono ?_); rintro e w' ⟨rfl, hqq⟩; (try replace HV := Lib.hid (HV.out.below hqq)); replace HB := Lib.hid (HB.out.trans (hqq.mono HB.out.size)); (try replace HX := Lib.hid (HX.out.below hqq)); (try replace HY := Lib.hid (HY.out.below hqq)); clear hqq)
        | (go_at_call 18; (with_reducible refine (sGuess_is _ l _ HV.out x _ HG.out _ (Below.refl _ _)).mono ?_); rintro e w' ⟨rfl, hqq⟩; (try replace HV := Lib.hid (HV.out.below hqq)); replace HB := Lib.hid (HB.out.trans (hqq.mono HB.out.size)); (try replace HX := Lib.hid (HX.out.below hqq)); (try replace HY := Lib.hid (HY.out.below hqq)); clear hqq))
      all_goals first
        | (exfalso; omega)
        | (go_ret; exact ⟨by first | rfl | exact retb (by simp) | exact retb (by simp; omega), HB.out⟩)
    · have HG := Lib.hid hg
      obtain ⟨k, hk, hkq⟩ := modCut m q
      have HKQ := Lib.hid hkq
      have hkq' : (k : Int) ≤ (q : Int) := by omega
      have hkc' : (k : Int) ≤ (cv : Int) := by omega
      have hkk : k ≤ cv := by omega
      have HXF := Lib.hid ((guessI_perm (rot_perm l k) x).trans hg)
      obtain ⟨py, hpy⟩ : ∃ py, pOk (l.map fun x => 2 * x) = py := ⟨_, rfl⟩
      have HPY := Lib.hid hpy
      have HYF := Lib.hid (fun h : py = true => guessI_dbl hg (hpy.trans h))
      clear hg hpy
      go_wp2_with (first
        | (go_at_call 17; (with_reducible refine (iPartsGuess_is _ l _ HV.out x _ HG.out _ (Below.refl _ _)).mono ?_); rintro e w' ⟨rfl, hqq⟩; (try replace HV := Lib.hid (HV.out.below hqq)); replace HB := Lib.hid (HB.out.trans (hqq.mono HB.out.size)); (try replace HX := Lib.hid (HX.out.below hqq)); (try replace HY := Lib.hid (HY.out.below hqq)); clear hqq)
        | (go_at_call 18; (with_reducible refine (sGuess_is _ l _ HV.out x _ HG.out _ (Below.refl _ _)).mono ?_); rintro e w' ⟨rfl, hqq⟩; (try replace HV := Lib.hid (HV.out.below hqq)); replace HB := Lib.hid (HB.out.trans (hqq.mono HB.out.size)); (try replace HX := Lib.hid (HX.out.below hqq)); (try replace HY := Lib.hid (HY.out.below hqq)); clear hqq))
      obtain ⟨wd, hwd⟩ : ∃ wd, wd = w' := ⟨_, rfl⟩
      subst hwd
      obtain ⟨A2, hsl, hT⟩ := tailI Av q cv k HKQ.out hqc
      have HT5 := Lib.hid (hT wd l HV.out)
      have HF5 := Lib.hid (HV.out.front HKQ.out)
      have bd : Below wd.heap.size wd ((wd.alloc (.cells #[] TN)).drew) := ((Below.refl _ _).alloc (Nat.le_refl _) _).drew
      have o0 : Own1 TN ((wd.alloc (.cells #[] TN)).drew) wd.heap.size (.slice (some ⟨wd.heap.size, 0, none⟩) 0 0) (icells []) := own1_new (Nat.le_refl _)
      clear hT
      go_region_law (first
        | (refine stepI rfl (.tmp 48) (.tmp 51) rfl wd.heap.size (.slice (some ⟨wd.heap.size, 0, none⟩) 0 0) [] rfl o0 (l.drop k) (.slice A2 (q - k) (cv - k)) rfl (HT5.out.below bd) (by have := HLN.out; simp; omega) bd.size ?_
           intro v3 w3 ho3 hb3
           have hb3' : Below wd.heap.size wd w3 := bd.trans hb3)
        | (refine stepI rfl (.tmp 52) (.tmp 55) rfl wd.heap.size v3 ([] ++ l.drop k) (by simp [Act.eval]) ho3 (l.take k) (.slice Av k cv) rfl (HF5.out.below hb3') (by have := HLN.out; simp; omega) hb3'.size ?_
           intro v4 w4 ho4 hb4
           have hqq : Below wd.heap.size wd w4 := hb3'.trans hb4
           clear ho3 hb3))
      have HX := Lib.hid (show IsI w4 v4 (l.drop k ++ l.take k) from (show Own1 TN w4 wd.heap.size v4 (icells (l.drop k ++ l.take k)) from ho4).isI)
      clear ho4 hb4 o0 bd hb3' HT5 HF5
      (try replace HV := Lib.hid (HV.out.below hqq)); replace HB := Lib.hid (HB.out.trans (hqq.mono HB.out.size)); (try replace HY := Lib.hid (HY.out.below hqq)); clear hqq
      clear hsl
      go_wp2
      obtain ⟨we, hwe⟩ : ∃ we, we = w4 := ⟨_, rfl⟩
      subst hwe
      have HR5 := Lib.hid HV.out.row.1
      go_loopw [11, 12] (fun y i wr => ∃ k5 : Nat, k5 ≤ q ∧ i = .int .i64 k5 ∧ Own1 TN wr we.heap.size y (icells ((l.take k5).map fun x => 2 * x)) ∧ Below we.heap.size we wr) (fun _ i _ => q - (intOf i).toNat)
      case atStart => exact ⟨0, Nat.zero_le _, rfl, own1_new (Nat.le_refl _), (Below.refl _ _).alloc (Nat.le_refl _) _⟩
      case round =>
        obtain ⟨k5, hk5, rfl, ho5, hb5⟩ := hrel
        have HO5 := Lib.hid ho5
        have HB5 := Lib.hid hb5
        clear ho5 hb5
        by_cases hlt5 : k5 < q
        · have hki5 : (k5 : Int) < (q : Int) := by omega
          have hkl5 : k5 < l.length := by rw [← HQ.out]; exact hlt5
          obtain ⟨b5, o5, rfl, hbw5, c5⟩ := HR5.out.int_ k5 hkl5
          have hyb := HSB.out.2 (l.getD k5 0) (by rw [List.getD_eq_getElem?_getD, List.getElem?_eq_getElem hkl5]; exact List.getElem_mem _)
          have HTK := Lib.hid (dbl_take hkl5)
          obtain ⟨y5, hy5⟩ : ∃ y, l.getD k5 0 = y := ⟨_, rfl⟩
          rw [hy5] at c5 hyb HTK
          have c6 : wr.cell? ⟨b5, o5 + k5, none⟩ = some (.int .i64 y5) := (HB5.out.cell (p := ⟨b5, o5 + k5, none⟩) hbw5).trans c5
          have HL5 := Lib.hid (show ((l.take k5).map fun x => 2 * x).length ≤ 21 by rw [List.length_map, List.length_take]; have := HLN.out; omega)
          clear hkl5 hy5 c5
          go_wp2_with (first
            | (at_builtin
               refine appI rfl (.tmp 64) (.tmp 70) rfl we.heap.size _ _ rfl (HO5.out.alloc _) [2 * y5] _ rfl (lit1 _ _) (by have := HL5.out; simp only [List.length_cons, List.length_nil]; omega) (by have := HB5.out.size; simp; omega) ?_
               intro v6 w6 ho6 hb6
               have HO6 := Lib.hid ho6
               have HB6 := Lib.hid (below_app2 HB5.out hb6)
               clear ho6 hb6))
          go_roundw
          case rel => exact ⟨k5 + 1, by omega, by go_num, by rw [HTK.out]; exact HO6.out, HB6.out⟩
          case measure => simp [intOf]; omega
        · have HTA := Lib.hid (show l.take k5 = l by rw [List.take_of_length_le (by rw [← HQ.out]; omega)])
          have hki5 : ¬ (k5 : Int) < (q : Int) := by omega
          have HY := Lib.hid (show IsI wr _ (l.map fun x => 2 * x) by have h := HO5.out; rw [HTA.out] at h; exact h.isI)
          have hqq := HB5.out
          clear HO5 HB5 HTA
          (try replace HV := Lib.hid (HV.out.below hqq)); replace HB := Lib.hid (HB.out.trans (hqq.mono HB.out.size)); (try replace HX := Lib.hid (HX.out.below hqq)); clear hqq
          cases py
          · skip
            go_wp2_with (first
              | (go_at_call 17; (with_reducible refine (iPartsGuess_is _ (l.drop k ++ l.take k) _ HX.out x _ HXF.out _ (Below.refl _ _)).mono ?_); rintro e w' ⟨rfl, hqq⟩; (try replace HV := Lib.hid (HV.out.below hqq)); replace HB := Lib.hid (HB.out.trans (hqq.mono HB.out.size)); (try replace HX := Lib.hid (HX.out.below hqq)); (try replace HY := Lib.hid (HY.out.below hqq)); clear hqq)
              | (go_at_call 23; (with_reducible refine (iPV_any (l.map fun x => 2 * x) _ _ HY.out _ HPY.out).mono ?_); rintro e w' ⟨rfl, rfl⟩))
            all_goals first
              | (exfalso; omega)
              | (go_ret; exact ⟨by first | rfl | exact retb (by simp) | exact retb (by simp; omega), HB.out⟩)
          · have HYY := Lib.hid (HYF.out rfl)
            go_wp2_with (first
              | (go_at_call 17; (with_reducible refine (iPartsGuess_is _ (l.drop k ++ l.take k) _ HX.out x _ HXF.out _ (Below.refl _ _)).mono ?_); rintro e w' ⟨rfl, hqq⟩; (try replace HV := Lib.hid (HV.out.below hqq)); replace HB := Lib.hid (HB.out.trans (hqq.mono HB.out.size)); (try replace HX := Lib.hid (HX.out.below hqq)); (try replace HY := Lib.hid (HY.out.below hqq)); clear hqq)
              | (go_at_call 23; (with_reducible refine (iPV_any (l.map fun x => 2 * x) _ _ HY.out _ HPY.out).mono ?_); rintro e w' ⟨rfl, rfl⟩)
              | (go_at_call 17; (with_reducible refine (iPartsGuess_is _ (l.map fun x => 2 * x) _ HY.out x _ HYY.out _ (Below.refl _ _)).mono ?_); rintro e w' ⟨rfl, hqq⟩; (try replace HV := Lib.hid (HV.out.below hqq)); replace HB := Lib.hid (HB.out.trans (hqq.mono HB.out.size)); (try replace HX := Lib.hid (HX.out.below hqq)); (try replace HY := Lib.hid (HY.out.below hqq)); clear hqq))
            all_goals first
              | (exfalso; omega)
              | (go_ret; exact ⟨by first | rfl | exact retb (by simp) | exact retb (by simp; omega), HB.out⟩)
set_option maxHeartbeats 4000000 in
theorem w_SpareOrder (A : Option Addr) (n c : Nat) (hnc : n ≤ c) (hn : n ≤ maxLen) (A2 : Option Addr) (m c2 : Nat) (_hmc : m ≤ c2) (hm : m ≤ maxLen) (w : World) (hb : Bytes w w.heap.size A n) (_hb2 : Bytes w w.heap.size A2 m) :
    Calls Try.prog 10 #[.slice A n c, .slice A2 m c2] w fun e w' => e = .returned (.bool true) ∧ Below w.heap.size w w' := by
  have hn2 := hn
  have hm2 := hm
  unfold maxLen at hn2 hm2
  rcases (show 1048576 < n ∨ (¬ 1048576 < n ∧ 1048576 < m) ∨ ¬ 1048576 < n ∧ ¬ 1048576 < m by omega) with hbig | ⟨hbig, hbig2⟩ | ⟨hbig, hbig2⟩
  · go_enter Try.func10, Try.ntmps10
    go_wp2
    go_ret
    exact ⟨rfl, Below.refl _ _⟩
  · go_enter Try.func10, Try.ntmps10
    go_wp2
    go_ret
    exact ⟨rfl, Below.refl _ _⟩
  · go_enter Try.func10, Try.ntmps10
    go_wp2_with fail
    refine (dPartsSpare_any A n c hnc hn _ hb).mono ?_
    rintro e W ⟨v, l, x, rfl, hv, hl, hx, hbW⟩
    obtain ⟨Av, cv, hvv⟩ := hv.sl
    obtain ⟨q, hq⟩ : ∃ q, q = l.length := ⟨_, rfl⟩
    rw [← hq] at hvv
    subst hvv
    obtain ⟨hrow, hql, hqc, hcm⟩ := hv.row
    clear hrow hql
    unfold maxLen at hcm
    have hq21 : q ≤ 21 := by rw [hq]; exact hl.1
    have HV := Lib.hid hv
    have HQ := Lib.hid hq
    have HSB := Lib.hid hl.sum
    have HLN := Lib.hid hl.1
    have HB := Lib.hid hbW
    clear hv hl hbW hq hb
    obtain ⟨g, hg⟩ : ∃ g, spareI l x = g := ⟨_, rfl⟩
    have HG := Lib.hid hg
    rcases (show g < 0 ∨ 0 ≤ g by omega) with hneg | hg0
    · clear hg
      go_wp2_with (first
        | (go_at_call 21; (with_reducible refine (iPartsSpare_is _ l _ HV.out x _ HG.out _ (Below.refl _ _)).mono ?_); rintro e w' ⟨rfl, hqq⟩; (try replace HV := Lib.hid (HV.out.below hqq)); replace HB := Lib.hid (HB.out.trans (hqq.mono HB.out.size)); (try replace HX := Lib.hid (HX.out.below hqq)); (try replace HY := Lib.hid (HY.out.below hqq)); clear hqq)
        | (go_at_call 22; (with_reducible refine (sSpare_is _ l _ HV.out x _ HG.out _ (Below.refl _ _)).mono ?_); rintro e w' ⟨rfl, hqq⟩; (try replace HV := Lib.hid (HV.out.below hqq)); replace HB := Lib.hid (HB.out.trans (hqq.mono HB.out.size)); (try replace HX := Lib.hid (HX.out.below hqq)); (try replace HY := Lib.hid (HY.out.below hqq)); clear hqq))
      all_goals first
        | (exfalso; omega)
        | (go_ret; exact ⟨by first | rfl | exact retb (by simp) | exact retb (by simp; omega), HB.out⟩)
    · obtain ⟨hok, hx0⟩ := spareI_inv (l := l) (n := x) (by rw [hg]; exact hg0)
      have HOK := Lib.hid hok
      have HP := Lib.hid hx0
      have hgb := spare_bound hok hx0
      rw [hg] at hgb
      obtain ⟨hx0, hx1⟩ := in3_parts.1 hx0
      clear hg
      obtain ⟨k, hk, hkq⟩ := modCut m q
      have HKQ := Lib.hid hkq
      have hkq' : (k : Int) ≤ (q : Int) := by omega
      have hkc' : (k : Int) ≤ (cv : Int) := by omega
      have hkk : k ≤ cv := by omega
      have hq20 : q ≤ 20 := by rw [HQ.out]; exact (pOk_parts.1 hok).1
      have HXF := Lib.hid ((spareI_perm (rot_perm l k) x).trans HG.out)
      have HS := Lib.hid (fun h : q ≤ 19 => (spareI_snoc0 hok HP.out (by rw [← HQ.out]; exact h)).trans HG.out)
      have hnx := spare_next hok HP.out
      obtain ⟨nx, hnx2⟩ : ∃ nx, spareI l (x + 1) = nx := ⟨_, rfl⟩
      rw [HG.out, hnx2] at hnx
      have HNX := Lib.hid hnx2
      obtain ⟨gb1, gb2, gb3, gb4, gb5⟩ := hgb
      clear hok hnx2 gb1 gb4 gb5
      go_wp2_with (first
        | (go_at_call 21; (with_reducible refine (iPartsSpare_is _ l _ HV.out x _ HG.out _ (Below.refl _ _)).mono ?_); rintro e w' ⟨rfl, hqq⟩; (try replace HV := Lib.hid (HV.out.below hqq)); replace HB := Lib.hid (HB.out.trans (hqq.mono HB.out.size)); (try replace HX := Lib.hid (HX.out.below hqq)); (try replace HY := Lib.hid (HY.out.below hqq)); clear hqq)
        | (go_at_call 22; (with_reducible refine (sSpare_is _ l _ HV.out x _ HG.out _ (Below.refl _ _)).mono ?_); rintro e w' ⟨rfl, hqq⟩; (try replace HV := Lib.hid (HV.out.below hqq)); replace HB := Lib.hid (HB.out.trans (hqq.mono HB.out.size)); (try replace HX := Lib.hid (HX.out.below hqq)); (try replace HY := Lib.hid (HY.out.below hqq)); clear hqq))
      obtain ⟨wd, hwd⟩ : ∃ wd, wd = w' := ⟨_, rfl⟩
      subst hwd
      obtain ⟨A2, hsl, hT⟩ := tailI Av q cv k HKQ.out hqc
      have HT5 := Lib.hid (hT wd l HV.out)
      have HF5 := Lib.hid (HV.out.front HKQ.out)
      have bd : Below wd.heap.size wd ((wd.alloc (.cells #[] TN)).drew) := ((Below.refl _ _).alloc (Nat.le_refl _) _).drew
      have o0 : Own1 TN ((wd.alloc (.cells #[] TN)).drew) wd.heap.size (.slice (some ⟨wd.heap.size, 0, none⟩) 0 0) (icells []) := own1_new (Nat.le_refl _)
      clear hT
      go_region_law (first
        | (refine stepI rfl (.tmp 47) (.tmp 50) rfl wd.heap.size (.slice (some ⟨wd.heap.size, 0, none⟩) 0 0) [] rfl o0 (l.drop k) (.slice A2 (q - k) (cv - k)) rfl (HT5.out.below bd) (by have := HLN.out; simp; omega) bd.size ?_
           intro v3 w3 ho3 hb3
           have hb3' : Below wd.heap.size wd w3 := bd.trans hb3)
        | (refine stepI rfl (.tmp 51) (.tmp 54) rfl wd.heap.size v3 ([] ++ l.drop k) (by simp [Act.eval]) ho3 (l.take k) (.slice Av k cv) rfl (HF5.out.below hb3') (by have := HLN.out; simp; omega) hb3'.size ?_
           intro v4 w4 ho4 hb4
           have hqq : Below wd.heap.size wd w4 := hb3'.trans hb4
           clear ho3 hb3))
      have HX := Lib.hid (show IsI w4 v4 (l.drop k ++ l.take k) from (show Own1 TN w4 wd.heap.size v4 (icells (l.drop k ++ l.take k)) from ho4).isI)
      clear ho4 hb4 o0 bd hb3' HT5 HF5
      (try replace HV := Lib.hid (HV.out.below hqq)); replace HB := Lib.hid (HB.out.trans (hqq.mono HB.out.size)); (try replace HY := Lib.hid (HY.out.below hqq)); clear hqq
      clear hsl
      by_cases h20 : q = 20
      · have h20' : (q : Int) = 20 := by omega
        clear h20 HS
        rcases hnx with hnx | ⟨rfl, rfl⟩
        · skip
          go_wp2_with (first
            | (go_at_call 21; (with_reducible refine (iPartsSpare_is _ l _ HV.out (x + 1) _ HNX.out _ (Below.refl _ _)).mono ?_); rintro e w' ⟨rfl, hqq⟩; (try replace HV := Lib.hid (HV.out.below hqq)); replace HB := Lib.hid (HB.out.trans (hqq.mono HB.out.size)); (try replace HX := Lib.hid (HX.out.below hqq)); (try replace HY := Lib.hid (HY.out.below hqq)); clear hqq)
            | (go_at_call 21; (with_reducible refine (iPartsSpare_is _ (l.drop k ++ l.take k) _ HX.out x _ HXF.out _ (Below.refl _ _)).mono ?_); rintro e w' ⟨rfl, hqq⟩; (try replace HV := Lib.hid (HV.out.below hqq)); replace HB := Lib.hid (HB.out.trans (hqq.mono HB.out.size)); (try replace HX := Lib.hid (HX.out.below hqq)); (try replace HY := Lib.hid (HY.out.below hqq)); clear hqq))
          all_goals first
            | (exfalso; omega)
            | (go_ret; exact ⟨by first | rfl | exact retb (by simp) | exact retb (by simp; omega), HB.out⟩)
        · have HN2 := Lib.hid (show spareI l 101 = -1 from HNX.out)
          go_wp2_with (first
            | (go_at_call 21; (with_reducible refine (iPartsSpare_is _ l _ HV.out 101 _ HN2.out _ (Below.refl _ _)).mono ?_); rintro e w' ⟨rfl, hqq⟩; (try replace HV := Lib.hid (HV.out.below hqq)); replace HB := Lib.hid (HB.out.trans (hqq.mono HB.out.size)); (try replace HX := Lib.hid (HX.out.below hqq)); (try replace HY := Lib.hid (HY.out.below hqq)); clear hqq)
            | (go_at_call 21; (with_reducible refine (iPartsSpare_is _ (l.drop k ++ l.take k) _ HX.out 100 _ HXF.out _ (Below.refl _ _)).mono ?_); rintro e w' ⟨rfl, hqq⟩; (try replace HV := Lib.hid (HV.out.below hqq)); replace HB := Lib.hid (HB.out.trans (hqq.mono HB.out.size)); (try replace HX := Lib.hid (HX.out.below hqq)); (try replace HY := Lib.hid (HY.out.below hqq)); clear hqq))
          all_goals first
            | (exfalso; omega)
            | (go_ret; exact ⟨by first | rfl | exact retb (by simp) | exact retb (by simp; omega), HB.out⟩)
      · have h20' : ((q : Int) == 20) = false := by simp; omega
        have HSS := Lib.hid (HS.out (by omega))
        clear h20 HS
        rcases hnx with hnx | ⟨rfl, rfl⟩
        · skip
          go_wp2_with (first
            | (go_at_call 21; (with_reducible refine (iPartsSpare_is _ l _ HV.out (x + 1) _ HNX.out _ (Below.refl _ _)).mono ?_); rintro e w' ⟨rfl, hqq⟩; (try replace HV := Lib.hid (HV.out.below hqq)); replace HB := Lib.hid (HB.out.trans (hqq.mono HB.out.size)); (try replace HX := Lib.hid (HX.out.below hqq)); (try replace HY := Lib.hid (HY.out.below hqq)); clear hqq)
            | (go_at_call 21; (with_reducible refine (iPartsSpare_is _ (l.drop k ++ l.take k) _ HX.out x _ HXF.out _ (Below.refl _ _)).mono ?_); rintro e w' ⟨rfl, hqq⟩; (try replace HV := Lib.hid (HV.out.below hqq)); replace HB := Lib.hid (HB.out.trans (hqq.mono HB.out.size)); (try replace HX := Lib.hid (HX.out.below hqq)); (try replace HY := Lib.hid (HY.out.below hqq)); clear hqq)
            | (go_at_call 21; (with_reducible refine (iPartsSpare_is _ (l ++ [0]) _ HY.out x _ HSS.out _ (Below.refl _ _)).mono ?_); rintro e w' ⟨rfl, hqq⟩; (try replace HV := Lib.hid (HV.out.below hqq)); replace HB := Lib.hid (HB.out.trans (hqq.mono HB.out.size)); (try replace HX := Lib.hid (HX.out.below hqq)); (try replace HY := Lib.hid (HY.out.below hqq)); clear hqq)
            | (at_builtin
               refine appI rfl (.tmp 70) (.tmp 71) rfl _ _ [] rfl (own1_new (Nat.le_refl _)) (l) _ rfl (HV.out.below ((Below.refl _ _).alloc (Nat.le_refl _) _)) (by have := HLN.out; simp; omega) (by simp) ?_
               intro v5 w5 ho5 hb5
               have HB5 := Lib.hid (below_app hb5)
               have HO5 := Lib.hid ho5
               clear ho5 hb5)
            | (at_builtin
               refine appI rfl (.tmp 72) (.tmp 73) rfl _ _ _ rfl (HO5.out.alloc _) [0] _ rfl (lit1 _ _) (by have := HLN.out; simp; omega) (by have := HB5.out.size; simp; omega) ?_
               intro vy w6 ho6 hb6
               have hqq := below_app2 HB5.out hb6
               have HNN := Lib.hid (show IsI w6 vy ((l) ++ [0]) from ho6.isI)
               clear ho6 hb6 HO5 HB5
               (try replace HV := Lib.hid (HV.out.below hqq)); replace HB := Lib.hid (HB.out.trans (hqq.mono HB.out.size)); (try replace HX := Lib.hid (HX.out.below hqq)); (try replace HY := Lib.hid (HY.out.below hqq)); clear hqq
               have HY := HNN
               clear HNN))
          all_goals first
            | (exfalso; omega)
            | (go_ret; exact ⟨by first | rfl | exact retb (by simp) | exact retb (by simp; omega), HB.out⟩)
        · have HN2 := Lib.hid (show spareI l 101 = -1 from HNX.out)
          go_wp2_with (first
            | (go_at_call 21; (with_reducible refine (iPartsSpare_is _ l _ HV.out 101 _ HN2.out _ (Below.refl _ _)).mono ?_); rintro e w' ⟨rfl, hqq⟩; (try replace HV := Lib.hid (HV.out.below hqq)); replace HB := Lib.hid (HB.out.trans (hqq.mono HB.out.size)); (try replace HX := Lib.hid (HX.out.below hqq)); (try replace HY := Lib.hid (HY.out.below hqq)); clear hqq)
            | (go_at_call 21; (with_reducible refine (iPartsSpare_is _ (l.drop k ++ l.take k) _ HX.out 100 _ HXF.out _ (Below.refl _ _)).mono ?_); rintro e w' ⟨rfl, hqq⟩; (try replace HV := Lib.hid (HV.out.below hqq)); replace HB := Lib.hid (HB.out.trans (hqq.mono HB.out.size)); (try replace HX := Lib.hid (HX.out.below hqq)); (try replace HY := Lib.hid (HY.out.below hqq)); clear hqq)
            | (go_at_call 21; (with_reducible refine (iPartsSpare_is _ (l ++ [0]) _ HY.out 100 _ HSS.out _ (Below.refl _ _)).mono ?_); rintro e w' ⟨rfl, hqq⟩; (try replace HV := Lib.hid (HV.out.below hqq)); replace HB := Lib.hid (HB.out.trans (hqq.mono HB.out.size)); (try replace HX := Lib.hid (HX.out.below hqq)); (try replace HY := Lib.hid (HY.out.below hqq)); clear hqq)
            | (at_builtin
               refine appI rfl (.tmp 70) (.tmp 71) rfl _ _ [] rfl (own1_new (Nat.le_refl _)) (l) _ rfl (HV.out.below ((Below.refl _ _).alloc (Nat.le_refl _) _)) (by have := HLN.out; simp; omega) (by simp) ?_
               intro v5 w5 ho5 hb5
               have HB5 := Lib.hid (below_app hb5)
               have HO5 := Lib.hid ho5
               clear ho5 hb5)
            | (at_builtin
               refine appI rfl (.tmp 72) (.tmp 73) rfl _ _ _ rfl (HO5.out.alloc _) [0] _ rfl (lit1 _ _) (by have := HLN.out; simp; omega) (by have := HB5.out.size; simp; omega) ?_
               intro vy w6 ho6 hb6
               have hqq := below_app2 HB5.out hb6
               have HNN := Lib.hid (show IsI w6 vy ((l) ++ [0]) from ho6.isI)
               clear ho6 hb6 HO5 HB5
               (try replace HV := Lib.hid (HV.out.below hqq)); replace HB := Lib.hid (HB.out.trans (hqq.mono HB.out.size)); (try replace HX := Lib.hid (HX.out.below hqq)); (try replace HY := Lib.hid (HY.out.below hqq)); clear hqq
               have HY := HNN
               clear HNN))
          all_goals first
            | (exfalso; omega)
            | (go_ret; exact ⟨by first | rfl | exact retb (by simp) | exact retb (by simp; omega), HB.out⟩)
end Go.Proofs.Ytfaffpfjgipifaa
