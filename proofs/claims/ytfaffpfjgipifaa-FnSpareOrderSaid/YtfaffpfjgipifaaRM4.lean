/- Contributions: what the model tells of leaders and guesses. -/
import Derived.Test.YtfaffpfjgipifaaRM3
namespace Go.Proofs.Ytfaffpfjgipifaa
open Go.RowKit
theorem in3_no {x a b : Int} (h : ¬ (a ≤ x ∧ x ≤ b)) : in3 x a b = false := by rw [Bool.eq_false_iff]; intro h2; exact h (in3_parts.1 h2)
theorem leadI_ok {l : List Int} {n pc : Int} (h : pOk l = true) (h1 : in3 n 1 20 = true) (h2 : in3 pc 0 100 = true) : leadI l n pc = decide (pc * l.sum < tp l n.toNat * 100) := by
  unfold leadI; rw [h, h1, h2, Bool.true_and, Bool.true_and, Bool.true_and, Bool.eq_iff_iff]
  simp only [decide_eq_true_eq]; exact leadP_eq l n pc
theorem guessI_ok {l : List Int} {pc : Int} (h : pOk l = true) (h2 : in3 pc 0 100 = true) : guessI l pc = decide (100 * (l.sum - tp l 2) < tp l 1 * pc) := by
  unfold guessI; rw [h, h2, Bool.true_and, Bool.true_and, lackI_eq, Bool.eq_iff_iff]
  simp only [decide_eq_true_eq]; omega
theorem spareI_ok {l : List Int} {pc : Int} (h : pOk l = true) (h2 : in3 pc 0 100 = true) : spareI l pc = (max (tp l 1 * pc - 100 * (l.sum - tp l 2)) 0 + 99) / 100 := by
  unfold spareI; rw [if_pos ⟨h, h2⟩, lackI_eq]
theorem spareI_no {l : List Int} {pc : Int} (h : ¬ (pOk l = true ∧ in3 pc 0 100 = true)) : spareI l pc = -1 := by unfold spareI; rw [if_neg h]
theorem sum_bd {l : List Int} (h : pOk l = true) : 0 ≤ l.sum ∧ l.sum ≤ 2000000 := by have := (Bd.ds h).sum; rw [ds_sum] at this; exact this
theorem tp_bd {l : List Int} (h : pOk l = true) (k : Nat) : 0 ≤ tp l k ∧ tp l k ≤ 2000000 := ((Bd.ds h).take k).sum
set_option maxHeartbeats 1000000 in
theorem sLead_is (W : World) (l : List Int) (v : Value) (hv : IsI W v l) (n pc : Int) (g : Bool) (hg : leadI l n pc = g) (w : World) (hb : Below W.heap.size W w) :
    Calls Try.prog 15 #[v, .int .i64 n, .int .i64 pc] w (Back (.bool g) W) := by
  have HV := Lib.hid hv
  have HVw := Lib.hid (hv.below hb)
  have HB := Lib.hid hb
  have HG := Lib.hid hg
  clear hv hb hg
  by_cases hok : pOk l = true
  · have HOK := Lib.hid hok
    cases hn : in3 n 1 20
    · have HN := Lib.hid hn
      have HE := Lib.hid (show g = false by rw [← HG.out]; unfold leadI; rw [hn]; simp)
      clear hok hn
      go_enter Try.func15, Try.ntmps15
      go_wp2_with (first
        | (go_at_call 29; (with_reducible refine (sPV_any l _ _ HVw.out true HOK.out).mono ?_); rintro e w' ⟨rfl, rfl⟩)
        | (go_at_call 30; refine (l6In_any _ _ _ _).mono ?_; rintro e w' ⟨rfl, rfl⟩; rw [HN.out]))
      go_ret
      exact ⟨retb HE.out.symm, HB.out⟩
    · have HN := Lib.hid hn
      cases hp : in3 pc 0 100
      · have HP := Lib.hid hp
        have HE := Lib.hid (show g = false by rw [← HG.out]; unfold leadI; rw [hp]; simp)
        clear hok hn hp
        go_enter Try.func15, Try.ntmps15
        go_wp2_with (first
          | (go_at_call 29; (with_reducible refine (sPV_any l _ _ HVw.out true HOK.out).mono ?_); rintro e w' ⟨rfl, rfl⟩)
          | (go_at_call 30; refine (l6In_any _ _ _ _).mono ?_; rintro e w' ⟨rfl, rfl⟩; first | rw [HN.out] | rw [HP.out]))
        go_ret
        exact ⟨retb HE.out.symm, HB.out⟩
      · have HP := Lib.hid hp
        have HE := Lib.hid (show decide (pc * l.sum < tp l n.toNat * 100) = g by rw [← HG.out]; exact (leadI_ok hok hn hp).symm)
        obtain ⟨n1, n2⟩ := in3_parts.1 hn
        obtain ⟨p0, p1⟩ := in3_parts.1 hp
        have ht := tp_bd hok n.toNat
        have hs := sum_bd hok
        have HT := Lib.hid (topI_ok hok (show 0 ≤ n by omega))
        have HS := Lib.hid (topI_all hok)
        have hm := mul_bd p0 p1 hs.1 hs.2
        obtain ⟨t, ht2⟩ : ∃ t, tp l n.toNat = t := ⟨_, rfl⟩
        obtain ⟨s, hs2⟩ : ∃ s, l.sum = s := ⟨_, rfl⟩
        rw [ht2] at ht HT HE
        rw [hs2] at hs HS hm HE
        have hwm2 : IntKind.i64.wrap (pc * s) = pc * s := IntWalk.i64_in _ (by omega)
        have hwm : wrap64 (pc * s) = pc * s := IntWalk.wrap64_in _ (by omega)
        clear hok hn hp ht2 hs2 hm n1 n2 p0 p1
        go_enter Try.func15, Try.ntmps15
        go_wp2_with (first
          | (go_at_call 29; (with_reducible refine (sPV_any l _ _ HVw.out true HOK.out).mono ?_); rintro e w' ⟨rfl, rfl⟩)
          | (go_at_call 30; refine (l6In_any _ _ _ _).mono ?_; rintro e w' ⟨rfl, rfl⟩; first | rw [HN.out] | rw [HP.out])
          | (go_at_call 31; (with_reducible refine (sTop_is W l _ HV.out n t HT.out _ HB.out).mono ?_); rintro e w1 ⟨rfl, hb1⟩; have HB1 := Lib.hid hb1; clear hb1)
          | (go_at_call 31; (with_reducible refine (sTop_is W l _ HV.out 20 s HS.out _ HB1.out).mono ?_); rintro e w2 ⟨rfl, hb2⟩; have HB2 := Lib.hid hb2; clear hb2))
        go_ret
        exact ⟨retb HE.out, HB2.out⟩
  · have hok' : pOk l = false := by simpa using hok
    have HOK := Lib.hid hok'
    have HE := Lib.hid (show g = false by rw [← HG.out]; unfold leadI; rw [hok']; rfl)
    clear hok hok'
    go_enter Try.func15, Try.ntmps15
    go_wp2_with (first
      | (go_at_call 29; (with_reducible refine (sPV_any l _ _ HVw.out false HOK.out).mono ?_); rintro e w' ⟨rfl, rfl⟩))
    go_ret
    exact ⟨retb HE.out.symm, HB.out⟩
theorem sRest_is (W : World) (l : List Int) (v : Value) (hv : IsI W v l) (hok : pOk l = true) (g : Int) (hg : l.sum - tp l 2 = g) (w : World) (hb : Below W.heap.size W w) :
    Calls Try.prog 32 #[v] w (Back (.int .i64 g) W) := by
  have HV := Lib.hid hv
  have HB := Lib.hid hb
  have ht := tp_bd hok 2
  have hs := sum_bd hok
  have HT := Lib.hid (show topI l 2 = tp l 2 from topI_nat hok 2)
  have HS := Lib.hid (topI_all hok)
  obtain ⟨t, ht2⟩ : ∃ t, tp l 2 = t := ⟨_, rfl⟩
  obtain ⟨s, hs2⟩ : ∃ s, l.sum = s := ⟨_, rfl⟩
  rw [ht2] at ht HT hg
  rw [hs2] at hs HS hg
  have HG := Lib.hid hg
  clear hv hb hok hg ht2 hs2
  go_enter Try.func32, Try.ntmps32
  go_wp2_with (first
    | (go_at_call 31; (with_reducible refine (sTop_is W l _ HV.out 20 s HS.out _ HB.out).mono ?_); rintro e w1 ⟨rfl, hb1⟩; have HB1 := Lib.hid hb1; clear hb1)
    | (go_at_call 31; (with_reducible refine (sTop_is W l _ HV.out 2 t HT.out _ HB1.out).mono ?_); rintro e w2 ⟨rfl, hb2⟩; have HB2 := Lib.hid hb2; clear hb2))
  go_ret
  exact ⟨reti HG.out, HB2.out⟩
set_option maxHeartbeats 1000000 in
theorem sGuess_is (W : World) (l : List Int) (v : Value) (hv : IsI W v l) (pc : Int) (g : Bool) (hg : guessI l pc = g) (w : World) (hb : Below W.heap.size W w) :
    Calls Try.prog 18 #[v, .int .i64 pc] w (Back (.bool g) W) := by
  have HV := Lib.hid hv
  have HVw := Lib.hid (hv.below hb)
  have HB := Lib.hid hb
  have HG := Lib.hid hg
  clear hv hb hg
  by_cases hok : pOk l = true
  · have HOK := Lib.hid hok
    cases hp : in3 pc 0 100
    · have HP := Lib.hid hp
      have HE := Lib.hid (show g = false by rw [← HG.out]; unfold guessI; rw [hp]; simp)
      clear hok hp
      go_enter Try.func18, Try.ntmps18
      go_wp2_with (first
        | (go_at_call 29; (with_reducible refine (sPV_any l _ _ HVw.out true HOK.out).mono ?_); rintro e w' ⟨rfl, rfl⟩)
        | (go_at_call 30; refine (l6In_any _ _ _ _).mono ?_; rintro e w' ⟨rfl, rfl⟩; rw [HP.out]))
      go_ret
      exact ⟨retb HE.out.symm, HB.out⟩
    · have HP := Lib.hid hp
      have HE := Lib.hid (show decide (100 * (l.sum - tp l 2) < tp l 1 * pc) = g by rw [← HG.out]; exact (guessI_ok hok hp).symm)
      obtain ⟨p0, p1⟩ := in3_parts.1 hp
      have ht := tp_bd hok 1
      have hr : 0 ≤ l.sum - tp l 2 ∧ l.sum - tp l 2 ≤ 2000000 := by rw [← rest_eq]; exact ((Bd.ds hok).drop 2).sum
      have HT := Lib.hid (show topI l 1 = tp l 1 from topI_nat hok 1)
      have hm := mul_bd ht.1 ht.2 p0 p1
      obtain ⟨t, ht2⟩ : ∃ t, tp l 1 = t := ⟨_, rfl⟩
      obtain ⟨r, hr2⟩ : ∃ r, l.sum - tp l 2 = r := ⟨_, rfl⟩
      have HR := Lib.hid hr2
      rw [ht2] at ht HT HE hm
      rw [hr2] at hr HE
      have hwm2 : IntKind.i64.wrap (t * pc) = t * pc := IntWalk.i64_in _ (by omega)
      have hwm : wrap64 (t * pc) = t * pc := IntWalk.wrap64_in _ (by omega)
      clear hok hp ht2 hr2 hm p0 p1
      go_enter Try.func18, Try.ntmps18
      go_wp2_with (first
        | (go_at_call 29; (with_reducible refine (sPV_any l _ _ HVw.out true HOK.out).mono ?_); rintro e w' ⟨rfl, rfl⟩)
        | (go_at_call 30; refine (l6In_any _ _ _ _).mono ?_; rintro e w' ⟨rfl, rfl⟩; rw [HP.out])
        | (go_at_call 31; (with_reducible refine (sTop_is W l _ HV.out 1 t HT.out _ HB.out).mono ?_); rintro e w1 ⟨rfl, hb1⟩; have HB1 := Lib.hid hb1; clear hb1)
        | (go_at_call 32; (with_reducible refine (sRest_is W l _ HV.out HOK.out r HR.out _ HB1.out).mono ?_); rintro e w2 ⟨rfl, hb2⟩; have HB2 := Lib.hid hb2; clear hb2))
      go_ret
      exact ⟨retb HE.out, HB2.out⟩
  · have hok' : pOk l = false := by simpa using hok
    have HOK := Lib.hid hok'
    have HE := Lib.hid (show g = false by rw [← HG.out]; unfold guessI; rw [hok']; rfl)
    clear hok hok'
    go_enter Try.func18, Try.ntmps18
    go_wp2_with (first
      | (go_at_call 29; (with_reducible refine (sPV_any l _ _ HVw.out false HOK.out).mono ?_); rintro e w' ⟨rfl, rfl⟩))
    go_ret
    exact ⟨retb HE.out.symm, HB.out⟩
set_option maxHeartbeats 1000000 in
theorem sSpare_is (W : World) (l : List Int) (v : Value) (hv : IsI W v l) (pc : Int) (g : Int) (hg : spareI l pc = g) (w : World) (hb : Below W.heap.size W w) :
    Calls Try.prog 22 #[v, .int .i64 pc] w (Back (.int .i64 g) W) := by
  have HV := Lib.hid hv
  have HVw := Lib.hid (hv.below hb)
  have HB := Lib.hid hb
  have HG := Lib.hid hg
  clear hv hb hg
  by_cases hok : pOk l = true
  · have HOK := Lib.hid hok
    cases hp : in3 pc 0 100
    · have HP := Lib.hid hp
      have HE := Lib.hid (show g = -1 by rw [← HG.out]; exact spareI_no fun h => by rw [hp] at h; exact absurd h.2 (by simp))
      clear hok hp
      go_enter Try.func22, Try.ntmps22
      go_wp2_with (first
        | (go_at_call 29; (with_reducible refine (sPV_any l _ _ HVw.out true HOK.out).mono ?_); rintro e w' ⟨rfl, rfl⟩)
        | (go_at_call 30; refine (l6In_any _ _ _ _).mono ?_; rintro e w' ⟨rfl, rfl⟩; rw [HP.out]))
      go_ret
      exact ⟨reti HE.out.symm, HB.out⟩
    · have HP := Lib.hid hp
      have HE := Lib.hid ((spareI_ok hok hp).symm.trans HG.out)
      obtain ⟨p0, p1⟩ := in3_parts.1 hp
      have ht := tp_bd hok 1
      have hr : 0 ≤ l.sum - tp l 2 ∧ l.sum - tp l 2 ≤ 2000000 := by rw [← rest_eq]; exact ((Bd.ds hok).drop 2).sum
      have HT := Lib.hid (show topI l 1 = tp l 1 from topI_nat hok 1)
      have hm := mul_bd ht.1 ht.2 p0 p1
      obtain ⟨t, ht2⟩ : ∃ t, tp l 1 = t := ⟨_, rfl⟩
      obtain ⟨r, hr2⟩ : ∃ r, l.sum - tp l 2 = r := ⟨_, rfl⟩
      have HR := Lib.hid hr2
      rw [ht2] at ht HT HE hm
      rw [hr2] at hr HE
      have hwm2 : IntKind.i64.wrap (t * pc) = t * pc := IntWalk.i64_in _ (by omega)
      have hwm : wrap64 (t * pc) = t * pc := IntWalk.wrap64_in _ (by omega)
      have hwd : wrap64 (t * pc - 100 * r) = t * pc - 100 * r := IntWalk.wrap64_in _ (by omega)
      clear hok hp ht2 hr2 p0 p1
      go_enter Try.func22, Try.ntmps22
      go_wp2_with (first
        | (go_at_call 29; (with_reducible refine (sPV_any l _ _ HVw.out true HOK.out).mono ?_); rintro e w' ⟨rfl, rfl⟩)
        | (go_at_call 30; refine (l6In_any _ _ _ _).mono ?_; rintro e w' ⟨rfl, rfl⟩; rw [HP.out])
        | (go_at_call 31; (with_reducible refine (sTop_is W l _ HV.out 1 t HT.out _ HB.out).mono ?_); rintro e w1 ⟨rfl, hb1⟩; have HB1 := Lib.hid hb1; clear hb1)
        | (go_at_call 32; (with_reducible refine (sRest_is W l _ HV.out HOK.out r HR.out _ HB1.out).mono ?_); rintro e w2 ⟨rfl, hb2⟩; have HB2 := Lib.hid hb2; clear hb2))
      all_goals
        go_ret
        exact ⟨reti (by rw [← HE.out]; omega), HB2.out⟩
  · have hok' : pOk l = false := by simpa using hok
    have HOK := Lib.hid hok'
    have HE := Lib.hid (show g = -1 by rw [← HG.out]; exact spareI_no fun h => hok h.1)
    clear hok hok'
    go_enter Try.func22, Try.ntmps22
    go_wp2_with (first
      | (go_at_call 29; (with_reducible refine (sPV_any l _ _ HVw.out false HOK.out).mono ?_); rintro e w' ⟨rfl, rfl⟩))
    go_ret
    exact ⟨reti HE.out.symm, HB.out⟩
end Go.Proofs.Ytfaffpfjgipifaa
