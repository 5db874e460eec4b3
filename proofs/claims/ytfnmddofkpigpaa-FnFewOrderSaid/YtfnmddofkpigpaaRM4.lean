/- Contributions: what the model tells of leaders and guesses. -/
import Derived.Test.YtfnmddofkpigpaaRM3
namespace Go.Proofs.Ytfnmddofkpigpaa
open Go.RowKit
theorem in3_no {x a b : Int} (h : ¬ (a ≤ x ∧ x ≤ b)) : in3 x a b = false := by rw [Bool.eq_false_iff]; intro h2; exact h (in3_parts.1 h2)
theorem leadI_ok {l : List Int} {n pc : Int} (h : pOk l = true) (h1 : in3 n 1 20 = true) (h2 : in3 pc 0 100 = true) : leadI l n pc = decide (pc * l.sum < tp l n.toNat * 100) := by
  unfold leadI; rw [h, h1, h2, Bool.true_and, Bool.true_and, Bool.true_and, Bool.eq_iff_iff]
  simp only [decide_eq_true_eq]; exact leadP_eq l n pc
theorem guessI_ok {l : List Int} {pc : Int} (h : pOk l = true) (h2 : in3 pc 0 100 = true) : guessI l pc = decide (100 * (l.sum - tp l 2) < tp l 1 * pc) := by
  unfold guessI; rw [h, h2, Bool.true_and, Bool.true_and, lackI_eq, Bool.eq_iff_iff]
  simp only [decide_eq_true_eq]; omega
theorem spareI_ok {l : List Int} {pc : Int} (h : pOk l = true) (h2 : in3 pc 0 100 = true) : spareI l pc = (max (tp l 1 * pc - 100 * (l.sum - tp l 2)) 0 + 99) / 100 := by
  unfold spareI; rw [if_pos ⟨h, h2⟩, lackI_eq]
theorem spareI_no {l : List Int} {pc : Int} (h : ¬ (pOk l = true ∧ in3 pc 0 100 = true)) : spareI l pc = -1 := by unfold spareI; rw [if_neg h]
theorem sum_bd {l : List Int} (h : pOk l = true) : 0 ≤ l.sum ∧ l.sum ≤ 2000000 := by have := (Bd.ds h).sum; rw [ds_sum] at this; exact this
theorem tp_bd {l : List Int} (h : pOk l = true) (k : Nat) : 0 ≤ tp l k ∧ tp l k ≤ 2000000 := ((Bd.ds h).take k).sum
set_option maxHeartbeats 1000000 in
theorem sLead_is (W : World) (l : List Int) (v : Value) (hv : IsI W v l) (n pc : Int) (g : Bool) (hg : leadI l n pc = g) (w : World) (hb : Below W.heap.size W w) :
    Calls Try.prog 27 #[v, .int .i64 n, .int .i64 pc] w (Back (.bool g) W) := by
  have HV := Lib.hid hv
  have HVw := Lib.hid (hv.below hb)
  have HB := Lib.hid hb
  have HG := Lib.hid hg
  clear hv hb hg
  by_cases hok : pOk l = true
  · have HOK := Lib.hid hok
    cases hn : in3 n 1 20
    · have HN := Lib.hid hn
      have HE := Lib.hid (show g = false by rw [← HG.out]; unfold leadI; rw [hn]; simp)
      clear hok hn
      go_enter Try.func27, Try.ntmps27
      go_wp2_with (first
        | (go_at_call 15; (with_reducible refine (sPV_any l _ _ HVw.out true HOK.out).mono ?_); rintro e w' ⟨rfl, rfl⟩)
        | (go_at_call 30; refine (l6In_any _ _ _ _).mono ?_; rintro e w' ⟨rfl, rfl⟩; rw [HN.out]))
      go_ret
      exact ⟨retb HE.out.symm, HB.out⟩
    · have HN := Lib.hid hn
      cases hp : in3 pc 0 100
      · have HP := Lib.hid hp
        have HE := Lib.hid (show g = false by rw [← HG.out]; unfold leadI; rw [hp]; simp)
        clear hok hn hp
        go_enter Try.func27, Try.ntmps27
        go_wp2_with (first
          | (go_at_call 15; (with_reducible refine (sPV_any l _ _ HVw.out true HOK.out).mono ?_); rintro e w' ⟨rfl, rfl⟩)
          | (go_at_call 30; refine (l6In_any _ _ _ _).mono ?_; rintro e w' ⟨rfl, rfl⟩; first | rw [HN.out] | rw [HP.out]))
        go_ret
        exact ⟨retb HE.out.symm, HB.out⟩
      · have HP := Lib.hid hp
        have HE := Lib.hid (show decide (pc * l.sum < tp l n.toNat * 100) = g by rw [← HG.out]; exact (leadI_ok hok hn hp).symm)
        obtain ⟨n1, n2⟩ := in3_parts.1 hn
        obtain ⟨p0, p1⟩ := in3_parts.1 hp
        have ht := tp_bd hok n.toNat
        have hs := sum_bd hok
        have HT := Lib.hid (topI_ok hok (show 0 ≤ n by omega))
        have HS := Lib.hid (topI_all hok)
        have hm := mul_bd p0 p1 hs.1 hs.2
        obtain ⟨t, ht2⟩ : ∃ t, tp l n.toNat = t := ⟨_, rfl⟩
        obtain ⟨s, hs2⟩ : ∃ s, l.sum = s := ⟨_, rfl⟩
        rw [ht2] at ht HT HE
        rw [hs2] at hs HS hm HE
        have hwm2 : IntKind.i64.wrap (pc * s) = pc * s := IntWalk.i64_in _ (by omega)
        have hwm : wrap64 (pc * s) = pc * s := IntWalk.wrap64_in _ (by omega)
        clear hok hn hp ht2 hs2 hm n1 n2 p0 p1
        go_enter Try.func27, Try.ntmps27
        go_wp2_with (first
          | (go_at_call 15; (with_reducible refine (sPV_any l _ _ HVw.out true HOK.out).mono ?_); rintro e w' ⟨rfl, rfl⟩)
          | (go_at_call 30; refine (l6In_any _ _ _ _).mono ?_; rintro e w' ⟨rfl, rfl⟩; first | rw [HN.out] | rw [HP.out])
          | (go_at_call 18; (with_reducible refine (sTop_is W l _ HV.out n t HT.out _ HB.out).mono ?_); rintro e w1 ⟨rfl, hb1⟩; have HB1 := Lib.hid hb1; clear hb1)
          | (go_at_call 18; (with_reducible refine (sTop_is W l _ HV.out 20 s HS.out _ HB1.out).mono ?_); rintro e w2 ⟨rfl, hb2⟩; have HB2 := Lib.hid hb2; clear hb2))
        go_ret
        exact ⟨retb HE.out, HB2.out⟩
  · have hok' : pOk l = false := by simpa using hok
    have HOK := Lib.hid hok'
    have HE := Lib.hid (show g = false by rw [← HG.out]; unfold leadI; rw [hok']; rfl)
    clear hok hok'
    go_enter Try.func27, Try.ntmps27
    go_wp2_with (first
      | (go_at_call 15; (with_reducible refine (sPV_any l _ _ HVw.out false HOK.out).mono ?_); rintro e w' ⟨rfl, rfl⟩))
    go_ret
    exact ⟨retb HE.out.symm, HB.out⟩
end Go.Proofs.Ytfnmddofkpigpaa
