import Derived.Test.YtbngajmpeepnmaaEI5
import Derived.Test.YtbngajmpeepnmaaL10
import Derived.Test.YtbngajmpeepnmaaM2
namespace Go.Proofs.Ytbngajmpeepnmaa
open Go.RowKit
theorem tot_merge (ll : List (List Int)) (a b : Int) : (lmerge ll a b).length ≤ 1048576 ∧ tot (lmerge ll a b) ≤ 1048576 := by
  by_cases h : mergeOk ll a b = true
  · obtain ⟨h0, _, _, _, _, h3⟩ := mergeOk_in h
    have hl := lad_len3 h0
    have hm : lmerge ll a b = ll ++ [mrow ll a b 4] := by rw [lmerge, if_pos h]
    rw [hm]
    refine ⟨by simp; omega, ?_⟩
    have key : ∀ k, k ≤ ll.length → tot (ll.take k) = 4 * k := by
      intro k
      induction k with
      | zero => intro _; simp [tot]
      | succ k ih =>
        intro hk
        rw [tot_take ll k (by omega), ih (by omega), (stepOk_vals (lad_step h0 k (by omega))).1]; omega
    have h4 : tot ll = 4 * ll.length := by have := key ll.length (Nat.le_refl _); rwa [List.take_length] at this
    have e : tot (ll ++ [mrow ll a b 4]) = tot ll + 4 := by simp [tot, mrow_len]
    rw [e, h4]; omega
  · rw [lmerge, if_neg h]; simp [tot]
theorem both_LadderMerge (ll : List (List Int)) (a : Int) (b : Int) (hl : ll.length ≤ maxLen) : ∃ m t, m.length ≤ 1048576 ∧ tot m ≤ 1048576 ∧
    (∀ n A c w, n = ll.length → LL w w.heap.size A ll → Calls Try.prog 13 #[.slice A n c, .int .i64 a, .int .i64 b] w (Merged m t w)) ∧
    (∀ n A c w, n = ll.length → LL w w.heap.size A ll → Calls Try.prog 14 #[.slice A n c, .int .i64 a, .int .i64 b] w (Merged m t w)) := by
  exact ⟨lmerge ll a b, mergeOk ll a b, (tot_merge ll a b).1, (tot_merge ll a b).2, fun n A c w hn hr => iMerge_any ll A n c hn hl a b w hr, fun n A c w hn hr => sMerge_any ll A n c hn hl a b w hr⟩
set_option maxHeartbeats 4000000 in
theorem w_ExactLadderMerge (ll : List (List Int)) (n : Nat) (hn : n = ll.length) (A : Option Addr) (c : Nat) (a : Int) (b : Int) (hl : ll.length ≤ maxLen) (W : World) (ha : LL W W.heap.size A ll) :
    Calls Try.prog 8 #[.slice A n c, .int .i64 a, .int .i64 b] W fun e w' => e = .returned (.bool true) ∧ Below W.heap.size W w' := by
  have HN := Lib.hid hn; clear hn
  cases hf : fits ll
  · have HZ := Lib.hid (szOf_no hf)
    clear hf
    go_enter Try.func8, Try.ntmps8
    go_wp2_with fail
    refine (szSS_any ll n HN.out A c hl _ ha).mono ?_
    rintro e w' ⟨rfl, rfl⟩
    rw [HZ.out]
    go_wp2
    go_ret
    exact ⟨rfl, Below.refl _ _⟩
  · obtain ⟨z0, z1⟩ := szOf_yes hf
    have hfl : ll.length + tot ll ≤ 1048576 := by simpa [fits] using hf
    obtain ⟨m, t, hm1, hm2, HI, HS⟩ := both_LadderMerge ll a b hl
    obtain ⟨M, hM⟩ : ∃ M, M = m.length := ⟨_, rfl⟩
    rw [← hM] at hm1
    have HM := Lib.hid hM
    have HI := Lib.hid HI; have HS := Lib.hid HS
    obtain ⟨z, hz⟩ : ∃ z, szOf ll = z := ⟨_, rfl⟩
    rw [hz] at z0 z1
    have HZ := Lib.hid hz
    have HF := Lib.hid hf
    have htl : tot ll ≤ 1048576 := by omega
    have hnl : n ≤ 1048576 := by rw [HN.out]; omega
    have hmm : m.length ≤ maxLen := by rw [← hM]; simp only [maxLen]; omega
    obtain ⟨P, hP⟩ : ∃ P, tot ll = P := ⟨_, rfl⟩
    obtain ⟨Q, hQ⟩ : ∃ Q, tot m = Q := ⟨_, rfl⟩
    rw [hP] at htl
    rw [hQ] at hm2
    have HP := Lib.hid hP
    have HQ := Lib.hid hQ
    have ht : (t != t) = false := by simp
    clear hz hf hM hfl hP hQ
    go_enter Try.func8, Try.ntmps8
    go_wp2_with fail
    refine (szSS_any ll n HN.out A c hl _ ha).mono ?_
    rintro e w' ⟨rfl, rfl⟩
    rw [HZ.out]
    go_wp2_with fail
    refine (toIntSS_any ll n HN.out A c HF.out _ ha).mono ?_
    rintro e w1 ⟨g1, rfl, hx1, h1⟩
    go_wp2_with fail
    refine (HS.out n _ _ _ HN.out hx1.ll).mono ?_
    rintro e w2 ⟨vw, rfl, how, h2⟩
    obtain ⟨Aw, cw, hv⟩ := how.sl
    subst hv
    rw [← HM.out] at how ⊢
    have b2 : Below W.heap.size W w2 := bth h1 h2
    have hw2 := Lib.hid how
    have Hz2 : W.heap.size ≤ w1.heap.size := h1.size
    clear h1 h2 hx1 how
    go_wp2_with fail
    refine (toIntSS_any ll n HN.out A c HF.out _ (ha.moved b2)).mono ?_
    rintro e w3 ⟨g3, rfl, hx3, h3⟩
    have b3 := bth b2 h3
    have hz23 := h3.size
    have hw3 := Lib.hid (hw2.out.below h3)
    have hx3h := Lib.hid hx3
    clear hw2 h3
    go_wp2_with fail
    refine (HI.out n _ _ _ HN.out hx3.ll).mono ?_
    rintro e w4 ⟨vg, rfl, hog, h4⟩
    obtain ⟨Ag, cg, hv⟩ := hog.sl
    subst hv
    rw [← HM.out] at hog ⊢
    have b4 := bth b3 h4
    have hz34 := h4.size
    have hw4 := Lib.hid (hw3.out.below h4)
    have hx4 := Lib.hid (hx3h.out.below h4)
    have hg4 := Lib.hid hog
    clear hw3 hx3h hx3 hog h4 HS
    go_wp2_with fail
    refine (eqR_below m Ag Aw M cg cw HM.out hmm _ hg4.out.ll hw4.out.ll).mono ?_
    rintro e w5 ⟨rfl, h5⟩
    have b5 := bth b4 h5
    have hz45 := h5.size
    have hw5 := Lib.hid (hw4.out.below h5)
    have hx5 := Lib.hid (hx4.out.below h5)
    have hg5 := Lib.hid (hg4.out.below h5)
    clear hw4 hx4 hg4 h5
    go_wp2_with fail
    refine (toIntSS_any ll n HN.out A c HF.out _ (ha.moved b5)).mono ?_
    rintro e w6 ⟨g6, rfl, hx6', h6⟩
    have b6 := bth b5 h6
    have hz56 := h6.size
    have hw6 := Lib.hid (hw5.out.below h6)
    have hx6 := Lib.hid (hx5.out.below h6)
    have hg6 := Lib.hid (hg5.out.below h6)
    have hy6 := Lib.hid hx6'
    clear hw5 hx5 hg5 h6 hx6'
    go_wp2_with fail
    refine (eqR_below ll _ _ n n n HN.out hl _ hx6.out.ll hy6.out.ll).mono ?_
    rintro e w7 ⟨rfl, h7⟩
    have b7 := bth b6 h7
    have hz67 := h7.size
    have hw7 := Lib.hid (hw6.out.below h7)
    have hx7 := Lib.hid (hx6.out.below h7)
    have hg7 := Lib.hid (hg6.out.below h7)
    clear hw6 hx6 hg6 h7 hy6
    go_wp2_with fail
    refine (markSS_any ll n HN.out _ _ _ _ _ hx7.out (by rw [HP.out]; exact htl) hnl).mono ?_
    rintro e w8 ⟨rfl, _, k8⟩
    rw [HP.out]
    have b8 := below_within b7 k8 b2.size
    have hw8 := Lib.hid (hw7.out.far k8 (.inl (Nat.le_refl _)))
    have hg8 := Lib.hid (hg7.out.far k8 (.inr (Nat.le_refl _)))
    have hp0 : ¬ ((1 + P : Nat) : Int) < 0 := by omega
    have hp1 : ¬ (1 + (P : Int)) < 0 := by omega
    clear hw7 hx7 hg7 k8
    go_wp2_with fail
    refine (eqR_below m Ag Aw M cg cw HM.out hmm _ hg8.out.ll hw8.out.ll).mono ?_
    rintro e w9 ⟨rfl, h9⟩
    have b9 := bth b8 h9
    have hw9 := Lib.hid (hw8.out.below h9)
    have hg9 := Lib.hid (hg8.out.below h9)
    clear hw8 hg8 h9
    go_wp2_with fail
    refine (markSS_any m M HM.out _ _ _ _ _ hg9.out (by rw [HQ.out]; exact hm2) hm1).mono ?_
    rintro e w10 ⟨rfl, hg10', k10⟩
    rw [HQ.out]
    have b10 := below_within b9 k10 b3.size
    have hw10 := Lib.hid (hw9.out.far k10 (.inl hz23))
    have hg10 := Lib.hid hg10'
    have hq0 : ¬ ((1 + Q : Nat) : Int) < 0 := by omega
    have hq1 : ¬ (1 + (Q : Int)) < 0 := by omega
    clear hw9 hg9 k10 hg10'
    go_wp2_with fail
    refine (heldSS_any m M HM.out _ _ _ hg10.out.ll (by rw [HQ.out]; exact hm2) hm1).mono ?_
    rintro e w' ⟨rfl, rfl⟩
    rw [HQ.out]
    go_wp2_with fail
    refine (toIntSS_any ll n HN.out A c HF.out _ (ha.moved b10)).mono ?_
    rintro e w11 ⟨g11, rfl, hx11, h11⟩
    have b11 := bth b10 h11
    have hw11 := Lib.hid (hw10.out.below h11)
    have hg11 := Lib.hid (hg10.out.below h11)
    clear hw10 hg10 h11
    go_wp2_with fail
    refine (HI.out n _ _ _ HN.out hx11.ll).mono ?_
    rintro e w12 ⟨vh, rfl, hoh, h12⟩
    obtain ⟨Ah, ch, hv⟩ := hoh.sl
    subst hv
    rw [← HM.out] at hoh ⊢
    have b12 := bth b11 h12
    have hw12 := Lib.hid (hw11.out.below h12)
    have hg12 := Lib.hid (hg11.out.below h12)
    have hh12 := Lib.hid hoh
    clear hw11 hg11 h12 hx11 hoh
    go_wp2_with fail
    refine (eqR_below m Ah Aw M ch cw HM.out hmm _ hh12.out.ll hw12.out.ll).mono ?_
    rintro e w13 ⟨rfl, h13⟩
    have b13 := bth b12 h13
    have hg13 := Lib.hid (hg12.out.below h13)
    clear hw12 hg12 hh12 h13
    go_wp2_with fail
    refine (heldSS_any m M HM.out _ _ _ hg13.out.ll (by rw [HQ.out]; exact hm2) hm1).mono ?_
    rintro e w' ⟨rfl, rfl⟩
    rw [HQ.out]
    go_wp2
    go_ret
    exact ⟨by first | rfl | exact retb (by simp), b13⟩
end Go.Proofs.Ytbngajmpeepnmaa
