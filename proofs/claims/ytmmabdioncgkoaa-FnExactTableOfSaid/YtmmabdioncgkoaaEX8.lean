/- Exact laws of chapter 11: tables. -/
import Derived.Test.YtmmabdioncgkoaaTI
import Derived.Test.YtmmabdioncgkoaaXP
import Derived.Test.YtmmabdioncgkoaaXR
import Derived.Test.YtmmabdioncgkoaaXC
import Derived.Deep.RegionHeld3
namespace Go.Proofs.Ytmmabdioncgkoaa
open Go.RowKit
set_option maxHeartbeats 2000000 in
theorem w_ExactTableValid (t : List (List Int)) (tv : Value) (W : World) (ht : IsR W tv t) :
    Calls Try.prog 3 #[tv] W fun e w' => e = .returned (.bool true) ∧ Below W.heap.size W w' := by
  obtain ⟨W1, hW⟩ : ∃ W1, W1 = W := ⟨_, rfl⟩
  have hb1 : Below W.heap.size W W1 := by rw [hW]; exact (Below.refl _ _)
  have Ht := Lib.hid (ht.below hb1)
  clear ht
  have HB := Lib.hid hb1
  have b0 := Below.refl W1.heap.size W1
  clear hb1
  go_enter Try.func3, Try.ntmps3
  go_wp2_with fail
  subst hW
  refine (szR_is t tv 1048576 (by omega) (by omega) _ Ht.out).mono ?_
  rintro e w' ⟨rfl, rfl⟩
  rcases szL_cases (t.length + tot t) (left := 1048576) (by omega) (by omega) with hz | ⟨l1, m1, hn⟩
  · rw [hz]; go_wp2; go_ret; exact ⟨rfl, HB.out⟩
  obtain ⟨s1, hs⟩ : ∃ z, szL (t.length + tot t) 1048576 = z := ⟨_, rfl⟩
  rw [hs] at l1 m1 ⊢
  have HNt := Lib.hid hn; clear hn hs
  go_wp2_with fail
  refine (toR_is t tv HNt.out _ (Ht.out.below b0)).mono ?_
  rintro e w1 ⟨x1, rfl, hx1, h1⟩
  have b1 : Below W1.heap.size W1 w1 := Below.trans b0 (h1.mono b0.size)
  have y1 : W1.heap.size ≤ w1.heap.size := h1.size
  have z1 : W1.heap.size ≤ w1.heap.size := b1.size
  have Xt_1 := Lib.hid hx1
  clear hx1
  clear h1
  go_wp2_with fail
  refine (sTab_is w1 t x1 (Xt_1.out.is) _ rfl _ (Below.refl _ _)).mono ?_
  rintro e w2 ⟨rfl, h2⟩
  have b2 : Below W1.heap.size W1 w2 := Below.trans b1 (h2.mono b1.size)
  have y2 : w1.heap.size ≤ w2.heap.size := h2.size
  have z2 : W1.heap.size ≤ w2.heap.size := b2.size
  have Xt_2 := Lib.hid (Xt_1.out.below h2)
  clear Xt_1
  clear h2
  clear Xt_2
  go_wp2_with fail
  refine (toR_is t tv HNt.out _ (Ht.out.below b2)).mono ?_
  rintro e w3 ⟨x3, rfl, hx3, h3⟩
  have b3 : Below W1.heap.size W1 w3 := Below.trans b2 (h3.mono b2.size)
  have y3 : w2.heap.size ≤ w3.heap.size := h3.size
  have z3 : W1.heap.size ≤ w3.heap.size := b3.size
  have Xt_3 := Lib.hid hx3
  clear hx3
  clear h3
  go_wp2_with fail
  refine (iTab_is w3 t x3 (Xt_3.out.is) _ rfl _ (Below.refl _ _)).mono ?_
  rintro e w4 ⟨rfl, h4⟩
  have b4 : Below W1.heap.size W1 w4 := Below.trans b3 (h4.mono b3.size)
  have y4 : w3.heap.size ≤ w4.heap.size := h4.size
  have z4 : W1.heap.size ≤ w4.heap.size := b4.size
  have Xt_4 := Lib.hid (Xt_3.out.below h4)
  clear Xt_3
  clear h4
  go_wp2_with fail
  refine (toR_is t tv HNt.out _ (Ht.out.below b4)).mono ?_
  rintro e w5 ⟨x5, rfl, hx5, h5⟩
  have b5 : Below W1.heap.size W1 w5 := Below.trans b4 (h5.mono b4.size)
  have y5 : w4.heap.size ≤ w5.heap.size := h5.size
  have z5 : W1.heap.size ≤ w5.heap.size := b5.size
  have Xt_5 := Lib.hid (Xt_4.out.below h5)
  clear Xt_4
  have Y5 := Lib.hid hx5
  clear hx5
  clear h5
  go_wp2_with fail
  refine (eqR_arg t x3 x5 HNt.out _ Xt_5.out.is Y5.out.is).mono ?_
  rintro e w6 ⟨rfl, h6⟩
  have b6 : Below W1.heap.size W1 w6 := Below.trans b5 (h6.mono b5.size)
  have y6 : w5.heap.size ≤ w6.heap.size := h6.size
  have z6 : W1.heap.size ≤ w6.heap.size := b6.size
  have Xt_6 := Lib.hid (Xt_5.out.below h6)
  clear Xt_5
  clear h6
  clear Y5
  go_wp2
  go_ret
  exact ⟨by first | rfl | exact retb (by simp), HB.out.trans (b6.mono HB.out.size)⟩
set_option maxHeartbeats 2000000 in
theorem w_ExactTableTotal (t : List (List Int)) (tv : Value) (W : World) (ht : IsR W tv t) :
    Calls Try.prog 6 #[tv] W fun e w' => e = .returned (.bool true) ∧ Below W.heap.size W w' := by
  obtain ⟨W1, hW⟩ : ∃ W1, W1 = W := ⟨_, rfl⟩
  have hb1 : Below W.heap.size W W1 := by rw [hW]; exact (Below.refl _ _)
  have Ht := Lib.hid (ht.below hb1)
  clear ht
  have HB := Lib.hid hb1
  have b0 := Below.refl W1.heap.size W1
  clear hb1
  go_enter Try.func6, Try.ntmps6
  go_wp2_with fail
  subst hW
  refine (szR_is t tv 1048576 (by omega) (by omega) _ Ht.out).mono ?_
  rintro e w' ⟨rfl, rfl⟩
  rcases szL_cases (t.length + tot t) (left := 1048576) (by omega) (by omega) with hz | ⟨l1, m1, hn⟩
  · rw [hz]; go_wp2; go_ret; exact ⟨rfl, HB.out⟩
  obtain ⟨s1, hs⟩ : ∃ z, szL (t.length + tot t) 1048576 = z := ⟨_, rfl⟩
  rw [hs] at l1 m1 ⊢
  have HNt := Lib.hid hn; clear hn hs
  go_wp2_with fail
  refine (toR_is t tv HNt.out _ (Ht.out.below b0)).mono ?_
  rintro e w1 ⟨x1, rfl, hx1, h1⟩
  have b1 : Below W1.heap.size W1 w1 := Below.trans b0 (h1.mono b0.size)
  have y1 : W1.heap.size ≤ w1.heap.size := h1.size
  have z1 : W1.heap.size ≤ w1.heap.size := b1.size
  have Xt_1 := Lib.hid hx1
  clear hx1
  clear h1
  go_wp2_with fail
  refine (sTotal_is w1 t x1 (Xt_1.out.is) _ rfl _ (Below.refl _ _)).mono ?_
  rintro e w2 ⟨rfl, h2⟩
  have b2 : Below W1.heap.size W1 w2 := Below.trans b1 (h2.mono b1.size)
  have y2 : w1.heap.size ≤ w2.heap.size := h2.size
  have z2 : W1.heap.size ≤ w2.heap.size := b2.size
  have Xt_2 := Lib.hid (Xt_1.out.below h2)
  clear Xt_1
  clear h2
  clear Xt_2
  go_wp2_with fail
  refine (toR_is t tv HNt.out _ (Ht.out.below b2)).mono ?_
  rintro e w3 ⟨x3, rfl, hx3, h3⟩
  have b3 : Below W1.heap.size W1 w3 := Below.trans b2 (h3.mono b2.size)
  have y3 : w2.heap.size ≤ w3.heap.size := h3.size
  have z3 : W1.heap.size ≤ w3.heap.size := b3.size
  have Xt_3 := Lib.hid hx3
  clear hx3
  clear h3
  go_wp2_with fail
  refine (iTotal_is w3 t x3 (Xt_3.out.is) _ rfl _ (Below.refl _ _)).mono ?_
  rintro e w4 ⟨rfl, h4⟩
  have b4 : Below W1.heap.size W1 w4 := Below.trans b3 (h4.mono b3.size)
  have y4 : w3.heap.size ≤ w4.heap.size := h4.size
  have z4 : W1.heap.size ≤ w4.heap.size := b4.size
  have Xt_4 := Lib.hid (Xt_3.out.below h4)
  clear Xt_3
  clear h4
  go_wp2_with fail
  refine (toR_is t tv HNt.out _ (Ht.out.below b4)).mono ?_
  rintro e w5 ⟨x5, rfl, hx5, h5⟩
  have b5 : Below W1.heap.size W1 w5 := Below.trans b4 (h5.mono b4.size)
  have y5 : w4.heap.size ≤ w5.heap.size := h5.size
  have z5 : W1.heap.size ≤ w5.heap.size := b5.size
  have Xt_5 := Lib.hid (Xt_4.out.below h5)
  clear Xt_4
  have Y5 := Lib.hid hx5
  clear hx5
  clear h5
  go_wp2_with fail
  refine (eqR_arg t x3 x5 HNt.out _ Xt_5.out.is Y5.out.is).mono ?_
  rintro e w6 ⟨rfl, h6⟩
  have b6 : Below W1.heap.size W1 w6 := Below.trans b5 (h6.mono b5.size)
  have y6 : w5.heap.size ≤ w6.heap.size := h6.size
  have z6 : W1.heap.size ≤ w6.heap.size := b6.size
  have Xt_6 := Lib.hid (Xt_5.out.below h6)
  clear Xt_5
  clear h6
  clear Y5
  go_wp2
  go_ret
  exact ⟨by first | rfl | exact retb (by simp), HB.out.trans (b6.mono HB.out.size)⟩
theorem tot_bd4 : ∀ {m : Tb}, (∀ r ∈ m, r.length ≤ 4) → tot m ≤ 4 * m.length
  | [], _ => by simp [tot]
  | r :: m, h => by
    have h1 := tot_bd4 (m := m) fun x hx => h x (List.mem_cons_of_mem _ hx)
    have h2 := h r (by simp)
    simp only [tot, List.map_cons, List.sum_cons, List.length_cons] at h1 ⊢
    omega
theorem tab_small {m : Tb} (h : Tab m) : m.length + tot m ≤ 20 := by
  have h1 := tot_bd4 (m := m) fun r hr => by rw [h.len r hr]; exact h.w4
  have := h.h4; omega
theorem turnI_small (t : Tb) : (turnI t).length + tot (turnI t) ≤ 20 := by
  unfold turnI; split
  · rename_i h; exact tab_small (tab_turn (tab_iff.1 h))
  · simp [tot]
theorem foldI_small (t : Tb) (a b : Int) : (foldI t a b).length + tot (foldI t a b) ≤ 20 := by
  unfold foldI; split
  · rename_i h; simp only [foldOk, Bool.and_eq_true] at h; exact tab_small (tab_iff.1 h.2)
  · simp [tot]
set_option maxHeartbeats 4000000 in
theorem w_ExactTableTurn (t : List (List Int)) (tv : Value) (W : World) (ht : IsR W tv t) :
    Calls Try.prog 7 #[tv] W fun e w' => e = .returned (.bool true) ∧ Below W.heap.size W w' := by
  obtain ⟨W1, hW⟩ : ∃ W1, W1 = W := ⟨_, rfl⟩
  have hb1 : Below W.heap.size W W1 := by rw [hW]; exact (Below.refl _ _)
  have Ht := Lib.hid (ht.below hb1)
  clear ht
  have HB := Lib.hid hb1
  have b0 := Below.refl W1.heap.size W1
  clear hb1
  obtain ⟨m, hm⟩ : ∃ m, turnI t = m := ⟨_, rfl⟩
  obtain ⟨k1, hk⟩ : ∃ k, tabOk t = k := ⟨_, rfl⟩
  have HM1 := Lib.hid (show m.length + tot m ≤ 1048576 by rw [← hm]; have := turnI_small t; omega)
  have HG := Lib.hid hm; have HT := Lib.hid hk; clear hm hk
  have htt : (k1 != k1) = false := by simp
  go_enter Try.func7, Try.ntmps7
  go_wp2_with fail
  subst hW
  refine (szR_is t tv 1048576 (by omega) (by omega) _ Ht.out).mono ?_
  rintro e w' ⟨rfl, rfl⟩
  rcases szL_cases (t.length + tot t) (left := 1048576) (by omega) (by omega) with hz | ⟨l1, m1, hn⟩
  · rw [hz]; go_wp2; go_ret; exact ⟨rfl, HB.out⟩
  obtain ⟨s1, hs⟩ : ∃ z, szL (t.length + tot t) 1048576 = z := ⟨_, rfl⟩
  rw [hs] at l1 m1 ⊢
  have HNt := Lib.hid hn; clear hn hs
  go_wp2_with fail
  refine (toR_is t tv HNt.out _ (Ht.out.below b0)).mono ?_
  rintro e w1 ⟨x1, rfl, hx1, h1⟩
  have b1 : Below W1.heap.size W1 w1 := Below.trans b0 (h1.mono b0.size)
  have y1 : W1.heap.size ≤ w1.heap.size := h1.size
  have z1 : W1.heap.size ≤ w1.heap.size := b1.size
  have Xt_1 := Lib.hid hx1
  clear hx1
  clear h1
  go_wp2_with fail
  refine (sTurn_is w1 t x1 (Xt_1.out.is) m k1 HG.out HT.out _ (Below.refl _ _)).mono ?_
  rintro e w2 ⟨wv1, rfl, hr1_2, h2⟩
  have b2 : Below W1.heap.size W1 w2 := Below.trans b1 (h2.mono b1.size)
  have y2 : w1.heap.size ≤ w2.heap.size := h2.size
  have z2 : W1.heap.size ≤ w2.heap.size := b2.size
  have Xt_2 := Lib.hid (Xt_1.out.below h2)
  clear Xt_1
  have WV1_2 := Lib.hid hr1_2
  clear hr1_2
  clear h2
  clear Xt_2
  go_wp2_with fail
  refine (toR_is t tv HNt.out _ (Ht.out.below b2)).mono ?_
  rintro e w3 ⟨x3, rfl, hx3, h3⟩
  have b3 : Below W1.heap.size W1 w3 := Below.trans b2 (h3.mono b2.size)
  have y3 : w2.heap.size ≤ w3.heap.size := h3.size
  have z3 : W1.heap.size ≤ w3.heap.size := b3.size
  have WV1_3 := Lib.hid (WV1_2.out.below h3)
  clear WV1_2
  have Xt_3 := Lib.hid hx3
  clear hx3
  clear h3
  go_wp2_with fail
  refine (iTurn_is w3 t x3 (Xt_3.out.is) m k1 HG.out HT.out _ (Below.refl _ _)).mono ?_
  rintro e w4 ⟨gv1, rfl, hr1_4, h4⟩
  have b4 : Below W1.heap.size W1 w4 := Below.trans b3 (h4.mono b3.size)
  have y4 : w3.heap.size ≤ w4.heap.size := h4.size
  have z4 : W1.heap.size ≤ w4.heap.size := b4.size
  have WV1_4 := Lib.hid (WV1_3.out.below h4)
  clear WV1_3
  have Xt_4 := Lib.hid (Xt_3.out.below h4)
  clear Xt_3
  have GV1_4 := Lib.hid hr1_4
  clear hr1_4
  clear h4
  go_wp2_with fail
  refine (eqR_res m gv1 wv1 HM1.out _ GV1_4.out.is WV1_4.out.is).mono ?_
  rintro e w5 ⟨rfl, h5⟩
  have b5 : Below W1.heap.size W1 w5 := Below.trans b4 (h5.mono b4.size)
  have y5 : w4.heap.size ≤ w5.heap.size := h5.size
  have z5 : W1.heap.size ≤ w5.heap.size := b5.size
  have WV1_5 := Lib.hid (WV1_4.out.below h5)
  clear WV1_4
  have Xt_5 := Lib.hid (Xt_4.out.below h5)
  clear Xt_4
  have GV1_5 := Lib.hid (GV1_4.out.below h5)
  clear GV1_4
  clear h5
  go_wp2_with fail
  refine (toR_is t tv HNt.out _ (Ht.out.below b5)).mono ?_
  rintro e w6 ⟨x6, rfl, hx6, h6⟩
  have b6 : Below W1.heap.size W1 w6 := Below.trans b5 (h6.mono b5.size)
  have y6 : w5.heap.size ≤ w6.heap.size := h6.size
  have z6 : W1.heap.size ≤ w6.heap.size := b6.size
  have WV1_6 := Lib.hid (WV1_5.out.below h6)
  clear WV1_5
  have Xt_6 := Lib.hid (Xt_5.out.below h6)
  clear Xt_5
  have GV1_6 := Lib.hid (GV1_5.out.below h6)
  clear GV1_5
  have Y6 := Lib.hid hx6
  clear hx6
  clear h6
  go_wp2_with fail
  refine (eqR_arg t x3 x6 HNt.out _ Xt_6.out.is Y6.out.is).mono ?_
  rintro e w7 ⟨rfl, h7⟩
  have b7 : Below W1.heap.size W1 w7 := Below.trans b6 (h7.mono b6.size)
  have y7 : w6.heap.size ≤ w7.heap.size := h7.size
  have z7 : W1.heap.size ≤ w7.heap.size := b7.size
  have WV1_7 := Lib.hid (WV1_6.out.below h7)
  clear WV1_6
  have Xt_7 := Lib.hid (Xt_6.out.below h7)
  clear Xt_6
  have GV1_7 := Lib.hid (GV1_6.out.below h7)
  clear GV1_6
  clear h7
  clear Y6
  go_wp2_with fail
  refine (markR_in 1 (by omega) t x3 w2.heap.size w3.heap.size HNt.out _ Xt_7.out).mono ?_
  rintro e w8 ⟨rfl, hm8, h8⟩
  obtain ⟨K8, hK⟩ : ∃ K1, 1 + tot t = K1 := ⟨_, rfl⟩
  have kb8 : K8 ≤ 4194305 := by have := HNt.out; omega
  rw [hK]
  have HK8 := Lib.hid hK; clear hK
  have b8 : Below W1.heap.size W1 w8 := below_within b7 h8 (by omega)
  have y8 : w7.heap.size ≤ w8.heap.size := h8.2.2.2.1
  have z8 : W1.heap.size ≤ w8.heap.size := b8.size
  have WV1_8 := Lib.hid (WV1_7.out.far h8 (by omega))
  clear WV1_7
  have GV1_8 := Lib.hid (GV1_7.out.far h8 (by omega))
  clear GV1_7
  clear Xt_7
  clear hm8 h8
  have pt : ¬ (K8 : Int) < 0 := by omega
  go_wp2_with fail
  refine (eqR_res m gv1 wv1 HM1.out _ GV1_8.out.is WV1_8.out.is).mono ?_
  rintro e w9 ⟨rfl, h9⟩
  have b9 : Below W1.heap.size W1 w9 := Below.trans b8 (h9.mono b8.size)
  have y9 : w8.heap.size ≤ w9.heap.size := h9.size
  have z9 : W1.heap.size ≤ w9.heap.size := b9.size
  have WV1_9 := Lib.hid (WV1_8.out.below h9)
  clear WV1_8
  have GV1_9 := Lib.hid (GV1_8.out.below h9)
  clear GV1_8
  clear h9
  go_wp2_with fail
  refine (markR_in 1 (by omega) m gv1 w3.heap.size w4.heap.size HM1.out _ GV1_9.out).mono ?_
  rintro e w10 ⟨rfl, hm10, h10⟩
  obtain ⟨K10, hK⟩ : ∃ K1, 1 + tot m = K1 := ⟨_, rfl⟩
  have kb10 : K10 ≤ 4194305 := by have := HM1.out; omega
  rw [hK]
  have HK10 := Lib.hid hK; clear hK
  have b10 : Below W1.heap.size W1 w10 := below_within b9 h10 (by omega)
  have y10 : w9.heap.size ≤ w10.heap.size := h10.2.2.2.1
  have z10 : W1.heap.size ≤ w10.heap.size := b10.size
  have WV1_10 := Lib.hid (WV1_9.out.far h10 (by omega))
  clear WV1_9
  clear GV1_9
  have GV1_10 := Lib.hid hm10
  clear hm10 h10
  have q0 : ¬ (K10 : Int) < 0 := by omega
  go_wp2_with fail
  refine (heldR_res 1 (by omega) m HM1.out gv1 _ GV1_10.out.is).mono ?_
  rintro e w' ⟨rfl, rfl⟩
  rw [HK10.out]
  go_wp2_with fail
  refine (toR_is t tv HNt.out _ (Ht.out.below b10)).mono ?_
  rintro e w11 ⟨x11, rfl, hx11, h11⟩
  have b11 : Below W1.heap.size W1 w11 := Below.trans b10 (h11.mono b10.size)
  have y11 : w10.heap.size ≤ w11.heap.size := h11.size
  have z11 : W1.heap.size ≤ w11.heap.size := b11.size
  have WV1_11 := Lib.hid (WV1_10.out.below h11)
  clear WV1_10
  have GV1_11 := Lib.hid (GV1_10.out.below h11)
  clear GV1_10
  have Xt_11 := Lib.hid hx11
  clear hx11
  clear h11
  go_wp2_with fail
  refine (iTurn_is w11 t x11 (Xt_11.out.is) m k1 HG.out HT.out _ (Below.refl _ _)).mono ?_
  rintro e w12 ⟨hv1, rfl, hr1_12, h12⟩
  have b12 : Below W1.heap.size W1 w12 := Below.trans b11 (h12.mono b11.size)
  have y12 : w11.heap.size ≤ w12.heap.size := h12.size
  have z12 : W1.heap.size ≤ w12.heap.size := b12.size
  have WV1_12 := Lib.hid (WV1_11.out.below h12)
  clear WV1_11
  have GV1_12 := Lib.hid (GV1_11.out.below h12)
  clear GV1_11
  have Xt_12 := Lib.hid (Xt_11.out.below h12)
  clear Xt_11
  have HV1_12 := Lib.hid hr1_12
  clear hr1_12
  clear h12
  clear Xt_12
  go_wp2_with fail
  refine (eqR_res m hv1 wv1 HM1.out _ HV1_12.out.is WV1_12.out.is).mono ?_
  rintro e w13 ⟨rfl, h13⟩
  have b13 : Below W1.heap.size W1 w13 := Below.trans b12 (h13.mono b12.size)
  have y13 : w12.heap.size ≤ w13.heap.size := h13.size
  have z13 : W1.heap.size ≤ w13.heap.size := b13.size
  have WV1_13 := Lib.hid (WV1_12.out.below h13)
  clear WV1_12
  have GV1_13 := Lib.hid (GV1_12.out.below h13)
  clear GV1_12
  have HV1_13 := Lib.hid (HV1_12.out.below h13)
  clear HV1_12
  clear h13
  go_wp2_with fail
  refine (heldR_res 1 (by omega) m HM1.out gv1 _ GV1_13.out.is).mono ?_
  rintro e w' ⟨rfl, rfl⟩
  rw [HK10.out]
  go_wp2
  go_ret
  exact ⟨by first | rfl | exact retb (by simp), HB.out.trans (b13.mono HB.out.size)⟩
set_option maxHeartbeats 4000000 in
theorem w_ExactTableFold (t : List (List Int)) (tv : Value) (a : Int) (b : Int) (W : World) (ht : IsR W tv t) :
    Calls Try.prog 8 #[tv, .int .i64 a, .int .i64 b] W fun e w' => e = .returned (.bool true) ∧ Below W.heap.size W w' := by
  obtain ⟨W1, hW⟩ : ∃ W1, W1 = W := ⟨_, rfl⟩
  have hb1 : Below W.heap.size W W1 := by rw [hW]; exact (Below.refl _ _)
  have Ht := Lib.hid (ht.below hb1)
  clear ht
  have HB := Lib.hid hb1
  have b0 := Below.refl W1.heap.size W1
  clear hb1
  obtain ⟨m, hm⟩ : ∃ m, foldI t a b = m := ⟨_, rfl⟩
  obtain ⟨k1, hk⟩ : ∃ k, foldOk t a b = k := ⟨_, rfl⟩
  have HM1 := Lib.hid (show m.length + tot m ≤ 1048576 by rw [← hm]; have := foldI_small t a b; omega)
  have HG := Lib.hid hm; have HT := Lib.hid hk; clear hm hk
  have htt : (k1 != k1) = false := by simp
  go_enter Try.func8, Try.ntmps8
  go_wp2_with fail
  subst hW
  refine (szR_is t tv 1048576 (by omega) (by omega) _ Ht.out).mono ?_
  rintro e w' ⟨rfl, rfl⟩
  rcases szL_cases (t.length + tot t) (left := 1048576) (by omega) (by omega) with hz | ⟨l1, m1, hn⟩
  · rw [hz]; go_wp2; go_ret; exact ⟨rfl, HB.out⟩
  obtain ⟨s1, hs⟩ : ∃ z, szL (t.length + tot t) 1048576 = z := ⟨_, rfl⟩
  rw [hs] at l1 m1 ⊢
  have HNt := Lib.hid hn; clear hn hs
  go_wp2_with fail
  refine (toR_is t tv HNt.out _ (Ht.out.below b0)).mono ?_
  rintro e w1 ⟨x1, rfl, hx1, h1⟩
  have b1 : Below W1.heap.size W1 w1 := Below.trans b0 (h1.mono b0.size)
  have y1 : W1.heap.size ≤ w1.heap.size := h1.size
  have z1 : W1.heap.size ≤ w1.heap.size := b1.size
  have Xt_1 := Lib.hid hx1
  clear hx1
  clear h1
  go_wp2_with fail
  refine (sFold_is w1 t x1 (Xt_1.out.is) a b m k1 HG.out HT.out _ (Below.refl _ _)).mono ?_
  rintro e w2 ⟨wv1, rfl, hr1_2, h2⟩
  have b2 : Below W1.heap.size W1 w2 := Below.trans b1 (h2.mono b1.size)
  have y2 : w1.heap.size ≤ w2.heap.size := h2.size
  have z2 : W1.heap.size ≤ w2.heap.size := b2.size
  have Xt_2 := Lib.hid (Xt_1.out.below h2)
  clear Xt_1
  have WV1_2 := Lib.hid hr1_2
  clear hr1_2
  clear h2
  clear Xt_2
  go_wp2_with fail
  refine (toR_is t tv HNt.out _ (Ht.out.below b2)).mono ?_
  rintro e w3 ⟨x3, rfl, hx3, h3⟩
  have b3 : Below W1.heap.size W1 w3 := Below.trans b2 (h3.mono b2.size)
  have y3 : w2.heap.size ≤ w3.heap.size := h3.size
  have z3 : W1.heap.size ≤ w3.heap.size := b3.size
  have WV1_3 := Lib.hid (WV1_2.out.below h3)
  clear WV1_2
  have Xt_3 := Lib.hid hx3
  clear hx3
  clear h3
  go_wp2_with fail
  refine (iFold_is w3 t x3 (Xt_3.out.is) a b m k1 HG.out HT.out _ (Below.refl _ _)).mono ?_
  rintro e w4 ⟨gv1, rfl, hr1_4, h4⟩
  have b4 : Below W1.heap.size W1 w4 := Below.trans b3 (h4.mono b3.size)
  have y4 : w3.heap.size ≤ w4.heap.size := h4.size
  have z4 : W1.heap.size ≤ w4.heap.size := b4.size
  have WV1_4 := Lib.hid (WV1_3.out.below h4)
  clear WV1_3
  have Xt_4 := Lib.hid (Xt_3.out.below h4)
  clear Xt_3
  have GV1_4 := Lib.hid hr1_4
  clear hr1_4
  clear h4
  go_wp2_with fail
  refine (eqR_res m gv1 wv1 HM1.out _ GV1_4.out.is WV1_4.out.is).mono ?_
  rintro e w5 ⟨rfl, h5⟩
  have b5 : Below W1.heap.size W1 w5 := Below.trans b4 (h5.mono b4.size)
  have y5 : w4.heap.size ≤ w5.heap.size := h5.size
  have z5 : W1.heap.size ≤ w5.heap.size := b5.size
  have WV1_5 := Lib.hid (WV1_4.out.below h5)
  clear WV1_4
  have Xt_5 := Lib.hid (Xt_4.out.below h5)
  clear Xt_4
  have GV1_5 := Lib.hid (GV1_4.out.below h5)
  clear GV1_4
  clear h5
  go_wp2_with fail
  refine (toR_is t tv HNt.out _ (Ht.out.below b5)).mono ?_
  rintro e w6 ⟨x6, rfl, hx6, h6⟩
  have b6 : Below W1.heap.size W1 w6 := Below.trans b5 (h6.mono b5.size)
  have y6 : w5.heap.size ≤ w6.heap.size := h6.size
  have z6 : W1.heap.size ≤ w6.heap.size := b6.size
  have WV1_6 := Lib.hid (WV1_5.out.below h6)
  clear WV1_5
  have Xt_6 := Lib.hid (Xt_5.out.below h6)
  clear Xt_5
  have GV1_6 := Lib.hid (GV1_5.out.below h6)
  clear GV1_5
  have Y6 := Lib.hid hx6
  clear hx6
  clear h6
  go_wp2_with fail
  refine (eqR_arg t x3 x6 HNt.out _ Xt_6.out.is Y6.out.is).mono ?_
  rintro e w7 ⟨rfl, h7⟩
  have b7 : Below W1.heap.size W1 w7 := Below.trans b6 (h7.mono b6.size)
  have y7 : w6.heap.size ≤ w7.heap.size := h7.size
  have z7 : W1.heap.size ≤ w7.heap.size := b7.size
  have WV1_7 := Lib.hid (WV1_6.out.below h7)
  clear WV1_6
  have Xt_7 := Lib.hid (Xt_6.out.below h7)
  clear Xt_6
  have GV1_7 := Lib.hid (GV1_6.out.below h7)
  clear GV1_6
  clear h7
  clear Y6
  go_wp2_with fail
  refine (markR_in 1 (by omega) t x3 w2.heap.size w3.heap.size HNt.out _ Xt_7.out).mono ?_
  rintro e w8 ⟨rfl, hm8, h8⟩
  obtain ⟨K8, hK⟩ : ∃ K1, 1 + tot t = K1 := ⟨_, rfl⟩
  have kb8 : K8 ≤ 4194305 := by have := HNt.out; omega
  rw [hK]
  have HK8 := Lib.hid hK; clear hK
  have b8 : Below W1.heap.size W1 w8 := below_within b7 h8 (by omega)
  have y8 : w7.heap.size ≤ w8.heap.size := h8.2.2.2.1
  have z8 : W1.heap.size ≤ w8.heap.size := b8.size
  have WV1_8 := Lib.hid (WV1_7.out.far h8 (by omega))
  clear WV1_7
  have GV1_8 := Lib.hid (GV1_7.out.far h8 (by omega))
  clear GV1_7
  clear Xt_7
  clear hm8 h8
  have pt : ¬ (K8 : Int) < 0 := by omega
  go_wp2_with fail
  refine (eqR_res m gv1 wv1 HM1.out _ GV1_8.out.is WV1_8.out.is).mono ?_
  rintro e w9 ⟨rfl, h9⟩
  have b9 : Below W1.heap.size W1 w9 := Below.trans b8 (h9.mono b8.size)
  have y9 : w8.heap.size ≤ w9.heap.size := h9.size
  have z9 : W1.heap.size ≤ w9.heap.size := b9.size
  have WV1_9 := Lib.hid (WV1_8.out.below h9)
  clear WV1_8
  have GV1_9 := Lib.hid (GV1_8.out.below h9)
  clear GV1_8
  clear h9
  go_wp2_with fail
  refine (markR_in 1 (by omega) m gv1 w3.heap.size w4.heap.size HM1.out _ GV1_9.out).mono ?_
  rintro e w10 ⟨rfl, hm10, h10⟩
  obtain ⟨K10, hK⟩ : ∃ K1, 1 + tot m = K1 := ⟨_, rfl⟩
  have kb10 : K10 ≤ 4194305 := by have := HM1.out; omega
  rw [hK]
  have HK10 := Lib.hid hK; clear hK
  have b10 : Below W1.heap.size W1 w10 := below_within b9 h10 (by omega)
  have y10 : w9.heap.size ≤ w10.heap.size := h10.2.2.2.1
  have z10 : W1.heap.size ≤ w10.heap.size := b10.size
  have WV1_10 := Lib.hid (WV1_9.out.far h10 (by omega))
  clear WV1_9
  clear GV1_9
  have GV1_10 := Lib.hid hm10
  clear hm10 h10
  have q0 : ¬ (K10 : Int) < 0 := by omega
  go_wp2_with fail
  refine (heldR_res 1 (by omega) m HM1.out gv1 _ GV1_10.out.is).mono ?_
  rintro e w' ⟨rfl, rfl⟩
  rw [HK10.out]
  go_wp2_with fail
  refine (toR_is t tv HNt.out _ (Ht.out.below b10)).mono ?_
  rintro e w11 ⟨x11, rfl, hx11, h11⟩
  have b11 : Below W1.heap.size W1 w11 := Below.trans b10 (h11.mono b10.size)
  have y11 : w10.heap.size ≤ w11.heap.size := h11.size
  have z11 : W1.heap.size ≤ w11.heap.size := b11.size
  have WV1_11 := Lib.hid (WV1_10.out.below h11)
  clear WV1_10
  have GV1_11 := Lib.hid (GV1_10.out.below h11)
  clear GV1_10
  have Xt_11 := Lib.hid hx11
  clear hx11
  clear h11
  go_wp2_with fail
  refine (iFold_is w11 t x11 (Xt_11.out.is) a b m k1 HG.out HT.out _ (Below.refl _ _)).mono ?_
  rintro e w12 ⟨hv1, rfl, hr1_12, h12⟩
  have b12 : Below W1.heap.size W1 w12 := Below.trans b11 (h12.mono b11.size)
  have y12 : w11.heap.size ≤ w12.heap.size := h12.size
  have z12 : W1.heap.size ≤ w12.heap.size := b12.size
  have WV1_12 := Lib.hid (WV1_11.out.below h12)
  clear WV1_11
  have GV1_12 := Lib.hid (GV1_11.out.below h12)
  clear GV1_11
  have Xt_12 := Lib.hid (Xt_11.out.below h12)
  clear Xt_11
  have HV1_12 := Lib.hid hr1_12
  clear hr1_12
  clear h12
  clear Xt_12
  go_wp2_with fail
  refine (eqR_res m hv1 wv1 HM1.out _ HV1_12.out.is WV1_12.out.is).mono ?_
  rintro e w13 ⟨rfl, h13⟩
  have b13 : Below W1.heap.size W1 w13 := Below.trans b12 (h13.mono b12.size)
  have y13 : w12.heap.size ≤ w13.heap.size := h13.size
  have z13 : W1.heap.size ≤ w13.heap.size := b13.size
  have WV1_13 := Lib.hid (WV1_12.out.below h13)
  clear WV1_12
  have GV1_13 := Lib.hid (GV1_12.out.below h13)
  clear GV1_12
  have HV1_13 := Lib.hid (HV1_12.out.below h13)
  clear HV1_12
  clear h13
  go_wp2_with fail
  refine (heldR_res 1 (by omega) m HM1.out gv1 _ GV1_13.out.is).mono ?_
  rintro e w' ⟨rfl, rfl⟩
  rw [HK10.out]
  go_wp2
  go_ret
  exact ⟨by first | rfl | exact retb (by simp), HB.out.trans (b13.mono HB.out.size)⟩
theorem tabI_small (l : List Pn) : (tabI l).length + tot (tabI l) ≤ 20 := by
  unfold tabI; split
  · have h1 := tot_bd4 (m := tabOf l) fun r hr => by
      obtain ⟨i, hi, rfl⟩ := List.getElem_of_mem hr
      rw [tabOf_len] at hi
      rw [← getD_of _ [] (by rw [tabOf_len]; exact hi), tabOf_rlen l hi]
      omega
    rw [tabOf_len] at h1 ⊢; omega
  · simp [tot]
set_option maxHeartbeats 4000000 in
theorem w_ExactTableOf (l : List Pn) (lv : Value) (W : World) (hl : IsP W lv l) :
    Calls Try.prog 4 #[lv] W fun e w' => e = .returned (.bool true) ∧ Below W.heap.size W w' := by
  obtain ⟨W1, hW⟩ : ∃ W1, W1 = W := ⟨_, rfl⟩
  have hb1 : Below W.heap.size W W1 := by rw [hW]; exact (Below.refl _ _)
  have Hl := Lib.hid (hl.below hb1)
  clear hl
  have HB := Lib.hid hb1
  have b0 := Below.refl W1.heap.size W1
  clear hb1
  obtain ⟨m, hm⟩ : ∃ m, tabI l = m := ⟨_, rfl⟩
  obtain ⟨k1, hk⟩ : ∃ k, okL l = k := ⟨_, rfl⟩
  have HM1 := Lib.hid (show m.length + tot m ≤ 1048576 by rw [← hm]; have := tabI_small l; omega)
  have HG := Lib.hid hm; have HT := Lib.hid hk; clear hm hk
  have htt : (k1 != k1) = false := by simp
  go_enter Try.func4, Try.ntmps4
  go_wp2_with fail
  subst hW
  refine (szP_is l lv 1048576 (by omega) (by omega) _ Hl.out).mono ?_
  rintro e w' ⟨rfl, rfl⟩
  rcases szL_cases l.length (left := 1048576) (by omega) (by omega) with hz | ⟨l1, m1, hn⟩
  · rw [hz]; go_wp2; go_ret; exact ⟨rfl, HB.out⟩
  obtain ⟨s1, hs⟩ : ∃ z, szL l.length 1048576 = z := ⟨_, rfl⟩
  rw [hs] at l1 m1 ⊢
  have HNl := Lib.hid hn; clear hn hs
  go_wp2_with fail
  refine (toP_is l lv HNl.out _ (Hl.out.below b0)).mono ?_
  rintro e w1 ⟨x1, rfl, hx1, h1⟩
  have b1 : Below W1.heap.size W1 w1 := Below.trans b0 (h1.mono b0.size)
  have y1 : W1.heap.size ≤ w1.heap.size := h1.size
  have z1 : W1.heap.size ≤ w1.heap.size := b1.size
  have Xl_1 := Lib.hid hx1
  clear hx1
  clear h1
  go_wp2_with fail
  refine (sTabOf_is w1 l x1 (Xl_1.out.is) m k1 HG.out HT.out HNl.out _ (Below.refl _ _)).mono ?_
  rintro e w2 ⟨wv1, rfl, hr1_2, h2⟩
  have b2 : Below W1.heap.size W1 w2 := Below.trans b1 (h2.mono b1.size)
  have y2 : w1.heap.size ≤ w2.heap.size := h2.size
  have z2 : W1.heap.size ≤ w2.heap.size := b2.size
  have Xl_2 := Lib.hid (Xl_1.out.below h2)
  clear Xl_1
  have WV1_2 := Lib.hid hr1_2
  clear hr1_2
  clear h2
  clear Xl_2
  go_wp2_with fail
  refine (toP_is l lv HNl.out _ (Hl.out.below b2)).mono ?_
  rintro e w3 ⟨x3, rfl, hx3, h3⟩
  have b3 : Below W1.heap.size W1 w3 := Below.trans b2 (h3.mono b2.size)
  have y3 : w2.heap.size ≤ w3.heap.size := h3.size
  have z3 : W1.heap.size ≤ w3.heap.size := b3.size
  have WV1_3 := Lib.hid (WV1_2.out.below h3)
  clear WV1_2
  have Xl_3 := Lib.hid hx3
  clear hx3
  clear h3
  go_wp2_with fail
  refine (iTabOf_is w3 l x3 (Xl_3.out.is) m k1 HG.out HT.out HNl.out _ (Below.refl _ _)).mono ?_
  rintro e w4 ⟨gv1, rfl, hr1_4, h4⟩
  have b4 : Below W1.heap.size W1 w4 := Below.trans b3 (h4.mono b3.size)
  have y4 : w3.heap.size ≤ w4.heap.size := h4.size
  have z4 : W1.heap.size ≤ w4.heap.size := b4.size
  have WV1_4 := Lib.hid (WV1_3.out.below h4)
  clear WV1_3
  have Xl_4 := Lib.hid (Xl_3.out.below h4)
  clear Xl_3
  have GV1_4 := Lib.hid hr1_4
  clear hr1_4
  clear h4
  go_wp2_with fail
  refine (eqR_res m gv1 wv1 HM1.out _ GV1_4.out.is WV1_4.out.is).mono ?_
  rintro e w5 ⟨rfl, h5⟩
  have b5 : Below W1.heap.size W1 w5 := Below.trans b4 (h5.mono b4.size)
  have y5 : w4.heap.size ≤ w5.heap.size := h5.size
  have z5 : W1.heap.size ≤ w5.heap.size := b5.size
  have WV1_5 := Lib.hid (WV1_4.out.below h5)
  clear WV1_4
  have Xl_5 := Lib.hid (Xl_4.out.below h5)
  clear Xl_4
  have GV1_5 := Lib.hid (GV1_4.out.below h5)
  clear GV1_4
  clear h5
  go_wp2_with fail
  refine (toP_is l lv HNl.out _ (Hl.out.below b5)).mono ?_
  rintro e w6 ⟨x6, rfl, hx6, h6⟩
  have b6 : Below W1.heap.size W1 w6 := Below.trans b5 (h6.mono b5.size)
  have y6 : w5.heap.size ≤ w6.heap.size := h6.size
  have z6 : W1.heap.size ≤ w6.heap.size := b6.size
  have WV1_6 := Lib.hid (WV1_5.out.below h6)
  clear WV1_5
  have Xl_6 := Lib.hid (Xl_5.out.below h6)
  clear Xl_5
  have GV1_6 := Lib.hid (GV1_5.out.below h6)
  clear GV1_5
  have Y6 := Lib.hid hx6
  clear hx6
  clear h6
  go_wp2_with fail
  refine (eqP_arg l x3 x6 HNl.out _ Xl_6.out.is Y6.out.is).mono ?_
  rintro e w7 ⟨rfl, h7⟩
  have b7 : Below W1.heap.size W1 w7 := Below.trans b6 (h7.mono b6.size)
  have y7 : w6.heap.size ≤ w7.heap.size := h7.size
  have z7 : W1.heap.size ≤ w7.heap.size := b7.size
  have WV1_7 := Lib.hid (WV1_6.out.below h7)
  clear WV1_6
  have Xl_7 := Lib.hid (Xl_6.out.below h7)
  clear Xl_6
  have GV1_7 := Lib.hid (GV1_6.out.below h7)
  clear GV1_6
  clear h7
  clear Y6
  go_wp2_with fail
  refine (markP_in 1 (by omega) l x3 w2.heap.size w3.heap.size HNl.out _ Xl_7.out).mono ?_
  rintro e w8 ⟨rfl, hm8, h8⟩
  obtain ⟨K8, hK⟩ : ∃ K1, 1 + 4 * l.length = K1 := ⟨_, rfl⟩
  have kb8 : K8 ≤ 4194305 := by have := HNl.out; omega
  rw [hK]
  have HK8 := Lib.hid hK; clear hK
  have b8 : Below W1.heap.size W1 w8 := below_within b7 h8 (by omega)
  have y8 : w7.heap.size ≤ w8.heap.size := h8.2.2.2.1
  have z8 : W1.heap.size ≤ w8.heap.size := b8.size
  have WV1_8 := Lib.hid (WV1_7.out.far h8 (by omega))
  clear WV1_7
  have GV1_8 := Lib.hid (GV1_7.out.far h8 (by omega))
  clear GV1_7
  clear Xl_7
  clear hm8 h8
  have pl : ¬ (K8 : Int) < 0 := by omega
  go_wp2_with fail
  refine (eqR_res m gv1 wv1 HM1.out _ GV1_8.out.is WV1_8.out.is).mono ?_
  rintro e w9 ⟨rfl, h9⟩
  have b9 : Below W1.heap.size W1 w9 := Below.trans b8 (h9.mono b8.size)
  have y9 : w8.heap.size ≤ w9.heap.size := h9.size
  have z9 : W1.heap.size ≤ w9.heap.size := b9.size
  have WV1_9 := Lib.hid (WV1_8.out.below h9)
  clear WV1_8
  have GV1_9 := Lib.hid (GV1_8.out.below h9)
  clear GV1_8
  clear h9
  go_wp2_with fail
  refine (markR_in 1 (by omega) m gv1 w3.heap.size w4.heap.size HM1.out _ GV1_9.out).mono ?_
  rintro e w10 ⟨rfl, hm10, h10⟩
  obtain ⟨K10, hK⟩ : ∃ K1, 1 + tot m = K1 := ⟨_, rfl⟩
  have kb10 : K10 ≤ 4194305 := by have := HM1.out; omega
  rw [hK]
  have HK10 := Lib.hid hK; clear hK
  have b10 : Below W1.heap.size W1 w10 := below_within b9 h10 (by omega)
  have y10 : w9.heap.size ≤ w10.heap.size := h10.2.2.2.1
  have z10 : W1.heap.size ≤ w10.heap.size := b10.size
  have WV1_10 := Lib.hid (WV1_9.out.far h10 (by omega))
  clear WV1_9
  clear GV1_9
  have GV1_10 := Lib.hid hm10
  clear hm10 h10
  have q0 : ¬ (K10 : Int) < 0 := by omega
  go_wp2_with fail
  refine (heldR_res 1 (by omega) m HM1.out gv1 _ GV1_10.out.is).mono ?_
  rintro e w' ⟨rfl, rfl⟩
  rw [HK10.out]
  go_wp2_with fail
  refine (toP_is l lv HNl.out _ (Hl.out.below b10)).mono ?_
  rintro e w11 ⟨x11, rfl, hx11, h11⟩
  have b11 : Below W1.heap.size W1 w11 := Below.trans b10 (h11.mono b10.size)
  have y11 : w10.heap.size ≤ w11.heap.size := h11.size
  have z11 : W1.heap.size ≤ w11.heap.size := b11.size
  have WV1_11 := Lib.hid (WV1_10.out.below h11)
  clear WV1_10
  have GV1_11 := Lib.hid (GV1_10.out.below h11)
  clear GV1_10
  have Xl_11 := Lib.hid hx11
  clear hx11
  clear h11
  go_wp2_with fail
  refine (iTabOf_is w11 l x11 (Xl_11.out.is) m k1 HG.out HT.out HNl.out _ (Below.refl _ _)).mono ?_
  rintro e w12 ⟨hv1, rfl, hr1_12, h12⟩
  have b12 : Below W1.heap.size W1 w12 := Below.trans b11 (h12.mono b11.size)
  have y12 : w11.heap.size ≤ w12.heap.size := h12.size
  have z12 : W1.heap.size ≤ w12.heap.size := b12.size
  have WV1_12 := Lib.hid (WV1_11.out.below h12)
  clear WV1_11
  have GV1_12 := Lib.hid (GV1_11.out.below h12)
  clear GV1_11
  have Xl_12 := Lib.hid (Xl_11.out.below h12)
  clear Xl_11
  have HV1_12 := Lib.hid hr1_12
  clear hr1_12
  clear h12
  clear Xl_12
  go_wp2_with fail
  refine (eqR_res m hv1 wv1 HM1.out _ HV1_12.out.is WV1_12.out.is).mono ?_
  rintro e w13 ⟨rfl, h13⟩
  have b13 : Below W1.heap.size W1 w13 := Below.trans b12 (h13.mono b12.size)
  have y13 : w12.heap.size ≤ w13.heap.size := h13.size
  have z13 : W1.heap.size ≤ w13.heap.size := b13.size
  have WV1_13 := Lib.hid (WV1_12.out.below h13)
  clear WV1_12
  have GV1_13 := Lib.hid (GV1_12.out.below h13)
  clear GV1_12
  have HV1_13 := Lib.hid (HV1_12.out.below h13)
  clear HV1_12
  clear h13
  go_wp2_with fail
  refine (heldR_res 1 (by omega) m HM1.out gv1 _ GV1_13.out.is).mono ?_
  rintro e w' ⟨rfl, rfl⟩
  rw [HK10.out]
  go_wp2
  go_ret
  exact ⟨by first | rfl | exact retb (by simp), HB.out.trans (b13.mono HB.out.size)⟩
end Go.Proofs.Ytmmabdioncgkoaa
