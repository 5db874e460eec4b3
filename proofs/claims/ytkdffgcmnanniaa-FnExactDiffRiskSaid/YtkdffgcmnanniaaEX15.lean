/- Exact laws of chapter 15: tables. -/
import Derived.Test.YtkdffgcmnanniaaID2
import Derived.Test.YtkdffgcmnanniaaSD
import Derived.Test.YtkdffgcmnanniaaXMA
import Derived.Deep.RegionHeld3
namespace Go.Proofs.Ytkdffgcmnanniaa
open Go.RowKit
theorem tot_bd4 : ∀ {m : Tb}, (∀ r ∈ m, r.length ≤ 4) → tot m ≤ 4 * m.length
  | [], _ => by simp [tot]
  | r :: m, h => by
    have h1 := tot_bd4 (m := m) fun x hx => h x (List.mem_cons_of_mem _ hx)
    have h2 := h r (by simp)
    simp only [tot, List.map_cons, List.sum_cons, List.length_cons] at h1 ⊢
    omega
theorem tab_small {m : Tb} (h : Tab m) : m.length + tot m ≤ 20 := by
  have h1 := tot_bd4 (m := m) fun r hr => by rw [h.len r hr]; exact h.w4
  have := h.h4; omega
theorem diffI_small (t u : Tb) : (diffI t u).length + tot (diffI t u) ≤ 20 := by
  unfold diffI; split
  · rename_i h; exact tab_small (dok_iff.1 h).d
  · simp [tot]
set_option maxHeartbeats 4000000 in
theorem w_ExactDiffTable (t : List (List Int)) (tv : Value) (u : List (List Int)) (uv : Value) (W : World) (ht : IsR W tv t) (hu : IsR W uv u) :
    Calls Try.prog 10 #[tv, uv] W fun e w' => e = .returned (.bool true) ∧ Below W.heap.size W w' := by
  obtain ⟨W1, hW⟩ : ∃ W1, W1 = W := ⟨_, rfl⟩
  have hb1 : Below W.heap.size W W1 := by rw [hW]; exact (Below.refl _ _)
  have Ht := Lib.hid (ht.below hb1)
  clear ht
  have Hu := Lib.hid (hu.below hb1)
  clear hu
  have HB := Lib.hid hb1
  have b0 := Below.refl W1.heap.size W1
  clear hb1
  obtain ⟨m, hm⟩ : ∃ m, diffI t u = m := ⟨_, rfl⟩
  obtain ⟨k1, hk⟩ : ∃ k, diffOk t u = k := ⟨_, rfl⟩
  have HM1 := Lib.hid (show m.length + tot m ≤ 1048576 by rw [← hm]; have := diffI_small t u; omega)
  have HG := Lib.hid hm; have HT := Lib.hid hk; clear hm hk
  have htt : (k1 != k1) = false := by simp
  go_enter Try.func10, Try.ntmps10
  go_wp2_with fail
  subst hW
  refine (szR_is t tv 1048576 (by omega) (by omega) _ Ht.out).mono ?_
  rintro e w' ⟨rfl, rfl⟩
  rcases szL_cases (t.length + tot t) (left := 1048576) (by omega) (by omega) with hz | ⟨l1, m1, hn⟩
  · rw [hz]; go_wp2; go_ret; exact ⟨rfl, HB.out⟩
  obtain ⟨s1, hs⟩ : ∃ z, szL (t.length + tot t) 1048576 = z := ⟨_, rfl⟩
  rw [hs] at l1 m1 ⊢
  have HNt := Lib.hid hn; clear hn hs
  go_wp2_with fail
  refine (szR_is u uv s1 l1 m1 _ Hu.out).mono ?_
  rintro e w' ⟨rfl, rfl⟩
  rcases szL_cases (u.length + tot u) (left := s1) l1 m1 with hz | ⟨l2, m2, hn⟩
  · rw [hz]; go_wp2; go_ret; exact ⟨rfl, HB.out⟩
  obtain ⟨s2, hs⟩ : ∃ z, szL (u.length + tot u) s1 = z := ⟨_, rfl⟩
  rw [hs] at l2 m2 ⊢
  have HNu := Lib.hid hn; clear hn hs
  go_wp2_with fail
  refine (toR_is t tv HNt.out _ (Ht.out.below b0)).mono ?_
  rintro e w1 ⟨x1, rfl, hx1, h1⟩
  have b1 : Below W1.heap.size W1 w1 := Below.trans b0 (h1.mono b0.size)
  have y1 : W1.heap.size ≤ w1.heap.size := h1.size
  have z1 : W1.heap.size ≤ w1.heap.size := b1.size
  have Xt_1 := Lib.hid hx1
  clear hx1
  clear h1
  go_wp2_with fail
  refine (toR_is u uv HNu.out _ (Hu.out.below b1)).mono ?_
  rintro e w2 ⟨x2, rfl, hx2, h2⟩
  have b2 : Below W1.heap.size W1 w2 := Below.trans b1 (h2.mono b1.size)
  have y2 : w1.heap.size ≤ w2.heap.size := h2.size
  have z2 : W1.heap.size ≤ w2.heap.size := b2.size
  have Xt_2 := Lib.hid (Xt_1.out.below h2)
  clear Xt_1
  have Xu_2 := Lib.hid hx2
  clear hx2
  clear h2
  go_wp2_with fail
  refine (sDiff_is w2 t x1 (Xt_2.out.is) u x2 (Xu_2.out.is) m k1 HG.out HT.out _ (Below.refl _ _)).mono ?_
  rintro e w3 ⟨wv1, rfl, hr1_3, h3⟩
  have b3 : Below W1.heap.size W1 w3 := Below.trans b2 (h3.mono b2.size)
  have y3 : w2.heap.size ≤ w3.heap.size := h3.size
  have z3 : W1.heap.size ≤ w3.heap.size := b3.size
  have Xt_3 := Lib.hid (Xt_2.out.below h3)
  clear Xt_2
  have Xu_3 := Lib.hid (Xu_2.out.below h3)
  clear Xu_2
  have WV1_3 := Lib.hid hr1_3
  clear hr1_3
  clear h3
  clear Xt_3
  clear Xu_3
  go_wp2_with fail
  refine (toR_is t tv HNt.out _ (Ht.out.below b3)).mono ?_
  rintro e w4 ⟨x4, rfl, hx4, h4⟩
  have b4 : Below W1.heap.size W1 w4 := Below.trans b3 (h4.mono b3.size)
  have y4 : w3.heap.size ≤ w4.heap.size := h4.size
  have z4 : W1.heap.size ≤ w4.heap.size := b4.size
  have WV1_4 := Lib.hid (WV1_3.out.below h4)
  clear WV1_3
  have Xt_4 := Lib.hid hx4
  clear hx4
  clear h4
  go_wp2_with fail
  refine (toR_is u uv HNu.out _ (Hu.out.below b4)).mono ?_
  rintro e w5 ⟨x5, rfl, hx5, h5⟩
  have b5 : Below W1.heap.size W1 w5 := Below.trans b4 (h5.mono b4.size)
  have y5 : w4.heap.size ≤ w5.heap.size := h5.size
  have z5 : W1.heap.size ≤ w5.heap.size := b5.size
  have WV1_5 := Lib.hid (WV1_4.out.below h5)
  clear WV1_4
  have Xt_5 := Lib.hid (Xt_4.out.below h5)
  clear Xt_4
  have Xu_5 := Lib.hid hx5
  clear hx5
  clear h5
  go_wp2_with fail
  refine (iDiff_is w5 t x4 (Xt_5.out.is) u x5 (Xu_5.out.is) m k1 HG.out HT.out _ (Below.refl _ _)).mono ?_
  rintro e w6 ⟨gv1, rfl, hr1_6, h6⟩
  have b6 : Below W1.heap.size W1 w6 := Below.trans b5 (h6.mono b5.size)
  have y6 : w5.heap.size ≤ w6.heap.size := h6.size
  have z6 : W1.heap.size ≤ w6.heap.size := b6.size
  have WV1_6 := Lib.hid (WV1_5.out.below h6)
  clear WV1_5
  have Xt_6 := Lib.hid (Xt_5.out.below h6)
  clear Xt_5
  have Xu_6 := Lib.hid (Xu_5.out.below h6)
  clear Xu_5
  have GV1_6 := Lib.hid hr1_6
  clear hr1_6
  clear h6
  go_wp2_with fail
  refine (eqR_res m gv1 wv1 HM1.out _ GV1_6.out.is WV1_6.out.is).mono ?_
  rintro e w7 ⟨rfl, h7⟩
  have b7 : Below W1.heap.size W1 w7 := Below.trans b6 (h7.mono b6.size)
  have y7 : w6.heap.size ≤ w7.heap.size := h7.size
  have z7 : W1.heap.size ≤ w7.heap.size := b7.size
  have WV1_7 := Lib.hid (WV1_6.out.below h7)
  clear WV1_6
  have Xt_7 := Lib.hid (Xt_6.out.below h7)
  clear Xt_6
  have Xu_7 := Lib.hid (Xu_6.out.below h7)
  clear Xu_6
  have GV1_7 := Lib.hid (GV1_6.out.below h7)
  clear GV1_6
  clear h7
  go_wp2_with fail
  refine (toR_is t tv HNt.out _ (Ht.out.below b7)).mono ?_
  rintro e w8 ⟨x8, rfl, hx8, h8⟩
  have b8 : Below W1.heap.size W1 w8 := Below.trans b7 (h8.mono b7.size)
  have y8 : w7.heap.size ≤ w8.heap.size := h8.size
  have z8 : W1.heap.size ≤ w8.heap.size := b8.size
  have WV1_8 := Lib.hid (WV1_7.out.below h8)
  clear WV1_7
  have Xt_8 := Lib.hid (Xt_7.out.below h8)
  clear Xt_7
  have Xu_8 := Lib.hid (Xu_7.out.below h8)
  clear Xu_7
  have GV1_8 := Lib.hid (GV1_7.out.below h8)
  clear GV1_7
  have Y8 := Lib.hid hx8
  clear hx8
  clear h8
  go_wp2_with fail
  refine (eqR_arg t x4 x8 HNt.out _ Xt_8.out.is Y8.out.is).mono ?_
  rintro e w9 ⟨rfl, h9⟩
  have b9 : Below W1.heap.size W1 w9 := Below.trans b8 (h9.mono b8.size)
  have y9 : w8.heap.size ≤ w9.heap.size := h9.size
  have z9 : W1.heap.size ≤ w9.heap.size := b9.size
  have WV1_9 := Lib.hid (WV1_8.out.below h9)
  clear WV1_8
  have Xt_9 := Lib.hid (Xt_8.out.below h9)
  clear Xt_8
  have Xu_9 := Lib.hid (Xu_8.out.below h9)
  clear Xu_8
  have GV1_9 := Lib.hid (GV1_8.out.below h9)
  clear GV1_8
  clear h9
  clear Y8
  go_wp2_with fail
  refine (toR_is u uv HNu.out _ (Hu.out.below b9)).mono ?_
  rintro e w10 ⟨x10, rfl, hx10, h10⟩
  have b10 : Below W1.heap.size W1 w10 := Below.trans b9 (h10.mono b9.size)
  have y10 : w9.heap.size ≤ w10.heap.size := h10.size
  have z10 : W1.heap.size ≤ w10.heap.size := b10.size
  have WV1_10 := Lib.hid (WV1_9.out.below h10)
  clear WV1_9
  have Xt_10 := Lib.hid (Xt_9.out.below h10)
  clear Xt_9
  have Xu_10 := Lib.hid (Xu_9.out.below h10)
  clear Xu_9
  have GV1_10 := Lib.hid (GV1_9.out.below h10)
  clear GV1_9
  have Y10 := Lib.hid hx10
  clear hx10
  clear h10
  go_wp2_with fail
  refine (eqR_arg u x5 x10 HNu.out _ Xu_10.out.is Y10.out.is).mono ?_
  rintro e w11 ⟨rfl, h11⟩
  have b11 : Below W1.heap.size W1 w11 := Below.trans b10 (h11.mono b10.size)
  have y11 : w10.heap.size ≤ w11.heap.size := h11.size
  have z11 : W1.heap.size ≤ w11.heap.size := b11.size
  have WV1_11 := Lib.hid (WV1_10.out.below h11)
  clear WV1_10
  have Xt_11 := Lib.hid (Xt_10.out.below h11)
  clear Xt_10
  have Xu_11 := Lib.hid (Xu_10.out.below h11)
  clear Xu_10
  have GV1_11 := Lib.hid (GV1_10.out.below h11)
  clear GV1_10
  clear h11
  clear Y10
  go_wp2_with fail
  refine (markR_in 1 (by omega) t x4 w3.heap.size w4.heap.size HNt.out _ Xt_11.out).mono ?_
  rintro e w12 ⟨rfl, hm12, h12⟩
  obtain ⟨K12, hK⟩ : ∃ K1, 1 + tot t = K1 := ⟨_, rfl⟩
  have kb12 : K12 ≤ 4194305 := by have := HNt.out; omega
  rw [hK]
  have HK12 := Lib.hid hK; clear hK
  have b12 : Below W1.heap.size W1 w12 := below_within b11 h12 (by omega)
  have y12 : w11.heap.size ≤ w12.heap.size := h12.2.2.2.1
  have z12 : W1.heap.size ≤ w12.heap.size := b12.size
  have WV1_12 := Lib.hid (WV1_11.out.far h12 (by omega))
  clear WV1_11
  have Xu_12 := Lib.hid (Xu_11.out.far h12 (by omega))
  clear Xu_11
  have GV1_12 := Lib.hid (GV1_11.out.far h12 (by omega))
  clear GV1_11
  clear Xt_11
  clear hm12 h12
  have pt : ¬ (K12 : Int) < 0 := by omega
  go_wp2_with fail
  refine (markR_in K12 (by omega) u x5 w4.heap.size w5.heap.size HNu.out _ Xu_12.out).mono ?_
  rintro e w13 ⟨rfl, hm13, h13⟩
  obtain ⟨K13, hK⟩ : ∃ K1, K12 + tot u = K1 := ⟨_, rfl⟩
  have kb13 : K13 ≤ 8388609 := by have := HNu.out; omega
  rw [hK]
  have HK13 := Lib.hid hK; clear hK
  have b13 : Below W1.heap.size W1 w13 := below_within b12 h13 (by omega)
  have y13 : w12.heap.size ≤ w13.heap.size := h13.2.2.2.1
  have z13 : W1.heap.size ≤ w13.heap.size := b13.size
  have WV1_13 := Lib.hid (WV1_12.out.far h13 (by omega))
  clear WV1_12
  have GV1_13 := Lib.hid (GV1_12.out.far h13 (by omega))
  clear GV1_12
  clear Xu_12
  clear hm13 h13
  have pu : ¬ (K13 : Int) < 0 := by omega
  go_wp2_with fail
  refine (eqR_res m gv1 wv1 HM1.out _ GV1_13.out.is WV1_13.out.is).mono ?_
  rintro e w14 ⟨rfl, h14⟩
  have b14 : Below W1.heap.size W1 w14 := Below.trans b13 (h14.mono b13.size)
  have y14 : w13.heap.size ≤ w14.heap.size := h14.size
  have z14 : W1.heap.size ≤ w14.heap.size := b14.size
  have WV1_14 := Lib.hid (WV1_13.out.below h14)
  clear WV1_13
  have GV1_14 := Lib.hid (GV1_13.out.below h14)
  clear GV1_13
  clear h14
  go_wp2_with fail
  refine (markR_in 1 (by omega) m gv1 w5.heap.size w6.heap.size HM1.out _ GV1_14.out).mono ?_
  rintro e w15 ⟨rfl, hm15, h15⟩
  obtain ⟨K15, hK⟩ : ∃ K1, 1 + tot m = K1 := ⟨_, rfl⟩
  have kb15 : K15 ≤ 4194305 := by have := HM1.out; omega
  rw [hK]
  have HK15 := Lib.hid hK; clear hK
  have b15 : Below W1.heap.size W1 w15 := below_within b14 h15 (by omega)
  have y15 : w14.heap.size ≤ w15.heap.size := h15.2.2.2.1
  have z15 : W1.heap.size ≤ w15.heap.size := b15.size
  have WV1_15 := Lib.hid (WV1_14.out.far h15 (by omega))
  clear WV1_14
  clear GV1_14
  have GV1_15 := Lib.hid hm15
  clear hm15 h15
  have q0 : ¬ (K15 : Int) < 0 := by omega
  go_wp2_with fail
  refine (heldR_res 1 (by omega) m HM1.out gv1 _ GV1_15.out.is).mono ?_
  rintro e w' ⟨rfl, rfl⟩
  rw [HK15.out]
  go_wp2_with fail
  refine (toR_is t tv HNt.out _ (Ht.out.below b15)).mono ?_
  rintro e w16 ⟨x16, rfl, hx16, h16⟩
  have b16 : Below W1.heap.size W1 w16 := Below.trans b15 (h16.mono b15.size)
  have y16 : w15.heap.size ≤ w16.heap.size := h16.size
  have z16 : W1.heap.size ≤ w16.heap.size := b16.size
  have WV1_16 := Lib.hid (WV1_15.out.below h16)
  clear WV1_15
  have GV1_16 := Lib.hid (GV1_15.out.below h16)
  clear GV1_15
  have Xt_16 := Lib.hid hx16
  clear hx16
  clear h16
  go_wp2_with fail
  refine (toR_is u uv HNu.out _ (Hu.out.below b16)).mono ?_
  rintro e w17 ⟨x17, rfl, hx17, h17⟩
  have b17 : Below W1.heap.size W1 w17 := Below.trans b16 (h17.mono b16.size)
  have y17 : w16.heap.size ≤ w17.heap.size := h17.size
  have z17 : W1.heap.size ≤ w17.heap.size := b17.size
  have WV1_17 := Lib.hid (WV1_16.out.below h17)
  clear WV1_16
  have GV1_17 := Lib.hid (GV1_16.out.below h17)
  clear GV1_16
  have Xt_17 := Lib.hid (Xt_16.out.below h17)
  clear Xt_16
  have Xu_17 := Lib.hid hx17
  clear hx17
  clear h17
  go_wp2_with fail
  refine (iDiff_is w17 t x16 (Xt_17.out.is) u x17 (Xu_17.out.is) m k1 HG.out HT.out _ (Below.refl _ _)).mono ?_
  rintro e w18 ⟨hv1, rfl, hr1_18, h18⟩
  have b18 : Below W1.heap.size W1 w18 := Below.trans b17 (h18.mono b17.size)
  have y18 : w17.heap.size ≤ w18.heap.size := h18.size
  have z18 : W1.heap.size ≤ w18.heap.size := b18.size
  have WV1_18 := Lib.hid (WV1_17.out.below h18)
  clear WV1_17
  have GV1_18 := Lib.hid (GV1_17.out.below h18)
  clear GV1_17
  have Xt_18 := Lib.hid (Xt_17.out.below h18)
  clear Xt_17
  have Xu_18 := Lib.hid (Xu_17.out.below h18)
  clear Xu_17
  have HV1_18 := Lib.hid hr1_18
  clear hr1_18
  clear h18
  clear Xt_18
  clear Xu_18
  go_wp2_with fail
  refine (eqR_res m hv1 wv1 HM1.out _ HV1_18.out.is WV1_18.out.is).mono ?_
  rintro e w19 ⟨rfl, h19⟩
  have b19 : Below W1.heap.size W1 w19 := Below.trans b18 (h19.mono b18.size)
  have y19 : w18.heap.size ≤ w19.heap.size := h19.size
  have z19 : W1.heap.size ≤ w19.heap.size := b19.size
  have WV1_19 := Lib.hid (WV1_18.out.below h19)
  clear WV1_18
  have GV1_19 := Lib.hid (GV1_18.out.below h19)
  clear GV1_18
  have HV1_19 := Lib.hid (HV1_18.out.below h19)
  clear HV1_18
  clear h19
  go_wp2_with fail
  refine (heldR_res 1 (by omega) m HM1.out gv1 _ GV1_19.out.is).mono ?_
  rintro e w' ⟨rfl, rfl⟩
  rw [HK15.out]
  go_wp2
  go_ret
  exact ⟨by first | rfl | exact retb (by simp), HB.out.trans (b19.mono HB.out.size)⟩
set_option maxHeartbeats 2000000 in
theorem w_ExactDiffRisk (t : List (List Int)) (tv : Value) (u : List (List Int)) (uv : Value) (k : Int) (W : World) (ht : IsR W tv t) (hu : IsR W uv u) :
    Calls Try.prog 11 #[tv, uv, .int .i64 k] W fun e w' => e = .returned (.bool true) ∧ Below W.heap.size W w' := by
  obtain ⟨W1, hW⟩ : ∃ W1, W1 = W := ⟨_, rfl⟩
  have hb1 : Below W.heap.size W W1 := by rw [hW]; exact (Below.refl _ _)
  have Ht := Lib.hid (ht.below hb1)
  clear ht
  have Hu := Lib.hid (hu.below hb1)
  clear hu
  have HB := Lib.hid hb1
  have b0 := Below.refl W1.heap.size W1
  clear hb1
  go_enter Try.func11, Try.ntmps11
  go_wp2_with fail
  subst hW
  refine (szR_is t tv 1048576 (by omega) (by omega) _ Ht.out).mono ?_
  rintro e w' ⟨rfl, rfl⟩
  rcases szL_cases (t.length + tot t) (left := 1048576) (by omega) (by omega) with hz | ⟨l1, m1, hn⟩
  · rw [hz]; go_wp2; go_ret; exact ⟨rfl, HB.out⟩
  obtain ⟨s1, hs⟩ : ∃ z, szL (t.length + tot t) 1048576 = z := ⟨_, rfl⟩
  rw [hs] at l1 m1 ⊢
  have HNt := Lib.hid hn; clear hn hs
  go_wp2_with fail
  refine (szR_is u uv s1 l1 m1 _ Hu.out).mono ?_
  rintro e w' ⟨rfl, rfl⟩
  rcases szL_cases (u.length + tot u) (left := s1) l1 m1 with hz | ⟨l2, m2, hn⟩
  · rw [hz]; go_wp2; go_ret; exact ⟨rfl, HB.out⟩
  obtain ⟨s2, hs⟩ : ∃ z, szL (u.length + tot u) s1 = z := ⟨_, rfl⟩
  rw [hs] at l2 m2 ⊢
  have HNu := Lib.hid hn; clear hn hs
  go_wp2_with fail
  refine (toR_is t tv HNt.out _ (Ht.out.below b0)).mono ?_
  rintro e w1 ⟨x1, rfl, hx1, h1⟩
  have b1 : Below W1.heap.size W1 w1 := Below.trans b0 (h1.mono b0.size)
  have y1 : W1.heap.size ≤ w1.heap.size := h1.size
  have z1 : W1.heap.size ≤ w1.heap.size := b1.size
  have Xt_1 := Lib.hid hx1
  clear hx1
  clear h1
  go_wp2_with fail
  refine (toR_is u uv HNu.out _ (Hu.out.below b1)).mono ?_
  rintro e w2 ⟨x2, rfl, hx2, h2⟩
  have b2 : Below W1.heap.size W1 w2 := Below.trans b1 (h2.mono b1.size)
  have y2 : w1.heap.size ≤ w2.heap.size := h2.size
  have z2 : W1.heap.size ≤ w2.heap.size := b2.size
  have Xt_2 := Lib.hid (Xt_1.out.below h2)
  clear Xt_1
  have Xu_2 := Lib.hid hx2
  clear hx2
  clear h2
  go_wp2_with fail
  refine (sRisk_is w2 t x1 (Xt_2.out.is) u x2 (Xu_2.out.is) k _ rfl _ (Below.refl _ _)).mono ?_
  rintro e w3 ⟨rfl, h3⟩
  have b3 : Below W1.heap.size W1 w3 := Below.trans b2 (h3.mono b2.size)
  have y3 : w2.heap.size ≤ w3.heap.size := h3.size
  have z3 : W1.heap.size ≤ w3.heap.size := b3.size
  have Xt_3 := Lib.hid (Xt_2.out.below h3)
  clear Xt_2
  have Xu_3 := Lib.hid (Xu_2.out.below h3)
  clear Xu_2
  clear h3
  clear Xt_3
  clear Xu_3
  go_wp2_with fail
  refine (toR_is t tv HNt.out _ (Ht.out.below b3)).mono ?_
  rintro e w4 ⟨x4, rfl, hx4, h4⟩
  have b4 : Below W1.heap.size W1 w4 := Below.trans b3 (h4.mono b3.size)
  have y4 : w3.heap.size ≤ w4.heap.size := h4.size
  have z4 : W1.heap.size ≤ w4.heap.size := b4.size
  have Xt_4 := Lib.hid hx4
  clear hx4
  clear h4
  go_wp2_with fail
  refine (toR_is u uv HNu.out _ (Hu.out.below b4)).mono ?_
  rintro e w5 ⟨x5, rfl, hx5, h5⟩
  have b5 : Below W1.heap.size W1 w5 := Below.trans b4 (h5.mono b4.size)
  have y5 : w4.heap.size ≤ w5.heap.size := h5.size
  have z5 : W1.heap.size ≤ w5.heap.size := b5.size
  have Xt_5 := Lib.hid (Xt_4.out.below h5)
  clear Xt_4
  have Xu_5 := Lib.hid hx5
  clear hx5
  clear h5
  go_wp2_with fail
  refine (iRisk_is w5 t x4 (Xt_5.out.is) u x5 (Xu_5.out.is) k _ rfl _ (Below.refl _ _)).mono ?_
  rintro e w6 ⟨rfl, h6⟩
  have b6 : Below W1.heap.size W1 w6 := Below.trans b5 (h6.mono b5.size)
  have y6 : w5.heap.size ≤ w6.heap.size := h6.size
  have z6 : W1.heap.size ≤ w6.heap.size := b6.size
  have Xt_6 := Lib.hid (Xt_5.out.below h6)
  clear Xt_5
  have Xu_6 := Lib.hid (Xu_5.out.below h6)
  clear Xu_5
  clear h6
  go_wp2_with fail
  refine (toR_is t tv HNt.out _ (Ht.out.below b6)).mono ?_
  rintro e w7 ⟨x7, rfl, hx7, h7⟩
  have b7 : Below W1.heap.size W1 w7 := Below.trans b6 (h7.mono b6.size)
  have y7 : w6.heap.size ≤ w7.heap.size := h7.size
  have z7 : W1.heap.size ≤ w7.heap.size := b7.size
  have Xt_7 := Lib.hid (Xt_6.out.below h7)
  clear Xt_6
  have Xu_7 := Lib.hid (Xu_6.out.below h7)
  clear Xu_6
  have Y7 := Lib.hid hx7
  clear hx7
  clear h7
  go_wp2_with fail
  refine (eqR_arg t x4 x7 HNt.out _ Xt_7.out.is Y7.out.is).mono ?_
  rintro e w8 ⟨rfl, h8⟩
  have b8 : Below W1.heap.size W1 w8 := Below.trans b7 (h8.mono b7.size)
  have y8 : w7.heap.size ≤ w8.heap.size := h8.size
  have z8 : W1.heap.size ≤ w8.heap.size := b8.size
  have Xt_8 := Lib.hid (Xt_7.out.below h8)
  clear Xt_7
  have Xu_8 := Lib.hid (Xu_7.out.below h8)
  clear Xu_7
  clear h8
  clear Y7
  go_wp2_with fail
  refine (toR_is u uv HNu.out _ (Hu.out.below b8)).mono ?_
  rintro e w9 ⟨x9, rfl, hx9, h9⟩
  have b9 : Below W1.heap.size W1 w9 := Below.trans b8 (h9.mono b8.size)
  have y9 : w8.heap.size ≤ w9.heap.size := h9.size
  have z9 : W1.heap.size ≤ w9.heap.size := b9.size
  have Xt_9 := Lib.hid (Xt_8.out.below h9)
  clear Xt_8
  have Xu_9 := Lib.hid (Xu_8.out.below h9)
  clear Xu_8
  have Y9 := Lib.hid hx9
  clear hx9
  clear h9
  go_wp2_with fail
  refine (eqR_arg u x5 x9 HNu.out _ Xu_9.out.is Y9.out.is).mono ?_
  rintro e w10 ⟨rfl, h10⟩
  have b10 : Below W1.heap.size W1 w10 := Below.trans b9 (h10.mono b9.size)
  have y10 : w9.heap.size ≤ w10.heap.size := h10.size
  have z10 : W1.heap.size ≤ w10.heap.size := b10.size
  have Xt_10 := Lib.hid (Xt_9.out.below h10)
  clear Xt_9
  have Xu_10 := Lib.hid (Xu_9.out.below h10)
  clear Xu_9
  clear h10
  clear Y9
  go_wp2
  go_ret
  exact ⟨by first | rfl | exact retb (by simp), HB.out.trans (b10.mono HB.out.size)⟩
end Go.Proofs.Ytkdffgcmnanniaa
