/- Exact laws of chapter 14: masks that grow. -/
import Derived.Test.YtobgceebolmfcaaDoorVIC
import Derived.Test.YtobgceebolmfcaaDoorVSA
import Derived.Test.YtobgceebolmfcaaDoorXMC
import Derived.Deep.RegionHeld3
namespace Go.Proofs.YtobgceebolmfcaaDoor
open Go.RowKit
theorem totM_mulK : ∀ (m : Mk) (c : Nat), (∀ r ∈ m, r.length ≤ c) → totM m ≤ m.length * c
  | [], _, _ => by simp [totM]
  | r :: m, c, h => by
    have h1 := totM_mulK m c fun x hx => h x (by simp [hx])
    have h2 := h r (by simp)
    simp only [totM, List.map_cons, List.sum_cons, List.length_cons, Nat.add_mul] at h1 ⊢
    omega
theorem mkOk_small {t : Tb} {m : Mk} (h : mkOk t m = true) : m.length + totM m ≤ 20 := by
  obtain ⟨h1, h2, h3⟩ := mk_parts.1 h
  have h4 := totM_mulK m 4 fun r hr => by rw [h3 r hr]; exact h1.w4
  have := h1.h4
  rw [h2] at *
  omega
theorem step_small (t : Tb) (f m : Mk) (n : Int) : ((stepO t f m n).getD []).length + totM ((stepO t f m n).getD []) ≤ 20 := by
  rcases h : stepO t f m n with _ | r
  · simp [totM]
  · exact mkOk_small (step_ok h).2.1
theorem grow_small (t : Tb) (f : Mk) (n : Int) : ((growO t f n).getD []).length + totM ((growO t f n).getD []) ≤ 20 := by
  rcases h : growO t f n with _ | r
  · simp [totM]
  · exact mkOk_small (grow_some h).2.2.1
theorem sStepM_is (W : World) (t : Tb) (v : Value) (hv : IsR W v t) (f : Mk) (u : Value) (hu : IsM W u f) (m : Mk) (u2 : Value) (hu2 : IsM W u2 m) (n : Int) (x : Mk) (k : Bool) (h1 : (stepO t f m n).getD [] = x) (h2 : (stepO t f m n).isSome = k) (w : World) (hb : Below W.heap.size W w) :
    Calls Tryd.prog 15 #[v, u, u2, .int .i64 n] w (OutMT x k w) := by
  subst h1; subst h2; exact sStep_is W t v hv f u hu m u2 hu2 n _ rfl w hb
theorem iStepM_is (W : World) (t : Tb) (v : Value) (hv : IsR W v t) (f : Mk) (u : Value) (hu : IsM W u f) (m : Mk) (u2 : Value) (hu2 : IsM W u2 m) (n : Int) (x : Mk) (k : Bool) (h1 : (stepO t f m n).getD [] = x) (h2 : (stepO t f m n).isSome = k) (w : World) (hb : Below W.heap.size W w) (hT : TabW W) :
    Calls Tryd.prog 14 #[v, u, u2, .int .i64 n] w (OutMT x k w) := by
  subst h1; subst h2; exact iStep_is W t v hv f u hu m u2 hu2 n _ rfl w hb hT
theorem sGrowM_is (W : World) (t : Tb) (v : Value) (hv : IsR W v t) (f : Mk) (u : Value) (hu : IsM W u f) (n : Int) (x : Mk) (k : Bool) (h1 : (growO t f n).getD [] = x) (h2 : (growO t f n).isSome = k) (w : World) (hb : Below W.heap.size W w) :
    Calls Tryd.prog 20 #[v, u, .int .i64 n] w (OutMT x k w) := by
  subst h1; subst h2; exact sGrow_is W t v hv f u hu n _ rfl w hb
theorem iGrowM_is (W : World) (t : Tb) (v : Value) (hv : IsR W v t) (f : Mk) (u : Value) (hu : IsM W u f) (n : Int) (x : Mk) (k : Bool) (h1 : (growO t f n).getD [] = x) (h2 : (growO t f n).isSome = k) (w : World) (hb : Below W.heap.size W w) (hT : TabW W) :
    Calls Tryd.prog 19 #[v, u, .int .i64 n] w (OutMT x k w) := by
  subst h1; subst h2; exact iGrow_is W t v hv f u hu n _ rfl w hb hT
set_option maxHeartbeats 4000000 in
theorem w_ExactPatternStep (t : List (List Int)) (tv : Value) (f : Mk) (fv : Value) (m : Mk) (mv : Value) (n : Int) (W : World) (ht : IsR W tv t) (hf : IsM W fv f) (hm : IsM W mv m) (hT : TabW W) :
    Calls Tryd.prog 11 #[tv, fv, mv, .int .i64 n] W fun e w' => e = .returned (.bool true) ∧ Below W.heap.size W w' := by
  obtain ⟨W1, hW⟩ : ∃ W1, W1 = W := ⟨_, rfl⟩
  have hb1 : Below W.heap.size W W1 := by rw [hW]; exact (Below.refl _ _)
  have Ht := Lib.hid (ht.below hb1)
  clear ht
  have Hf := Lib.hid (hf.below hb1)
  clear hf
  have Hm := Lib.hid (hm.below hb1)
  clear hm
  have HTW := Lib.hid (hT.below hb1)
  clear hT
  have HB := Lib.hid hb1
  have b0 := Below.refl W1.heap.size W1
  clear hb1
  obtain ⟨xm1, hxm⟩ : ∃ z, (stepO t f m n).getD [] = z := ⟨_, rfl⟩
  obtain ⟨k1, hxk⟩ : ∃ z, (stepO t f m n).isSome = z := ⟨_, rfl⟩
  have HM1 := Lib.hid (show xm1.length + totM xm1 ≤ 1048576 by rw [← hxm]; have := step_small t f m n; omega)
  have HG := Lib.hid hxm; have HT := Lib.hid hxk; clear hxm hxk
  have htt : (k1 != k1) = false := by simp
  go_enter Tryd.func11, Tryd.ntmps11
  go_wp2_with fail
  subst hW
  refine (szR_is t tv 1048576 (by omega) (by omega) _ Ht.out).mono ?_
  rintro e w' ⟨rfl, rfl⟩
  rcases szL_cases (t.length + tot t) (left := 1048576) (by omega) (by omega) with hz | ⟨l1, m1, hn⟩
  · rw [hz]; go_wp2; go_ret; exact ⟨rfl, HB.out⟩
  obtain ⟨s1, hs⟩ : ∃ z, szL (t.length + tot t) 1048576 = z := ⟨_, rfl⟩
  rw [hs] at l1 m1 ⊢
  have HNt := Lib.hid hn; clear hn hs
  go_wp2_with fail
  refine (szM_is f fv s1 l1 m1 _ Hf.out).mono ?_
  rintro e w' ⟨rfl, rfl⟩
  rcases szL_cases (f.length + totM f) (left := s1) l1 m1 with hz | ⟨l2, m2, hn⟩
  · rw [hz]; go_wp2; go_ret; exact ⟨rfl, HB.out⟩
  obtain ⟨s2, hs⟩ : ∃ z, szL (f.length + totM f) s1 = z := ⟨_, rfl⟩
  rw [hs] at l2 m2 ⊢
  have HNf := Lib.hid hn; clear hn hs
  go_wp2_with fail
  refine (szM_is m mv s2 l2 m2 _ Hm.out).mono ?_
  rintro e w' ⟨rfl, rfl⟩
  rcases szL_cases (m.length + totM m) (left := s2) l2 m2 with hz | ⟨l3, m3, hn⟩
  · rw [hz]; go_wp2; go_ret; exact ⟨rfl, HB.out⟩
  obtain ⟨s3, hs⟩ : ∃ z, szL (m.length + totM m) s2 = z := ⟨_, rfl⟩
  rw [hs] at l3 m3 ⊢
  have HNm := Lib.hid hn; clear hn hs
  go_wp2_with fail
  refine (toR_is t tv HNt.out _ (Ht.out.below b0)).mono ?_
  rintro e w1 ⟨x1, rfl, hx1, h1⟩
  have b1 : Below W1.heap.size W1 w1 := Below.trans b0 (h1.mono b0.size)
  have y1 : W1.heap.size ≤ w1.heap.size := h1.size
  have z1 : W1.heap.size ≤ w1.heap.size := b1.size
  have Xt_1 := Lib.hid hx1
  clear hx1
  clear h1
  go_wp2_with fail
  refine (toM_is f fv HNf.out _ (Hf.out.below b1)).mono ?_
  rintro e w2 ⟨x2, rfl, hx2, h2⟩
  have b2 : Below W1.heap.size W1 w2 := Below.trans b1 (h2.mono b1.size)
  have y2 : w1.heap.size ≤ w2.heap.size := h2.size
  have z2 : W1.heap.size ≤ w2.heap.size := b2.size
  have Xt_2 := Lib.hid (Xt_1.out.below h2)
  clear Xt_1
  have Xf_2 := Lib.hid hx2
  clear hx2
  clear h2
  go_wp2_with fail
  refine (toM_is m mv HNm.out _ (Hm.out.below b2)).mono ?_
  rintro e w3 ⟨x3, rfl, hx3, h3⟩
  have b3 : Below W1.heap.size W1 w3 := Below.trans b2 (h3.mono b2.size)
  have y3 : w2.heap.size ≤ w3.heap.size := h3.size
  have z3 : W1.heap.size ≤ w3.heap.size := b3.size
  have Xt_3 := Lib.hid (Xt_2.out.below h3)
  clear Xt_2
  have Xf_3 := Lib.hid (Xf_2.out.below h3)
  clear Xf_2
  have Xm_3 := Lib.hid hx3
  clear hx3
  clear h3
  go_wp2_with fail
  refine (sStepM_is w3 t x1 (Xt_3.out.is) f x2 (Xf_3.out.is) m x3 (Xm_3.out.is) n xm1 k1 HG.out HT.out _ (Below.refl _ _)).mono ?_
  rintro e w4 ⟨wv1, rfl, hr1_4, h4⟩
  have b4 : Below W1.heap.size W1 w4 := Below.trans b3 (h4.mono b3.size)
  have y4 : w3.heap.size ≤ w4.heap.size := h4.size
  have z4 : W1.heap.size ≤ w4.heap.size := b4.size
  have Xt_4 := Lib.hid (Xt_3.out.below h4)
  clear Xt_3
  have Xf_4 := Lib.hid (Xf_3.out.below h4)
  clear Xf_3
  have Xm_4 := Lib.hid (Xm_3.out.below h4)
  clear Xm_3
  have WV1_4 := Lib.hid hr1_4
  clear hr1_4
  clear h4
  clear Xt_4
  clear Xf_4
  clear Xm_4
  go_wp2_with fail
  refine (toR_is t tv HNt.out _ (Ht.out.below b4)).mono ?_
  rintro e w5 ⟨x5, rfl, hx5, h5⟩
  have b5 : Below W1.heap.size W1 w5 := Below.trans b4 (h5.mono b4.size)
  have y5 : w4.heap.size ≤ w5.heap.size := h5.size
  have z5 : W1.heap.size ≤ w5.heap.size := b5.size
  have WV1_5 := Lib.hid (WV1_4.out.below h5)
  clear WV1_4
  have Xt_5 := Lib.hid hx5
  clear hx5
  clear h5
  go_wp2_with fail
  refine (toM_is f fv HNf.out _ (Hf.out.below b5)).mono ?_
  rintro e w6 ⟨x6, rfl, hx6, h6⟩
  have b6 : Below W1.heap.size W1 w6 := Below.trans b5 (h6.mono b5.size)
  have y6 : w5.heap.size ≤ w6.heap.size := h6.size
  have z6 : W1.heap.size ≤ w6.heap.size := b6.size
  have WV1_6 := Lib.hid (WV1_5.out.below h6)
  clear WV1_5
  have Xt_6 := Lib.hid (Xt_5.out.below h6)
  clear Xt_5
  have Xf_6 := Lib.hid hx6
  clear hx6
  clear h6
  go_wp2_with fail
  refine (toM_is m mv HNm.out _ (Hm.out.below b6)).mono ?_
  rintro e w7 ⟨x7, rfl, hx7, h7⟩
  have b7 : Below W1.heap.size W1 w7 := Below.trans b6 (h7.mono b6.size)
  have y7 : w6.heap.size ≤ w7.heap.size := h7.size
  have z7 : W1.heap.size ≤ w7.heap.size := b7.size
  have WV1_7 := Lib.hid (WV1_6.out.below h7)
  clear WV1_6
  have Xt_7 := Lib.hid (Xt_6.out.below h7)
  clear Xt_6
  have Xf_7 := Lib.hid (Xf_6.out.below h7)
  clear Xf_6
  have Xm_7 := Lib.hid hx7
  clear hx7
  clear h7
  go_wp2_with fail
  refine (iStepM_is w7 t x5 (Xt_7.out.is) f x6 (Xf_7.out.is) m x7 (Xm_7.out.is) n xm1 k1 HG.out HT.out _ (Below.refl _ _) (HTW.out.below b7)).mono ?_
  rintro e w8 ⟨gv1, rfl, hr1_8, h8⟩
  have b8 : Below W1.heap.size W1 w8 := Below.trans b7 (h8.mono b7.size)
  have y8 : w7.heap.size ≤ w8.heap.size := h8.size
  have z8 : W1.heap.size ≤ w8.heap.size := b8.size
  have WV1_8 := Lib.hid (WV1_7.out.below h8)
  clear WV1_7
  have Xt_8 := Lib.hid (Xt_7.out.below h8)
  clear Xt_7
  have Xf_8 := Lib.hid (Xf_7.out.below h8)
  clear Xf_7
  have Xm_8 := Lib.hid (Xm_7.out.below h8)
  clear Xm_7
  have GV1_8 := Lib.hid hr1_8
  clear hr1_8
  clear h8
  go_wp2_with fail
  refine (eqM_arg xm1 gv1 wv1 HM1.out _ GV1_8.out.is WV1_8.out.is).mono ?_
  rintro e w9 ⟨rfl, h9⟩
  have b9 : Below W1.heap.size W1 w9 := Below.trans b8 (h9.mono b8.size)
  have y9 : w8.heap.size ≤ w9.heap.size := h9.size
  have z9 : W1.heap.size ≤ w9.heap.size := b9.size
  have WV1_9 := Lib.hid (WV1_8.out.below h9)
  clear WV1_8
  have Xt_9 := Lib.hid (Xt_8.out.below h9)
  clear Xt_8
  have Xf_9 := Lib.hid (Xf_8.out.below h9)
  clear Xf_8
  have Xm_9 := Lib.hid (Xm_8.out.below h9)
  clear Xm_8
  have GV1_9 := Lib.hid (GV1_8.out.below h9)
  clear GV1_8
  clear h9
  go_wp2_with fail
  refine (toR_is t tv HNt.out _ (Ht.out.below b9)).mono ?_
  rintro e w10 ⟨x10, rfl, hx10, h10⟩
  have b10 : Below W1.heap.size W1 w10 := Below.trans b9 (h10.mono b9.size)
  have y10 : w9.heap.size ≤ w10.heap.size := h10.size
  have z10 : W1.heap.size ≤ w10.heap.size := b10.size
  have WV1_10 := Lib.hid (WV1_9.out.below h10)
  clear WV1_9
  have Xt_10 := Lib.hid (Xt_9.out.below h10)
  clear Xt_9
  have Xf_10 := Lib.hid (Xf_9.out.below h10)
  clear Xf_9
  have Xm_10 := Lib.hid (Xm_9.out.below h10)
  clear Xm_9
  have GV1_10 := Lib.hid (GV1_9.out.below h10)
  clear GV1_9
  have Y10 := Lib.hid hx10
  clear hx10
  clear h10
  go_wp2_with fail
  refine (eqR_arg t x5 x10 HNt.out _ Xt_10.out.is Y10.out.is).mono ?_
  rintro e w11 ⟨rfl, h11⟩
  have b11 : Below W1.heap.size W1 w11 := Below.trans b10 (h11.mono b10.size)
  have y11 : w10.heap.size ≤ w11.heap.size := h11.size
  have z11 : W1.heap.size ≤ w11.heap.size := b11.size
  have WV1_11 := Lib.hid (WV1_10.out.below h11)
  clear WV1_10
  have Xt_11 := Lib.hid (Xt_10.out.below h11)
  clear Xt_10
  have Xf_11 := Lib.hid (Xf_10.out.below h11)
  clear Xf_10
  have Xm_11 := Lib.hid (Xm_10.out.below h11)
  clear Xm_10
  have GV1_11 := Lib.hid (GV1_10.out.below h11)
  clear GV1_10
  clear h11
  clear Y10
  go_wp2_with fail
  refine (toM_is f fv HNf.out _ (Hf.out.below b11)).mono ?_
  rintro e w12 ⟨x12, rfl, hx12, h12⟩
  have b12 : Below W1.heap.size W1 w12 := Below.trans b11 (h12.mono b11.size)
  have y12 : w11.heap.size ≤ w12.heap.size := h12.size
  have z12 : W1.heap.size ≤ w12.heap.size := b12.size
  have WV1_12 := Lib.hid (WV1_11.out.below h12)
  clear WV1_11
  have Xt_12 := Lib.hid (Xt_11.out.below h12)
  clear Xt_11
  have Xf_12 := Lib.hid (Xf_11.out.below h12)
  clear Xf_11
  have Xm_12 := Lib.hid (Xm_11.out.below h12)
  clear Xm_11
  have GV1_12 := Lib.hid (GV1_11.out.below h12)
  clear GV1_11
  have Y12 := Lib.hid hx12
  clear hx12
  clear h12
  go_wp2_with fail
  refine (eqM_arg f x6 x12 HNf.out _ Xf_12.out.is Y12.out.is).mono ?_
  rintro e w13 ⟨rfl, h13⟩
  have b13 : Below W1.heap.size W1 w13 := Below.trans b12 (h13.mono b12.size)
  have y13 : w12.heap.size ≤ w13.heap.size := h13.size
  have z13 : W1.heap.size ≤ w13.heap.size := b13.size
  have WV1_13 := Lib.hid (WV1_12.out.below h13)
  clear WV1_12
  have Xt_13 := Lib.hid (Xt_12.out.below h13)
  clear Xt_12
  have Xf_13 := Lib.hid (Xf_12.out.below h13)
  clear Xf_12
  have Xm_13 := Lib.hid (Xm_12.out.below h13)
  clear Xm_12
  have GV1_13 := Lib.hid (GV1_12.out.below h13)
  clear GV1_12
  clear h13
  clear Y12
  go_wp2_with fail
  refine (toM_is m mv HNm.out _ (Hm.out.below b13)).mono ?_
  rintro e w14 ⟨x14, rfl, hx14, h14⟩
  have b14 : Below W1.heap.size W1 w14 := Below.trans b13 (h14.mono b13.size)
  have y14 : w13.heap.size ≤ w14.heap.size := h14.size
  have z14 : W1.heap.size ≤ w14.heap.size := b14.size
  have WV1_14 := Lib.hid (WV1_13.out.below h14)
  clear WV1_13
  have Xt_14 := Lib.hid (Xt_13.out.below h14)
  clear Xt_13
  have Xf_14 := Lib.hid (Xf_13.out.below h14)
  clear Xf_13
  have Xm_14 := Lib.hid (Xm_13.out.below h14)
  clear Xm_13
  have GV1_14 := Lib.hid (GV1_13.out.below h14)
  clear GV1_13
  have Y14 := Lib.hid hx14
  clear hx14
  clear h14
  go_wp2_with fail
  refine (eqM_arg m x7 x14 HNm.out _ Xm_14.out.is Y14.out.is).mono ?_
  rintro e w15 ⟨rfl, h15⟩
  have b15 : Below W1.heap.size W1 w15 := Below.trans b14 (h15.mono b14.size)
  have y15 : w14.heap.size ≤ w15.heap.size := h15.size
  have z15 : W1.heap.size ≤ w15.heap.size := b15.size
  have WV1_15 := Lib.hid (WV1_14.out.below h15)
  clear WV1_14
  have Xt_15 := Lib.hid (Xt_14.out.below h15)
  clear Xt_14
  have Xf_15 := Lib.hid (Xf_14.out.below h15)
  clear Xf_14
  have Xm_15 := Lib.hid (Xm_14.out.below h15)
  clear Xm_14
  have GV1_15 := Lib.hid (GV1_14.out.below h15)
  clear GV1_14
  clear h15
  clear Y14
  go_wp2_with fail
  refine (markR_in 1 (by omega) t x5 w4.heap.size w5.heap.size HNt.out _ Xt_15.out).mono ?_
  rintro e w16 ⟨rfl, hm16, h16⟩
  obtain ⟨K16, hK⟩ : ∃ K1, 1 + tot t = K1 := ⟨_, rfl⟩
  have kb16 : K16 ≤ 4194305 := by have := HNt.out; omega
  rw [hK]
  have HK16 := Lib.hid hK; clear hK
  have b16 : Below W1.heap.size W1 w16 := below_within b15 h16 (by omega)
  have y16 : w15.heap.size ≤ w16.heap.size := h16.2.2.2.1
  have z16 : W1.heap.size ≤ w16.heap.size := b16.size
  have WV1_16 := Lib.hid (WV1_15.out.far h16 (by omega))
  clear WV1_15
  have Xf_16 := Lib.hid (Xf_15.out.far h16 (by omega))
  clear Xf_15
  have Xm_16 := Lib.hid (Xm_15.out.far h16 (by omega))
  clear Xm_15
  have GV1_16 := Lib.hid (GV1_15.out.far h16 (by omega))
  clear GV1_15
  clear Xt_15
  clear hm16 h16
  have pt : ¬ (K16 : Int) < 0 := by omega
  go_wp2_with fail
  refine (markM_inK K16 (by omega) f x6 w5.heap.size w6.heap.size HNf.out _ Xf_16.out).mono ?_
  rintro e w17 ⟨rfl, hm17, h17⟩
  obtain ⟨K17, hK⟩ : ∃ K1, K16 + totM f = K1 := ⟨_, rfl⟩
  have kb17 : K17 ≤ 8388609 := by have := HNf.out; omega
  rw [hK]
  have HK17 := Lib.hid hK; clear hK
  have b17 : Below W1.heap.size W1 w17 := below_within b16 h17 (by omega)
  have y17 : w16.heap.size ≤ w17.heap.size := h17.2.2.2.1
  have z17 : W1.heap.size ≤ w17.heap.size := b17.size
  have WV1_17 := Lib.hid (WV1_16.out.far h17 (by omega))
  clear WV1_16
  have Xm_17 := Lib.hid (Xm_16.out.far h17 (by omega))
  clear Xm_16
  have GV1_17 := Lib.hid (GV1_16.out.far h17 (by omega))
  clear GV1_16
  clear Xf_16
  clear hm17 h17
  have pf : ¬ (K17 : Int) < 0 := by omega
  go_wp2_with fail
  refine (markM_inK K17 (by omega) m x7 w6.heap.size w7.heap.size HNm.out _ Xm_17.out).mono ?_
  rintro e w18 ⟨rfl, hm18, h18⟩
  obtain ⟨K18, hK⟩ : ∃ K1, K17 + totM m = K1 := ⟨_, rfl⟩
  have kb18 : K18 ≤ 12582913 := by have := HNm.out; omega
  rw [hK]
  have HK18 := Lib.hid hK; clear hK
  have b18 : Below W1.heap.size W1 w18 := below_within b17 h18 (by omega)
  have y18 : w17.heap.size ≤ w18.heap.size := h18.2.2.2.1
  have z18 : W1.heap.size ≤ w18.heap.size := b18.size
  have WV1_18 := Lib.hid (WV1_17.out.far h18 (by omega))
  clear WV1_17
  have GV1_18 := Lib.hid (GV1_17.out.far h18 (by omega))
  clear GV1_17
  clear Xm_17
  clear hm18 h18
  have pm : ¬ (K18 : Int) < 0 := by omega
  go_wp2_with fail
  refine (eqM_arg xm1 gv1 wv1 HM1.out _ GV1_18.out.is WV1_18.out.is).mono ?_
  rintro e w19 ⟨rfl, h19⟩
  have b19 : Below W1.heap.size W1 w19 := Below.trans b18 (h19.mono b18.size)
  have y19 : w18.heap.size ≤ w19.heap.size := h19.size
  have z19 : W1.heap.size ≤ w19.heap.size := b19.size
  have WV1_19 := Lib.hid (WV1_18.out.below h19)
  clear WV1_18
  have GV1_19 := Lib.hid (GV1_18.out.below h19)
  clear GV1_18
  clear h19
  go_wp2_with fail
  refine (markM_inK 1 (by omega) xm1 gv1 w7.heap.size w8.heap.size HM1.out _ GV1_19.out).mono ?_
  rintro e w20 ⟨rfl, hm20, h20⟩
  obtain ⟨K20, hK⟩ : ∃ K1, 1 + totM xm1 = K1 := ⟨_, rfl⟩
  have kb20 : K20 ≤ 4194305 := by have := HM1.out; omega
  rw [hK]
  have HK20 := Lib.hid hK; clear hK
  have b20 : Below W1.heap.size W1 w20 := below_within b19 h20 (by omega)
  have y20 : w19.heap.size ≤ w20.heap.size := h20.2.2.2.1
  have z20 : W1.heap.size ≤ w20.heap.size := b20.size
  have WV1_20 := Lib.hid (WV1_19.out.far h20 (by omega))
  clear WV1_19
  clear GV1_19
  have GV1_20 := Lib.hid hm20
  clear hm20 h20
  have q0 : ¬ (K20 : Int) < 0 := by omega
  go_wp2_with fail
  refine (heldM_res 1 (by omega) xm1 HM1.out gv1 _ GV1_20.out.is).mono ?_
  rintro e w' ⟨rfl, rfl⟩
  rw [HK20.out]
  go_wp2_with fail
  refine (toR_is t tv HNt.out _ (Ht.out.below b20)).mono ?_
  rintro e w21 ⟨x21, rfl, hx21, h21⟩
  have b21 : Below W1.heap.size W1 w21 := Below.trans b20 (h21.mono b20.size)
  have y21 : w20.heap.size ≤ w21.heap.size := h21.size
  have z21 : W1.heap.size ≤ w21.heap.size := b21.size
  have WV1_21 := Lib.hid (WV1_20.out.below h21)
  clear WV1_20
  have GV1_21 := Lib.hid (GV1_20.out.below h21)
  clear GV1_20
  have Xt_21 := Lib.hid hx21
  clear hx21
  clear h21
  go_wp2_with fail
  refine (toM_is f fv HNf.out _ (Hf.out.below b21)).mono ?_
  rintro e w22 ⟨x22, rfl, hx22, h22⟩
  have b22 : Below W1.heap.size W1 w22 := Below.trans b21 (h22.mono b21.size)
  have y22 : w21.heap.size ≤ w22.heap.size := h22.size
  have z22 : W1.heap.size ≤ w22.heap.size := b22.size
  have WV1_22 := Lib.hid (WV1_21.out.below h22)
  clear WV1_21
  have GV1_22 := Lib.hid (GV1_21.out.below h22)
  clear GV1_21
  have Xt_22 := Lib.hid (Xt_21.out.below h22)
  clear Xt_21
  have Xf_22 := Lib.hid hx22
  clear hx22
  clear h22
  go_wp2_with fail
  refine (toM_is m mv HNm.out _ (Hm.out.below b22)).mono ?_
  rintro e w23 ⟨x23, rfl, hx23, h23⟩
  have b23 : Below W1.heap.size W1 w23 := Below.trans b22 (h23.mono b22.size)
  have y23 : w22.heap.size ≤ w23.heap.size := h23.size
  have z23 : W1.heap.size ≤ w23.heap.size := b23.size
  have WV1_23 := Lib.hid (WV1_22.out.below h23)
  clear WV1_22
  have GV1_23 := Lib.hid (GV1_22.out.below h23)
  clear GV1_22
  have Xt_23 := Lib.hid (Xt_22.out.below h23)
  clear Xt_22
  have Xf_23 := Lib.hid (Xf_22.out.below h23)
  clear Xf_22
  have Xm_23 := Lib.hid hx23
  clear hx23
  clear h23
  go_wp2_with fail
  refine (iStepM_is w23 t x21 (Xt_23.out.is) f x22 (Xf_23.out.is) m x23 (Xm_23.out.is) n xm1 k1 HG.out HT.out _ (Below.refl _ _) (HTW.out.below b23)).mono ?_
  rintro e w24 ⟨hv1, rfl, hr1_24, h24⟩
  have b24 : Below W1.heap.size W1 w24 := Below.trans b23 (h24.mono b23.size)
  have y24 : w23.heap.size ≤ w24.heap.size := h24.size
  have z24 : W1.heap.size ≤ w24.heap.size := b24.size
  have WV1_24 := Lib.hid (WV1_23.out.below h24)
  clear WV1_23
  have GV1_24 := Lib.hid (GV1_23.out.below h24)
  clear GV1_23
  have Xt_24 := Lib.hid (Xt_23.out.below h24)
  clear Xt_23
  have Xf_24 := Lib.hid (Xf_23.out.below h24)
  clear Xf_23
  have Xm_24 := Lib.hid (Xm_23.out.below h24)
  clear Xm_23
  have HV1_24 := Lib.hid hr1_24
  clear hr1_24
  clear h24
  clear Xt_24
  clear Xf_24
  clear Xm_24
  go_wp2_with fail
  refine (eqM_arg xm1 hv1 wv1 HM1.out _ HV1_24.out.is WV1_24.out.is).mono ?_
  rintro e w25 ⟨rfl, h25⟩
  have b25 : Below W1.heap.size W1 w25 := Below.trans b24 (h25.mono b24.size)
  have y25 : w24.heap.size ≤ w25.heap.size := h25.size
  have z25 : W1.heap.size ≤ w25.heap.size := b25.size
  have WV1_25 := Lib.hid (WV1_24.out.below h25)
  clear WV1_24
  have GV1_25 := Lib.hid (GV1_24.out.below h25)
  clear GV1_24
  have HV1_25 := Lib.hid (HV1_24.out.below h25)
  clear HV1_24
  clear h25
  go_wp2_with fail
  refine (heldM_res 1 (by omega) xm1 HM1.out gv1 _ GV1_25.out.is).mono ?_
  rintro e w' ⟨rfl, rfl⟩
  rw [HK20.out]
  go_wp2
  go_ret
  exact ⟨by first | rfl | exact retb (by simp), HB.out.trans (b25.mono HB.out.size)⟩
set_option maxHeartbeats 4000000 in
theorem w_ExactPatternGrow (t : List (List Int)) (tv : Value) (f : Mk) (fv : Value) (n : Int) (W : World) (ht : IsR W tv t) (hf : IsM W fv f) (hT : TabW W) :
    Calls Tryd.prog 12 #[tv, fv, .int .i64 n] W fun e w' => e = .returned (.bool true) ∧ Below W.heap.size W w' := by
  obtain ⟨W1, hW⟩ : ∃ W1, W1 = W := ⟨_, rfl⟩
  have hb1 : Below W.heap.size W W1 := by rw [hW]; exact (Below.refl _ _)
  have Ht := Lib.hid (ht.below hb1)
  clear ht
  have Hf := Lib.hid (hf.below hb1)
  clear hf
  have HTW := Lib.hid (hT.below hb1)
  clear hT
  have HB := Lib.hid hb1
  have b0 := Below.refl W1.heap.size W1
  clear hb1
  obtain ⟨xm1, hxm⟩ : ∃ z, (growO t f n).getD [] = z := ⟨_, rfl⟩
  obtain ⟨k1, hxk⟩ : ∃ z, (growO t f n).isSome = z := ⟨_, rfl⟩
  have HM1 := Lib.hid (show xm1.length + totM xm1 ≤ 1048576 by rw [← hxm]; have := grow_small t f n; omega)
  have HG := Lib.hid hxm; have HT := Lib.hid hxk; clear hxm hxk
  have htt : (k1 != k1) = false := by simp
  go_enter Tryd.func12, Tryd.ntmps12
  go_wp2_with fail
  subst hW
  refine (szR_is t tv 1048576 (by omega) (by omega) _ Ht.out).mono ?_
  rintro e w' ⟨rfl, rfl⟩
  rcases szL_cases (t.length + tot t) (left := 1048576) (by omega) (by omega) with hz | ⟨l1, m1, hn⟩
  · rw [hz]; go_wp2; go_ret; exact ⟨rfl, HB.out⟩
  obtain ⟨s1, hs⟩ : ∃ z, szL (t.length + tot t) 1048576 = z := ⟨_, rfl⟩
  rw [hs] at l1 m1 ⊢
  have HNt := Lib.hid hn; clear hn hs
  go_wp2_with fail
  refine (szM_is f fv s1 l1 m1 _ Hf.out).mono ?_
  rintro e w' ⟨rfl, rfl⟩
  rcases szL_cases (f.length + totM f) (left := s1) l1 m1 with hz | ⟨l2, m2, hn⟩
  · rw [hz]; go_wp2; go_ret; exact ⟨rfl, HB.out⟩
  obtain ⟨s2, hs⟩ : ∃ z, szL (f.length + totM f) s1 = z := ⟨_, rfl⟩
  rw [hs] at l2 m2 ⊢
  have HNf := Lib.hid hn; clear hn hs
  go_wp2_with fail
  refine (toR_is t tv HNt.out _ (Ht.out.below b0)).mono ?_
  rintro e w1 ⟨x1, rfl, hx1, h1⟩
  have b1 : Below W1.heap.size W1 w1 := Below.trans b0 (h1.mono b0.size)
  have y1 : W1.heap.size ≤ w1.heap.size := h1.size
  have z1 : W1.heap.size ≤ w1.heap.size := b1.size
  have Xt_1 := Lib.hid hx1
  clear hx1
  clear h1
  go_wp2_with fail
  refine (toM_is f fv HNf.out _ (Hf.out.below b1)).mono ?_
  rintro e w2 ⟨x2, rfl, hx2, h2⟩
  have b2 : Below W1.heap.size W1 w2 := Below.trans b1 (h2.mono b1.size)
  have y2 : w1.heap.size ≤ w2.heap.size := h2.size
  have z2 : W1.heap.size ≤ w2.heap.size := b2.size
  have Xt_2 := Lib.hid (Xt_1.out.below h2)
  clear Xt_1
  have Xf_2 := Lib.hid hx2
  clear hx2
  clear h2
  go_wp2_with fail
  refine (sGrowM_is w2 t x1 (Xt_2.out.is) f x2 (Xf_2.out.is) n xm1 k1 HG.out HT.out _ (Below.refl _ _)).mono ?_
  rintro e w3 ⟨wv1, rfl, hr1_3, h3⟩
  have b3 : Below W1.heap.size W1 w3 := Below.trans b2 (h3.mono b2.size)
  have y3 : w2.heap.size ≤ w3.heap.size := h3.size
  have z3 : W1.heap.size ≤ w3.heap.size := b3.size
  have Xt_3 := Lib.hid (Xt_2.out.below h3)
  clear Xt_2
  have Xf_3 := Lib.hid (Xf_2.out.below h3)
  clear Xf_2
  have WV1_3 := Lib.hid hr1_3
  clear hr1_3
  clear h3
  clear Xt_3
  clear Xf_3
  go_wp2_with fail
  refine (toR_is t tv HNt.out _ (Ht.out.below b3)).mono ?_
  rintro e w4 ⟨x4, rfl, hx4, h4⟩
  have b4 : Below W1.heap.size W1 w4 := Below.trans b3 (h4.mono b3.size)
  have y4 : w3.heap.size ≤ w4.heap.size := h4.size
  have z4 : W1.heap.size ≤ w4.heap.size := b4.size
  have WV1_4 := Lib.hid (WV1_3.out.below h4)
  clear WV1_3
  have Xt_4 := Lib.hid hx4
  clear hx4
  clear h4
  go_wp2_with fail
  refine (toM_is f fv HNf.out _ (Hf.out.below b4)).mono ?_
  rintro e w5 ⟨x5, rfl, hx5, h5⟩
  have b5 : Below W1.heap.size W1 w5 := Below.trans b4 (h5.mono b4.size)
  have y5 : w4.heap.size ≤ w5.heap.size := h5.size
  have z5 : W1.heap.size ≤ w5.heap.size := b5.size
  have WV1_5 := Lib.hid (WV1_4.out.below h5)
  clear WV1_4
  have Xt_5 := Lib.hid (Xt_4.out.below h5)
  clear Xt_4
  have Xf_5 := Lib.hid hx5
  clear hx5
  clear h5
  go_wp2_with fail
  refine (iGrowM_is w5 t x4 (Xt_5.out.is) f x5 (Xf_5.out.is) n xm1 k1 HG.out HT.out _ (Below.refl _ _) (HTW.out.below b5)).mono ?_
  rintro e w6 ⟨gv1, rfl, hr1_6, h6⟩
  have b6 : Below W1.heap.size W1 w6 := Below.trans b5 (h6.mono b5.size)
  have y6 : w5.heap.size ≤ w6.heap.size := h6.size
  have z6 : W1.heap.size ≤ w6.heap.size := b6.size
  have WV1_6 := Lib.hid (WV1_5.out.below h6)
  clear WV1_5
  have Xt_6 := Lib.hid (Xt_5.out.below h6)
  clear Xt_5
  have Xf_6 := Lib.hid (Xf_5.out.below h6)
  clear Xf_5
  have GV1_6 := Lib.hid hr1_6
  clear hr1_6
  clear h6
  go_wp2_with fail
  refine (eqM_arg xm1 gv1 wv1 HM1.out _ GV1_6.out.is WV1_6.out.is).mono ?_
  rintro e w7 ⟨rfl, h7⟩
  have b7 : Below W1.heap.size W1 w7 := Below.trans b6 (h7.mono b6.size)
  have y7 : w6.heap.size ≤ w7.heap.size := h7.size
  have z7 : W1.heap.size ≤ w7.heap.size := b7.size
  have WV1_7 := Lib.hid (WV1_6.out.below h7)
  clear WV1_6
  have Xt_7 := Lib.hid (Xt_6.out.below h7)
  clear Xt_6
  have Xf_7 := Lib.hid (Xf_6.out.below h7)
  clear Xf_6
  have GV1_7 := Lib.hid (GV1_6.out.below h7)
  clear GV1_6
  clear h7
  go_wp2_with fail
  refine (toR_is t tv HNt.out _ (Ht.out.below b7)).mono ?_
  rintro e w8 ⟨x8, rfl, hx8, h8⟩
  have b8 : Below W1.heap.size W1 w8 := Below.trans b7 (h8.mono b7.size)
  have y8 : w7.heap.size ≤ w8.heap.size := h8.size
  have z8 : W1.heap.size ≤ w8.heap.size := b8.size
  have WV1_8 := Lib.hid (WV1_7.out.below h8)
  clear WV1_7
  have Xt_8 := Lib.hid (Xt_7.out.below h8)
  clear Xt_7
  have Xf_8 := Lib.hid (Xf_7.out.below h8)
  clear Xf_7
  have GV1_8 := Lib.hid (GV1_7.out.below h8)
  clear GV1_7
  have Y8 := Lib.hid hx8
  clear hx8
  clear h8
  go_wp2_with fail
  refine (eqR_arg t x4 x8 HNt.out _ Xt_8.out.is Y8.out.is).mono ?_
  rintro e w9 ⟨rfl, h9⟩
  have b9 : Below W1.heap.size W1 w9 := Below.trans b8 (h9.mono b8.size)
  have y9 : w8.heap.size ≤ w9.heap.size := h9.size
  have z9 : W1.heap.size ≤ w9.heap.size := b9.size
  have WV1_9 := Lib.hid (WV1_8.out.below h9)
  clear WV1_8
  have Xt_9 := Lib.hid (Xt_8.out.below h9)
  clear Xt_8
  have Xf_9 := Lib.hid (Xf_8.out.below h9)
  clear Xf_8
  have GV1_9 := Lib.hid (GV1_8.out.below h9)
  clear GV1_8
  clear h9
  clear Y8
  go_wp2_with fail
  refine (toM_is f fv HNf.out _ (Hf.out.below b9)).mono ?_
  rintro e w10 ⟨x10, rfl, hx10, h10⟩
  have b10 : Below W1.heap.size W1 w10 := Below.trans b9 (h10.mono b9.size)
  have y10 : w9.heap.size ≤ w10.heap.size := h10.size
  have z10 : W1.heap.size ≤ w10.heap.size := b10.size
  have WV1_10 := Lib.hid (WV1_9.out.below h10)
  clear WV1_9
  have Xt_10 := Lib.hid (Xt_9.out.below h10)
  clear Xt_9
  have Xf_10 := Lib.hid (Xf_9.out.below h10)
  clear Xf_9
  have GV1_10 := Lib.hid (GV1_9.out.below h10)
  clear GV1_9
  have Y10 := Lib.hid hx10
  clear hx10
  clear h10
  go_wp2_with fail
  refine (eqM_arg f x5 x10 HNf.out _ Xf_10.out.is Y10.out.is).mono ?_
  rintro e w11 ⟨rfl, h11⟩
  have b11 : Below W1.heap.size W1 w11 := Below.trans b10 (h11.mono b10.size)
  have y11 : w10.heap.size ≤ w11.heap.size := h11.size
  have z11 : W1.heap.size ≤ w11.heap.size := b11.size
  have WV1_11 := Lib.hid (WV1_10.out.below h11)
  clear WV1_10
  have Xt_11 := Lib.hid (Xt_10.out.below h11)
  clear Xt_10
  have Xf_11 := Lib.hid (Xf_10.out.below h11)
  clear Xf_10
  have GV1_11 := Lib.hid (GV1_10.out.below h11)
  clear GV1_10
  clear h11
  clear Y10
  go_wp2_with fail
  refine (markR_in 1 (by omega) t x4 w3.heap.size w4.heap.size HNt.out _ Xt_11.out).mono ?_
  rintro e w12 ⟨rfl, hm12, h12⟩
  obtain ⟨K12, hK⟩ : ∃ K1, 1 + tot t = K1 := ⟨_, rfl⟩
  have kb12 : K12 ≤ 4194305 := by have := HNt.out; omega
  rw [hK]
  have HK12 := Lib.hid hK; clear hK
  have b12 : Below W1.heap.size W1 w12 := below_within b11 h12 (by omega)
  have y12 : w11.heap.size ≤ w12.heap.size := h12.2.2.2.1
  have z12 : W1.heap.size ≤ w12.heap.size := b12.size
  have WV1_12 := Lib.hid (WV1_11.out.far h12 (by omega))
  clear WV1_11
  have Xf_12 := Lib.hid (Xf_11.out.far h12 (by omega))
  clear Xf_11
  have GV1_12 := Lib.hid (GV1_11.out.far h12 (by omega))
  clear GV1_11
  clear Xt_11
  clear hm12 h12
  have pt : ¬ (K12 : Int) < 0 := by omega
  go_wp2_with fail
  refine (markM_inK K12 (by omega) f x5 w4.heap.size w5.heap.size HNf.out _ Xf_12.out).mono ?_
  rintro e w13 ⟨rfl, hm13, h13⟩
  obtain ⟨K13, hK⟩ : ∃ K1, K12 + totM f = K1 := ⟨_, rfl⟩
  have kb13 : K13 ≤ 8388609 := by have := HNf.out; omega
  rw [hK]
  have HK13 := Lib.hid hK; clear hK
  have b13 : Below W1.heap.size W1 w13 := below_within b12 h13 (by omega)
  have y13 : w12.heap.size ≤ w13.heap.size := h13.2.2.2.1
  have z13 : W1.heap.size ≤ w13.heap.size := b13.size
  have WV1_13 := Lib.hid (WV1_12.out.far h13 (by omega))
  clear WV1_12
  have GV1_13 := Lib.hid (GV1_12.out.far h13 (by omega))
  clear GV1_12
  clear Xf_12
  clear hm13 h13
  have pf : ¬ (K13 : Int) < 0 := by omega
  go_wp2_with fail
  refine (eqM_arg xm1 gv1 wv1 HM1.out _ GV1_13.out.is WV1_13.out.is).mono ?_
  rintro e w14 ⟨rfl, h14⟩
  have b14 : Below W1.heap.size W1 w14 := Below.trans b13 (h14.mono b13.size)
  have y14 : w13.heap.size ≤ w14.heap.size := h14.size
  have z14 : W1.heap.size ≤ w14.heap.size := b14.size
  have WV1_14 := Lib.hid (WV1_13.out.below h14)
  clear WV1_13
  have GV1_14 := Lib.hid (GV1_13.out.below h14)
  clear GV1_13
  clear h14
  go_wp2_with fail
  refine (markM_inK 1 (by omega) xm1 gv1 w5.heap.size w6.heap.size HM1.out _ GV1_14.out).mono ?_
  rintro e w15 ⟨rfl, hm15, h15⟩
  obtain ⟨K15, hK⟩ : ∃ K1, 1 + totM xm1 = K1 := ⟨_, rfl⟩
  have kb15 : K15 ≤ 4194305 := by have := HM1.out; omega
  rw [hK]
  have HK15 := Lib.hid hK; clear hK
  have b15 : Below W1.heap.size W1 w15 := below_within b14 h15 (by omega)
  have y15 : w14.heap.size ≤ w15.heap.size := h15.2.2.2.1
  have z15 : W1.heap.size ≤ w15.heap.size := b15.size
  have WV1_15 := Lib.hid (WV1_14.out.far h15 (by omega))
  clear WV1_14
  clear GV1_14
  have GV1_15 := Lib.hid hm15
  clear hm15 h15
  have q0 : ¬ (K15 : Int) < 0 := by omega
  go_wp2_with fail
  refine (heldM_res 1 (by omega) xm1 HM1.out gv1 _ GV1_15.out.is).mono ?_
  rintro e w' ⟨rfl, rfl⟩
  rw [HK15.out]
  go_wp2_with fail
  refine (toR_is t tv HNt.out _ (Ht.out.below b15)).mono ?_
  rintro e w16 ⟨x16, rfl, hx16, h16⟩
  have b16 : Below W1.heap.size W1 w16 := Below.trans b15 (h16.mono b15.size)
  have y16 : w15.heap.size ≤ w16.heap.size := h16.size
  have z16 : W1.heap.size ≤ w16.heap.size := b16.size
  have WV1_16 := Lib.hid (WV1_15.out.below h16)
  clear WV1_15
  have GV1_16 := Lib.hid (GV1_15.out.below h16)
  clear GV1_15
  have Xt_16 := Lib.hid hx16
  clear hx16
  clear h16
  go_wp2_with fail
  refine (toM_is f fv HNf.out _ (Hf.out.below b16)).mono ?_
  rintro e w17 ⟨x17, rfl, hx17, h17⟩
  have b17 : Below W1.heap.size W1 w17 := Below.trans b16 (h17.mono b16.size)
  have y17 : w16.heap.size ≤ w17.heap.size := h17.size
  have z17 : W1.heap.size ≤ w17.heap.size := b17.size
  have WV1_17 := Lib.hid (WV1_16.out.below h17)
  clear WV1_16
  have GV1_17 := Lib.hid (GV1_16.out.below h17)
  clear GV1_16
  have Xt_17 := Lib.hid (Xt_16.out.below h17)
  clear Xt_16
  have Xf_17 := Lib.hid hx17
  clear hx17
  clear h17
  go_wp2_with fail
  refine (iGrowM_is w17 t x16 (Xt_17.out.is) f x17 (Xf_17.out.is) n xm1 k1 HG.out HT.out _ (Below.refl _ _) (HTW.out.below b17)).mono ?_
  rintro e w18 ⟨hv1, rfl, hr1_18, h18⟩
  have b18 : Below W1.heap.size W1 w18 := Below.trans b17 (h18.mono b17.size)
  have y18 : w17.heap.size ≤ w18.heap.size := h18.size
  have z18 : W1.heap.size ≤ w18.heap.size := b18.size
  have WV1_18 := Lib.hid (WV1_17.out.below h18)
  clear WV1_17
  have GV1_18 := Lib.hid (GV1_17.out.below h18)
  clear GV1_17
  have Xt_18 := Lib.hid (Xt_17.out.below h18)
  clear Xt_17
  have Xf_18 := Lib.hid (Xf_17.out.below h18)
  clear Xf_17
  have HV1_18 := Lib.hid hr1_18
  clear hr1_18
  clear h18
  clear Xt_18
  clear Xf_18
  go_wp2_with fail
  refine (eqM_arg xm1 hv1 wv1 HM1.out _ HV1_18.out.is WV1_18.out.is).mono ?_
  rintro e w19 ⟨rfl, h19⟩
  have b19 : Below W1.heap.size W1 w19 := Below.trans b18 (h19.mono b18.size)
  have y19 : w18.heap.size ≤ w19.heap.size := h19.size
  have z19 : W1.heap.size ≤ w19.heap.size := b19.size
  have WV1_19 := Lib.hid (WV1_18.out.below h19)
  clear WV1_18
  have GV1_19 := Lib.hid (GV1_18.out.below h19)
  clear GV1_18
  have HV1_19 := Lib.hid (HV1_18.out.below h19)
  clear HV1_18
  clear h19
  go_wp2_with fail
  refine (heldM_res 1 (by omega) xm1 HM1.out gv1 _ GV1_19.out.is).mono ?_
  rintro e w' ⟨rfl, rfl⟩
  rw [HK15.out]
  go_wp2
  go_ret
  exact ⟨by first | rfl | exact retb (by simp), HB.out.trans (b19.mono HB.out.size)⟩
end Go.Proofs.YtobgceebolmfcaaDoor
