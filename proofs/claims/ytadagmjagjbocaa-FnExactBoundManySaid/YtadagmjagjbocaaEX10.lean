/- Exact laws of chapter 13. -/
import Derived.Test.YtadagmjagjbocaaIVB
import Derived.Test.YtadagmjagjbocaaIV11
import Derived.Test.YtadagmjagjbocaaIV12
import Derived.Test.YtadagmjagjbocaaSB5
import Derived.Test.YtadagmjagjbocaaSB6
import Derived.Test.YtadagmjagjbocaaXM
import Derived.Deep.RegionHeld3
namespace Go.Proofs.Ytadagmjagjbocaa
open Go.RowKit
set_option maxHeartbeats 2000000 in
theorem w_ExactFitTables (t : List (List Int)) (tv : Value) (m : Mk) (mv : Value) (x : List (List Int)) (xv : Value) (W : World) (ht : IsR W tv t) (hm : IsM W mv m) (hx : IsR W xv x) :
    Calls Try.prog 3 #[tv, mv, xv] W fun e w' => e = .returned (.bool true) ∧ Below W.heap.size W w' := by
  obtain ⟨W1, hW⟩ : ∃ W1, W1 = W := ⟨_, rfl⟩
  have hb1 : Below W.heap.size W W1 := by rw [hW]; exact (Below.refl _ _)
  have Ht := Lib.hid (ht.below hb1)
  clear ht
  have Hm := Lib.hid (hm.below hb1)
  clear hm
  have Hx := Lib.hid (hx.below hb1)
  clear hx
  have HB := Lib.hid hb1
  have b0 := Below.refl W1.heap.size W1
  clear hb1
  go_enter Try.func3, Try.ntmps3
  go_wp2_with fail
  subst hW
  refine (szR_is t tv 1048576 (by omega) (by omega) _ Ht.out).mono ?_
  rintro e w' ⟨rfl, rfl⟩
  rcases szL_cases (t.length + tot t) (left := 1048576) (by omega) (by omega) with hz | ⟨l1, m1, hn⟩
  · rw [hz]; go_wp2; go_ret; exact ⟨rfl, HB.out⟩
  obtain ⟨s1, hs⟩ : ∃ z, szL (t.length + tot t) 1048576 = z := ⟨_, rfl⟩
  rw [hs] at l1 m1 ⊢
  have HNt := Lib.hid hn; clear hn hs
  go_wp2_with fail
  refine (szM_is m mv s1 l1 m1 _ Hm.out).mono ?_
  rintro e w' ⟨rfl, rfl⟩
  rcases szL_cases (m.length + totM m) (left := s1) l1 m1 with hz | ⟨l2, m2, hn⟩
  · rw [hz]; go_wp2; go_ret; exact ⟨rfl, HB.out⟩
  obtain ⟨s2, hs⟩ : ∃ z, szL (m.length + totM m) s1 = z := ⟨_, rfl⟩
  rw [hs] at l2 m2 ⊢
  have HNm := Lib.hid hn; clear hn hs
  go_wp2_with fail
  refine (szR_is x xv s2 l2 m2 _ Hx.out).mono ?_
  rintro e w' ⟨rfl, rfl⟩
  rcases szL_cases (x.length + tot x) (left := s2) l2 m2 with hz | ⟨l3, m3, hn⟩
  · rw [hz]; go_wp2; go_ret; exact ⟨rfl, HB.out⟩
  obtain ⟨s3, hs⟩ : ∃ z, szL (x.length + tot x) s2 = z := ⟨_, rfl⟩
  rw [hs] at l3 m3 ⊢
  have HNx := Lib.hid hn; clear hn hs
  go_wp2_with fail
  refine (toR_is t tv HNt.out _ (Ht.out.below b0)).mono ?_
  rintro e w1 ⟨x1, rfl, hx1, h1⟩
  have b1 : Below W1.heap.size W1 w1 := Below.trans b0 (h1.mono b0.size)
  have y1 : W1.heap.size ≤ w1.heap.size := h1.size
  have z1 : W1.heap.size ≤ w1.heap.size := b1.size
  have Xt_1 := Lib.hid hx1
  clear hx1
  clear h1
  go_wp2_with fail
  refine (toM_is m mv HNm.out _ (Hm.out.below b1)).mono ?_
  rintro e w2 ⟨x2, rfl, hx2, h2⟩
  have b2 : Below W1.heap.size W1 w2 := Below.trans b1 (h2.mono b1.size)
  have y2 : w1.heap.size ≤ w2.heap.size := h2.size
  have z2 : W1.heap.size ≤ w2.heap.size := b2.size
  have Xt_2 := Lib.hid (Xt_1.out.below h2)
  clear Xt_1
  have Xm_2 := Lib.hid hx2
  clear hx2
  clear h2
  go_wp2_with fail
  refine (toR_is x xv HNx.out _ (Hx.out.below b2)).mono ?_
  rintro e w3 ⟨x3, rfl, hx3, h3⟩
  have b3 : Below W1.heap.size W1 w3 := Below.trans b2 (h3.mono b2.size)
  have y3 : w2.heap.size ≤ w3.heap.size := h3.size
  have z3 : W1.heap.size ≤ w3.heap.size := b3.size
  have Xt_3 := Lib.hid (Xt_2.out.below h3)
  clear Xt_2
  have Xm_3 := Lib.hid (Xm_2.out.below h3)
  clear Xm_2
  have Xx_3 := Lib.hid hx3
  clear hx3
  clear h3
  go_wp2_with fail
  refine (sFit_is w3 t x1 (Xt_3.out.is) m x2 (Xm_3.out.is) x x3 (Xx_3.out.is) _ rfl _ (Below.refl _ _)).mono ?_
  rintro e w4 ⟨rfl, h4⟩
  have b4 : Below W1.heap.size W1 w4 := Below.trans b3 (h4.mono b3.size)
  have y4 : w3.heap.size ≤ w4.heap.size := h4.size
  have z4 : W1.heap.size ≤ w4.heap.size := b4.size
  have Xt_4 := Lib.hid (Xt_3.out.below h4)
  clear Xt_3
  have Xm_4 := Lib.hid (Xm_3.out.below h4)
  clear Xm_3
  have Xx_4 := Lib.hid (Xx_3.out.below h4)
  clear Xx_3
  clear h4
  clear Xt_4
  clear Xm_4
  clear Xx_4
  go_wp2_with fail
  refine (toR_is t tv HNt.out _ (Ht.out.below b4)).mono ?_
  rintro e w5 ⟨x5, rfl, hx5, h5⟩
  have b5 : Below W1.heap.size W1 w5 := Below.trans b4 (h5.mono b4.size)
  have y5 : w4.heap.size ≤ w5.heap.size := h5.size
  have z5 : W1.heap.size ≤ w5.heap.size := b5.size
  have Xt_5 := Lib.hid hx5
  clear hx5
  clear h5
  go_wp2_with fail
  refine (toM_is m mv HNm.out _ (Hm.out.below b5)).mono ?_
  rintro e w6 ⟨x6, rfl, hx6, h6⟩
  have b6 : Below W1.heap.size W1 w6 := Below.trans b5 (h6.mono b5.size)
  have y6 : w5.heap.size ≤ w6.heap.size := h6.size
  have z6 : W1.heap.size ≤ w6.heap.size := b6.size
  have Xt_6 := Lib.hid (Xt_5.out.below h6)
  clear Xt_5
  have Xm_6 := Lib.hid hx6
  clear hx6
  clear h6
  go_wp2_with fail
  refine (toR_is x xv HNx.out _ (Hx.out.below b6)).mono ?_
  rintro e w7 ⟨x7, rfl, hx7, h7⟩
  have b7 : Below W1.heap.size W1 w7 := Below.trans b6 (h7.mono b6.size)
  have y7 : w6.heap.size ≤ w7.heap.size := h7.size
  have z7 : W1.heap.size ≤ w7.heap.size := b7.size
  have Xt_7 := Lib.hid (Xt_6.out.below h7)
  clear Xt_6
  have Xm_7 := Lib.hid (Xm_6.out.below h7)
  clear Xm_6
  have Xx_7 := Lib.hid hx7
  clear hx7
  clear h7
  go_wp2_with fail
  refine (iFit_is w7 t x5 (Xt_7.out.is) m x6 (Xm_7.out.is) x x7 (Xx_7.out.is) _ rfl _ (Below.refl _ _)).mono ?_
  rintro e w8 ⟨rfl, h8⟩
  have b8 : Below W1.heap.size W1 w8 := Below.trans b7 (h8.mono b7.size)
  have y8 : w7.heap.size ≤ w8.heap.size := h8.size
  have z8 : W1.heap.size ≤ w8.heap.size := b8.size
  have Xt_8 := Lib.hid (Xt_7.out.below h8)
  clear Xt_7
  have Xm_8 := Lib.hid (Xm_7.out.below h8)
  clear Xm_7
  have Xx_8 := Lib.hid (Xx_7.out.below h8)
  clear Xx_7
  clear h8
  go_wp2_with fail
  refine (toR_is t tv HNt.out _ (Ht.out.below b8)).mono ?_
  rintro e w9 ⟨x9, rfl, hx9, h9⟩
  have b9 : Below W1.heap.size W1 w9 := Below.trans b8 (h9.mono b8.size)
  have y9 : w8.heap.size ≤ w9.heap.size := h9.size
  have z9 : W1.heap.size ≤ w9.heap.size := b9.size
  have Xt_9 := Lib.hid (Xt_8.out.below h9)
  clear Xt_8
  have Xm_9 := Lib.hid (Xm_8.out.below h9)
  clear Xm_8
  have Xx_9 := Lib.hid (Xx_8.out.below h9)
  clear Xx_8
  have Y9 := Lib.hid hx9
  clear hx9
  clear h9
  go_wp2_with fail
  refine (eqR_arg t x5 x9 HNt.out _ Xt_9.out.is Y9.out.is).mono ?_
  rintro e w10 ⟨rfl, h10⟩
  have b10 : Below W1.heap.size W1 w10 := Below.trans b9 (h10.mono b9.size)
  have y10 : w9.heap.size ≤ w10.heap.size := h10.size
  have z10 : W1.heap.size ≤ w10.heap.size := b10.size
  have Xt_10 := Lib.hid (Xt_9.out.below h10)
  clear Xt_9
  have Xm_10 := Lib.hid (Xm_9.out.below h10)
  clear Xm_9
  have Xx_10 := Lib.hid (Xx_9.out.below h10)
  clear Xx_9
  clear h10
  clear Y9
  go_wp2_with fail
  refine (toM_is m mv HNm.out _ (Hm.out.below b10)).mono ?_
  rintro e w11 ⟨x11, rfl, hx11, h11⟩
  have b11 : Below W1.heap.size W1 w11 := Below.trans b10 (h11.mono b10.size)
  have y11 : w10.heap.size ≤ w11.heap.size := h11.size
  have z11 : W1.heap.size ≤ w11.heap.size := b11.size
  have Xt_11 := Lib.hid (Xt_10.out.below h11)
  clear Xt_10
  have Xm_11 := Lib.hid (Xm_10.out.below h11)
  clear Xm_10
  have Xx_11 := Lib.hid (Xx_10.out.below h11)
  clear Xx_10
  have Y11 := Lib.hid hx11
  clear hx11
  clear h11
  go_wp2_with fail
  refine (eqM_arg m x6 x11 HNm.out _ Xm_11.out.is Y11.out.is).mono ?_
  rintro e w12 ⟨rfl, h12⟩
  have b12 : Below W1.heap.size W1 w12 := Below.trans b11 (h12.mono b11.size)
  have y12 : w11.heap.size ≤ w12.heap.size := h12.size
  have z12 : W1.heap.size ≤ w12.heap.size := b12.size
  have Xt_12 := Lib.hid (Xt_11.out.below h12)
  clear Xt_11
  have Xm_12 := Lib.hid (Xm_11.out.below h12)
  clear Xm_11
  have Xx_12 := Lib.hid (Xx_11.out.below h12)
  clear Xx_11
  clear h12
  clear Y11
  go_wp2_with fail
  refine (toR_is x xv HNx.out _ (Hx.out.below b12)).mono ?_
  rintro e w13 ⟨x13, rfl, hx13, h13⟩
  have b13 : Below W1.heap.size W1 w13 := Below.trans b12 (h13.mono b12.size)
  have y13 : w12.heap.size ≤ w13.heap.size := h13.size
  have z13 : W1.heap.size ≤ w13.heap.size := b13.size
  have Xt_13 := Lib.hid (Xt_12.out.below h13)
  clear Xt_12
  have Xm_13 := Lib.hid (Xm_12.out.below h13)
  clear Xm_12
  have Xx_13 := Lib.hid (Xx_12.out.below h13)
  clear Xx_12
  have Y13 := Lib.hid hx13
  clear hx13
  clear h13
  go_wp2_with fail
  refine (eqR_arg x x7 x13 HNx.out _ Xx_13.out.is Y13.out.is).mono ?_
  rintro e w14 ⟨rfl, h14⟩
  have b14 : Below W1.heap.size W1 w14 := Below.trans b13 (h14.mono b13.size)
  have y14 : w13.heap.size ≤ w14.heap.size := h14.size
  have z14 : W1.heap.size ≤ w14.heap.size := b14.size
  have Xt_14 := Lib.hid (Xt_13.out.below h14)
  clear Xt_13
  have Xm_14 := Lib.hid (Xm_13.out.below h14)
  clear Xm_13
  have Xx_14 := Lib.hid (Xx_13.out.below h14)
  clear Xx_13
  clear h14
  clear Y13
  go_wp2
  go_ret
  exact ⟨by first | rfl | exact retb (by simp), HB.out.trans (b14.mono HB.out.size)⟩
set_option maxHeartbeats 2000000 in
theorem w_ExactBoundHigh (t : List (List Int)) (tv : Value) (m : Mk) (mv : Value) (i : Int) (j : Int) (W : World) (ht : IsR W tv t) (hm : IsM W mv m) :
    Calls Try.prog 4 #[tv, mv, .int .i64 i, .int .i64 j] W fun e w' => e = .returned (.bool true) ∧ Below W.heap.size W w' := by
  obtain ⟨W1, hW⟩ : ∃ W1, W1 = W := ⟨_, rfl⟩
  have hb1 : Below W.heap.size W W1 := by rw [hW]; exact (Below.refl _ _)
  have Ht := Lib.hid (ht.below hb1)
  clear ht
  have Hm := Lib.hid (hm.below hb1)
  clear hm
  have HB := Lib.hid hb1
  have b0 := Below.refl W1.heap.size W1
  clear hb1
  go_enter Try.func4, Try.ntmps4
  go_wp2_with fail
  subst hW
  refine (szR_is t tv 1048576 (by omega) (by omega) _ Ht.out).mono ?_
  rintro e w' ⟨rfl, rfl⟩
  rcases szL_cases (t.length + tot t) (left := 1048576) (by omega) (by omega) with hz | ⟨l1, m1, hn⟩
  · rw [hz]; go_wp2; go_ret; exact ⟨rfl, HB.out⟩
  obtain ⟨s1, hs⟩ : ∃ z, szL (t.length + tot t) 1048576 = z := ⟨_, rfl⟩
  rw [hs] at l1 m1 ⊢
  have HNt := Lib.hid hn; clear hn hs
  go_wp2_with fail
  refine (szM_is m mv s1 l1 m1 _ Hm.out).mono ?_
  rintro e w' ⟨rfl, rfl⟩
  rcases szL_cases (m.length + totM m) (left := s1) l1 m1 with hz | ⟨l2, m2, hn⟩
  · rw [hz]; go_wp2; go_ret; exact ⟨rfl, HB.out⟩
  obtain ⟨s2, hs⟩ : ∃ z, szL (m.length + totM m) s1 = z := ⟨_, rfl⟩
  rw [hs] at l2 m2 ⊢
  have HNm := Lib.hid hn; clear hn hs
  go_wp2_with fail
  refine (toR_is t tv HNt.out _ (Ht.out.below b0)).mono ?_
  rintro e w1 ⟨x1, rfl, hx1, h1⟩
  have b1 : Below W1.heap.size W1 w1 := Below.trans b0 (h1.mono b0.size)
  have y1 : W1.heap.size ≤ w1.heap.size := h1.size
  have z1 : W1.heap.size ≤ w1.heap.size := b1.size
  have Xt_1 := Lib.hid hx1
  clear hx1
  clear h1
  go_wp2_with fail
  refine (toM_is m mv HNm.out _ (Hm.out.below b1)).mono ?_
  rintro e w2 ⟨x2, rfl, hx2, h2⟩
  have b2 : Below W1.heap.size W1 w2 := Below.trans b1 (h2.mono b1.size)
  have y2 : w1.heap.size ≤ w2.heap.size := h2.size
  have z2 : W1.heap.size ≤ w2.heap.size := b2.size
  have Xt_2 := Lib.hid (Xt_1.out.below h2)
  clear Xt_1
  have Xm_2 := Lib.hid hx2
  clear hx2
  clear h2
  go_wp2_with fail
  refine (sHigh_is w2 t x1 (Xt_2.out.is) m x2 (Xm_2.out.is) i j _ rfl _ (Below.refl _ _)).mono ?_
  rintro e w3 ⟨rfl, h3⟩
  have b3 : Below W1.heap.size W1 w3 := Below.trans b2 (h3.mono b2.size)
  have y3 : w2.heap.size ≤ w3.heap.size := h3.size
  have z3 : W1.heap.size ≤ w3.heap.size := b3.size
  have Xt_3 := Lib.hid (Xt_2.out.below h3)
  clear Xt_2
  have Xm_3 := Lib.hid (Xm_2.out.below h3)
  clear Xm_2
  clear h3
  clear Xt_3
  clear Xm_3
  go_wp2_with fail
  refine (toR_is t tv HNt.out _ (Ht.out.below b3)).mono ?_
  rintro e w4 ⟨x4, rfl, hx4, h4⟩
  have b4 : Below W1.heap.size W1 w4 := Below.trans b3 (h4.mono b3.size)
  have y4 : w3.heap.size ≤ w4.heap.size := h4.size
  have z4 : W1.heap.size ≤ w4.heap.size := b4.size
  have Xt_4 := Lib.hid hx4
  clear hx4
  clear h4
  go_wp2_with fail
  refine (toM_is m mv HNm.out _ (Hm.out.below b4)).mono ?_
  rintro e w5 ⟨x5, rfl, hx5, h5⟩
  have b5 : Below W1.heap.size W1 w5 := Below.trans b4 (h5.mono b4.size)
  have y5 : w4.heap.size ≤ w5.heap.size := h5.size
  have z5 : W1.heap.size ≤ w5.heap.size := b5.size
  have Xt_5 := Lib.hid (Xt_4.out.below h5)
  clear Xt_4
  have Xm_5 := Lib.hid hx5
  clear hx5
  clear h5
  go_wp2_with fail
  refine (iHigh_is w5 t x4 (Xt_5.out.is) m x5 (Xm_5.out.is) i j _ rfl _ (Below.refl _ _)).mono ?_
  rintro e w6 ⟨rfl, h6⟩
  have b6 : Below W1.heap.size W1 w6 := Below.trans b5 (h6.mono b5.size)
  have y6 : w5.heap.size ≤ w6.heap.size := h6.size
  have z6 : W1.heap.size ≤ w6.heap.size := b6.size
  have Xt_6 := Lib.hid (Xt_5.out.below h6)
  clear Xt_5
  have Xm_6 := Lib.hid (Xm_5.out.below h6)
  clear Xm_5
  clear h6
  go_wp2_with fail
  refine (toR_is t tv HNt.out _ (Ht.out.below b6)).mono ?_
  rintro e w7 ⟨x7, rfl, hx7, h7⟩
  have b7 : Below W1.heap.size W1 w7 := Below.trans b6 (h7.mono b6.size)
  have y7 : w6.heap.size ≤ w7.heap.size := h7.size
  have z7 : W1.heap.size ≤ w7.heap.size := b7.size
  have Xt_7 := Lib.hid (Xt_6.out.below h7)
  clear Xt_6
  have Xm_7 := Lib.hid (Xm_6.out.below h7)
  clear Xm_6
  have Y7 := Lib.hid hx7
  clear hx7
  clear h7
  go_wp2_with fail
  refine (eqR_arg t x4 x7 HNt.out _ Xt_7.out.is Y7.out.is).mono ?_
  rintro e w8 ⟨rfl, h8⟩
  have b8 : Below W1.heap.size W1 w8 := Below.trans b7 (h8.mono b7.size)
  have y8 : w7.heap.size ≤ w8.heap.size := h8.size
  have z8 : W1.heap.size ≤ w8.heap.size := b8.size
  have Xt_8 := Lib.hid (Xt_7.out.below h8)
  clear Xt_7
  have Xm_8 := Lib.hid (Xm_7.out.below h8)
  clear Xm_7
  clear h8
  clear Y7
  go_wp2_with fail
  refine (toM_is m mv HNm.out _ (Hm.out.below b8)).mono ?_
  rintro e w9 ⟨x9, rfl, hx9, h9⟩
  have b9 : Below W1.heap.size W1 w9 := Below.trans b8 (h9.mono b8.size)
  have y9 : w8.heap.size ≤ w9.heap.size := h9.size
  have z9 : W1.heap.size ≤ w9.heap.size := b9.size
  have Xt_9 := Lib.hid (Xt_8.out.below h9)
  clear Xt_8
  have Xm_9 := Lib.hid (Xm_8.out.below h9)
  clear Xm_8
  have Y9 := Lib.hid hx9
  clear hx9
  clear h9
  go_wp2_with fail
  refine (eqM_arg m x5 x9 HNm.out _ Xm_9.out.is Y9.out.is).mono ?_
  rintro e w10 ⟨rfl, h10⟩
  have b10 : Below W1.heap.size W1 w10 := Below.trans b9 (h10.mono b9.size)
  have y10 : w9.heap.size ≤ w10.heap.size := h10.size
  have z10 : W1.heap.size ≤ w10.heap.size := b10.size
  have Xt_10 := Lib.hid (Xt_9.out.below h10)
  clear Xt_9
  have Xm_10 := Lib.hid (Xm_9.out.below h10)
  clear Xm_9
  clear h10
  clear Y9
  go_wp2
  go_ret
  exact ⟨by first | rfl | exact retb (by simp), HB.out.trans (b10.mono HB.out.size)⟩
set_option maxHeartbeats 2000000 in
theorem w_ExactBoundLow (t : List (List Int)) (tv : Value) (m : Mk) (mv : Value) (i : Int) (j : Int) (W : World) (ht : IsR W tv t) (hm : IsM W mv m) :
    Calls Try.prog 5 #[tv, mv, .int .i64 i, .int .i64 j] W fun e w' => e = .returned (.bool true) ∧ Below W.heap.size W w' := by
  obtain ⟨W1, hW⟩ : ∃ W1, W1 = W := ⟨_, rfl⟩
  have hb1 : Below W.heap.size W W1 := by rw [hW]; exact (Below.refl _ _)
  have Ht := Lib.hid (ht.below hb1)
  clear ht
  have Hm := Lib.hid (hm.below hb1)
  clear hm
  have HB := Lib.hid hb1
  have b0 := Below.refl W1.heap.size W1
  clear hb1
  go_enter Try.func5, Try.ntmps5
  go_wp2_with fail
  subst hW
  refine (szR_is t tv 1048576 (by omega) (by omega) _ Ht.out).mono ?_
  rintro e w' ⟨rfl, rfl⟩
  rcases szL_cases (t.length + tot t) (left := 1048576) (by omega) (by omega) with hz | ⟨l1, m1, hn⟩
  · rw [hz]; go_wp2; go_ret; exact ⟨rfl, HB.out⟩
  obtain ⟨s1, hs⟩ : ∃ z, szL (t.length + tot t) 1048576 = z := ⟨_, rfl⟩
  rw [hs] at l1 m1 ⊢
  have HNt := Lib.hid hn; clear hn hs
  go_wp2_with fail
  refine (szM_is m mv s1 l1 m1 _ Hm.out).mono ?_
  rintro e w' ⟨rfl, rfl⟩
  rcases szL_cases (m.length + totM m) (left := s1) l1 m1 with hz | ⟨l2, m2, hn⟩
  · rw [hz]; go_wp2; go_ret; exact ⟨rfl, HB.out⟩
  obtain ⟨s2, hs⟩ : ∃ z, szL (m.length + totM m) s1 = z := ⟨_, rfl⟩
  rw [hs] at l2 m2 ⊢
  have HNm := Lib.hid hn; clear hn hs
  go_wp2_with fail
  refine (toR_is t tv HNt.out _ (Ht.out.below b0)).mono ?_
  rintro e w1 ⟨x1, rfl, hx1, h1⟩
  have b1 : Below W1.heap.size W1 w1 := Below.trans b0 (h1.mono b0.size)
  have y1 : W1.heap.size ≤ w1.heap.size := h1.size
  have z1 : W1.heap.size ≤ w1.heap.size := b1.size
  have Xt_1 := Lib.hid hx1
  clear hx1
  clear h1
  go_wp2_with fail
  refine (toM_is m mv HNm.out _ (Hm.out.below b1)).mono ?_
  rintro e w2 ⟨x2, rfl, hx2, h2⟩
  have b2 : Below W1.heap.size W1 w2 := Below.trans b1 (h2.mono b1.size)
  have y2 : w1.heap.size ≤ w2.heap.size := h2.size
  have z2 : W1.heap.size ≤ w2.heap.size := b2.size
  have Xt_2 := Lib.hid (Xt_1.out.below h2)
  clear Xt_1
  have Xm_2 := Lib.hid hx2
  clear hx2
  clear h2
  go_wp2_with fail
  refine (sLow_is w2 t x1 (Xt_2.out.is) m x2 (Xm_2.out.is) i j _ rfl _ (Below.refl _ _)).mono ?_
  rintro e w3 ⟨rfl, h3⟩
  have b3 : Below W1.heap.size W1 w3 := Below.trans b2 (h3.mono b2.size)
  have y3 : w2.heap.size ≤ w3.heap.size := h3.size
  have z3 : W1.heap.size ≤ w3.heap.size := b3.size
  have Xt_3 := Lib.hid (Xt_2.out.below h3)
  clear Xt_2
  have Xm_3 := Lib.hid (Xm_2.out.below h3)
  clear Xm_2
  clear h3
  clear Xt_3
  clear Xm_3
  go_wp2_with fail
  refine (toR_is t tv HNt.out _ (Ht.out.below b3)).mono ?_
  rintro e w4 ⟨x4, rfl, hx4, h4⟩
  have b4 : Below W1.heap.size W1 w4 := Below.trans b3 (h4.mono b3.size)
  have y4 : w3.heap.size ≤ w4.heap.size := h4.size
  have z4 : W1.heap.size ≤ w4.heap.size := b4.size
  have Xt_4 := Lib.hid hx4
  clear hx4
  clear h4
  go_wp2_with fail
  refine (toM_is m mv HNm.out _ (Hm.out.below b4)).mono ?_
  rintro e w5 ⟨x5, rfl, hx5, h5⟩
  have b5 : Below W1.heap.size W1 w5 := Below.trans b4 (h5.mono b4.size)
  have y5 : w4.heap.size ≤ w5.heap.size := h5.size
  have z5 : W1.heap.size ≤ w5.heap.size := b5.size
  have Xt_5 := Lib.hid (Xt_4.out.below h5)
  clear Xt_4
  have Xm_5 := Lib.hid hx5
  clear hx5
  clear h5
  go_wp2_with fail
  refine (iLow_is w5 t x4 (Xt_5.out.is) m x5 (Xm_5.out.is) i j _ rfl _ (Below.refl _ _)).mono ?_
  rintro e w6 ⟨rfl, h6⟩
  have b6 : Below W1.heap.size W1 w6 := Below.trans b5 (h6.mono b5.size)
  have y6 : w5.heap.size ≤ w6.heap.size := h6.size
  have z6 : W1.heap.size ≤ w6.heap.size := b6.size
  have Xt_6 := Lib.hid (Xt_5.out.below h6)
  clear Xt_5
  have Xm_6 := Lib.hid (Xm_5.out.below h6)
  clear Xm_5
  clear h6
  go_wp2_with fail
  refine (toR_is t tv HNt.out _ (Ht.out.below b6)).mono ?_
  rintro e w7 ⟨x7, rfl, hx7, h7⟩
  have b7 : Below W1.heap.size W1 w7 := Below.trans b6 (h7.mono b6.size)
  have y7 : w6.heap.size ≤ w7.heap.size := h7.size
  have z7 : W1.heap.size ≤ w7.heap.size := b7.size
  have Xt_7 := Lib.hid (Xt_6.out.below h7)
  clear Xt_6
  have Xm_7 := Lib.hid (Xm_6.out.below h7)
  clear Xm_6
  have Y7 := Lib.hid hx7
  clear hx7
  clear h7
  go_wp2_with fail
  refine (eqR_arg t x4 x7 HNt.out _ Xt_7.out.is Y7.out.is).mono ?_
  rintro e w8 ⟨rfl, h8⟩
  have b8 : Below W1.heap.size W1 w8 := Below.trans b7 (h8.mono b7.size)
  have y8 : w7.heap.size ≤ w8.heap.size := h8.size
  have z8 : W1.heap.size ≤ w8.heap.size := b8.size
  have Xt_8 := Lib.hid (Xt_7.out.below h8)
  clear Xt_7
  have Xm_8 := Lib.hid (Xm_7.out.below h8)
  clear Xm_7
  clear h8
  clear Y7
  go_wp2_with fail
  refine (toM_is m mv HNm.out _ (Hm.out.below b8)).mono ?_
  rintro e w9 ⟨x9, rfl, hx9, h9⟩
  have b9 : Below W1.heap.size W1 w9 := Below.trans b8 (h9.mono b8.size)
  have y9 : w8.heap.size ≤ w9.heap.size := h9.size
  have z9 : W1.heap.size ≤ w9.heap.size := b9.size
  have Xt_9 := Lib.hid (Xt_8.out.below h9)
  clear Xt_8
  have Xm_9 := Lib.hid (Xm_8.out.below h9)
  clear Xm_8
  have Y9 := Lib.hid hx9
  clear hx9
  clear h9
  go_wp2_with fail
  refine (eqM_arg m x5 x9 HNm.out _ Xm_9.out.is Y9.out.is).mono ?_
  rintro e w10 ⟨rfl, h10⟩
  have b10 : Below W1.heap.size W1 w10 := Below.trans b9 (h10.mono b9.size)
  have y10 : w9.heap.size ≤ w10.heap.size := h10.size
  have z10 : W1.heap.size ≤ w10.heap.size := b10.size
  have Xt_10 := Lib.hid (Xt_9.out.below h10)
  clear Xt_9
  have Xm_10 := Lib.hid (Xm_9.out.below h10)
  clear Xm_9
  clear h10
  clear Y9
  go_wp2
  go_ret
  exact ⟨by first | rfl | exact retb (by simp), HB.out.trans (b10.mono HB.out.size)⟩
set_option maxHeartbeats 2000000 in
theorem w_ExactBoundTold (t : List (List Int)) (tv : Value) (m : Mk) (mv : Value) (i : Int) (j : Int) (W : World) (ht : IsR W tv t) (hm : IsM W mv m) :
    Calls Try.prog 6 #[tv, mv, .int .i64 i, .int .i64 j] W fun e w' => e = .returned (.bool true) ∧ Below W.heap.size W w' := by
  obtain ⟨W1, hW⟩ : ∃ W1, W1 = W := ⟨_, rfl⟩
  have hb1 : Below W.heap.size W W1 := by rw [hW]; exact (Below.refl _ _)
  have Ht := Lib.hid (ht.below hb1)
  clear ht
  have Hm := Lib.hid (hm.below hb1)
  clear hm
  have HB := Lib.hid hb1
  have b0 := Below.refl W1.heap.size W1
  clear hb1
  go_enter Try.func6, Try.ntmps6
  go_wp2_with fail
  subst hW
  refine (szR_is t tv 1048576 (by omega) (by omega) _ Ht.out).mono ?_
  rintro e w' ⟨rfl, rfl⟩
  rcases szL_cases (t.length + tot t) (left := 1048576) (by omega) (by omega) with hz | ⟨l1, m1, hn⟩
  · rw [hz]; go_wp2; go_ret; exact ⟨rfl, HB.out⟩
  obtain ⟨s1, hs⟩ : ∃ z, szL (t.length + tot t) 1048576 = z := ⟨_, rfl⟩
  rw [hs] at l1 m1 ⊢
  have HNt := Lib.hid hn; clear hn hs
  go_wp2_with fail
  refine (szM_is m mv s1 l1 m1 _ Hm.out).mono ?_
  rintro e w' ⟨rfl, rfl⟩
  rcases szL_cases (m.length + totM m) (left := s1) l1 m1 with hz | ⟨l2, m2, hn⟩
  · rw [hz]; go_wp2; go_ret; exact ⟨rfl, HB.out⟩
  obtain ⟨s2, hs⟩ : ∃ z, szL (m.length + totM m) s1 = z := ⟨_, rfl⟩
  rw [hs] at l2 m2 ⊢
  have HNm := Lib.hid hn; clear hn hs
  go_wp2_with fail
  refine (toR_is t tv HNt.out _ (Ht.out.below b0)).mono ?_
  rintro e w1 ⟨x1, rfl, hx1, h1⟩
  have b1 : Below W1.heap.size W1 w1 := Below.trans b0 (h1.mono b0.size)
  have y1 : W1.heap.size ≤ w1.heap.size := h1.size
  have z1 : W1.heap.size ≤ w1.heap.size := b1.size
  have Xt_1 := Lib.hid hx1
  clear hx1
  clear h1
  go_wp2_with fail
  refine (toM_is m mv HNm.out _ (Hm.out.below b1)).mono ?_
  rintro e w2 ⟨x2, rfl, hx2, h2⟩
  have b2 : Below W1.heap.size W1 w2 := Below.trans b1 (h2.mono b1.size)
  have y2 : w1.heap.size ≤ w2.heap.size := h2.size
  have z2 : W1.heap.size ≤ w2.heap.size := b2.size
  have Xt_2 := Lib.hid (Xt_1.out.below h2)
  clear Xt_1
  have Xm_2 := Lib.hid hx2
  clear hx2
  clear h2
  go_wp2_with fail
  refine (sTold_is w2 t x1 (Xt_2.out.is) m x2 (Xm_2.out.is) i j _ rfl _ (Below.refl _ _)).mono ?_
  rintro e w3 ⟨rfl, h3⟩
  have b3 : Below W1.heap.size W1 w3 := Below.trans b2 (h3.mono b2.size)
  have y3 : w2.heap.size ≤ w3.heap.size := h3.size
  have z3 : W1.heap.size ≤ w3.heap.size := b3.size
  have Xt_3 := Lib.hid (Xt_2.out.below h3)
  clear Xt_2
  have Xm_3 := Lib.hid (Xm_2.out.below h3)
  clear Xm_2
  clear h3
  clear Xt_3
  clear Xm_3
  go_wp2_with fail
  refine (toR_is t tv HNt.out _ (Ht.out.below b3)).mono ?_
  rintro e w4 ⟨x4, rfl, hx4, h4⟩
  have b4 : Below W1.heap.size W1 w4 := Below.trans b3 (h4.mono b3.size)
  have y4 : w3.heap.size ≤ w4.heap.size := h4.size
  have z4 : W1.heap.size ≤ w4.heap.size := b4.size
  have Xt_4 := Lib.hid hx4
  clear hx4
  clear h4
  go_wp2_with fail
  refine (toM_is m mv HNm.out _ (Hm.out.below b4)).mono ?_
  rintro e w5 ⟨x5, rfl, hx5, h5⟩
  have b5 : Below W1.heap.size W1 w5 := Below.trans b4 (h5.mono b4.size)
  have y5 : w4.heap.size ≤ w5.heap.size := h5.size
  have z5 : W1.heap.size ≤ w5.heap.size := b5.size
  have Xt_5 := Lib.hid (Xt_4.out.below h5)
  clear Xt_4
  have Xm_5 := Lib.hid hx5
  clear hx5
  clear h5
  go_wp2_with fail
  refine (iTold_is w5 t x4 (Xt_5.out.is) m x5 (Xm_5.out.is) i j _ rfl _ (Below.refl _ _)).mono ?_
  rintro e w6 ⟨rfl, h6⟩
  have b6 : Below W1.heap.size W1 w6 := Below.trans b5 (h6.mono b5.size)
  have y6 : w5.heap.size ≤ w6.heap.size := h6.size
  have z6 : W1.heap.size ≤ w6.heap.size := b6.size
  have Xt_6 := Lib.hid (Xt_5.out.below h6)
  clear Xt_5
  have Xm_6 := Lib.hid (Xm_5.out.below h6)
  clear Xm_5
  clear h6
  go_wp2_with fail
  refine (toR_is t tv HNt.out _ (Ht.out.below b6)).mono ?_
  rintro e w7 ⟨x7, rfl, hx7, h7⟩
  have b7 : Below W1.heap.size W1 w7 := Below.trans b6 (h7.mono b6.size)
  have y7 : w6.heap.size ≤ w7.heap.size := h7.size
  have z7 : W1.heap.size ≤ w7.heap.size := b7.size
  have Xt_7 := Lib.hid (Xt_6.out.below h7)
  clear Xt_6
  have Xm_7 := Lib.hid (Xm_6.out.below h7)
  clear Xm_6
  have Y7 := Lib.hid hx7
  clear hx7
  clear h7
  go_wp2_with fail
  refine (eqR_arg t x4 x7 HNt.out _ Xt_7.out.is Y7.out.is).mono ?_
  rintro e w8 ⟨rfl, h8⟩
  have b8 : Below W1.heap.size W1 w8 := Below.trans b7 (h8.mono b7.size)
  have y8 : w7.heap.size ≤ w8.heap.size := h8.size
  have z8 : W1.heap.size ≤ w8.heap.size := b8.size
  have Xt_8 := Lib.hid (Xt_7.out.below h8)
  clear Xt_7
  have Xm_8 := Lib.hid (Xm_7.out.below h8)
  clear Xm_7
  clear h8
  clear Y7
  go_wp2_with fail
  refine (toM_is m mv HNm.out _ (Hm.out.below b8)).mono ?_
  rintro e w9 ⟨x9, rfl, hx9, h9⟩
  have b9 : Below W1.heap.size W1 w9 := Below.trans b8 (h9.mono b8.size)
  have y9 : w8.heap.size ≤ w9.heap.size := h9.size
  have z9 : W1.heap.size ≤ w9.heap.size := b9.size
  have Xt_9 := Lib.hid (Xt_8.out.below h9)
  clear Xt_8
  have Xm_9 := Lib.hid (Xm_8.out.below h9)
  clear Xm_8
  have Y9 := Lib.hid hx9
  clear hx9
  clear h9
  go_wp2_with fail
  refine (eqM_arg m x5 x9 HNm.out _ Xm_9.out.is Y9.out.is).mono ?_
  rintro e w10 ⟨rfl, h10⟩
  have b10 : Below W1.heap.size W1 w10 := Below.trans b9 (h10.mono b9.size)
  have y10 : w9.heap.size ≤ w10.heap.size := h10.size
  have z10 : W1.heap.size ≤ w10.heap.size := b10.size
  have Xt_10 := Lib.hid (Xt_9.out.below h10)
  clear Xt_9
  have Xm_10 := Lib.hid (Xm_9.out.below h10)
  clear Xm_9
  clear h10
  clear Y9
  go_wp2
  go_ret
  exact ⟨by first | rfl | exact retb (by simp), HB.out.trans (b10.mono HB.out.size)⟩
set_option maxHeartbeats 2000000 in
theorem w_ExactBoundMany (t : List (List Int)) (tv : Value) (m : Mk) (mv : Value) (W : World) (ht : IsR W tv t) (hm : IsM W mv m) :
    Calls Try.prog 7 #[tv, mv] W fun e w' => e = .returned (.bool true) ∧ Below W.heap.size W w' := by
  obtain ⟨W1, hW⟩ : ∃ W1, W1 = W := ⟨_, rfl⟩
  have hb1 : Below W.heap.size W W1 := by rw [hW]; exact (Below.refl _ _)
  have Ht := Lib.hid (ht.below hb1)
  clear ht
  have Hm := Lib.hid (hm.below hb1)
  clear hm
  have HB := Lib.hid hb1
  have b0 := Below.refl W1.heap.size W1
  clear hb1
  go_enter Try.func7, Try.ntmps7
  go_wp2_with fail
  subst hW
  refine (szR_is t tv 1048576 (by omega) (by omega) _ Ht.out).mono ?_
  rintro e w' ⟨rfl, rfl⟩
  rcases szL_cases (t.length + tot t) (left := 1048576) (by omega) (by omega) with hz | ⟨l1, m1, hn⟩
  · rw [hz]; go_wp2; go_ret; exact ⟨rfl, HB.out⟩
  obtain ⟨s1, hs⟩ : ∃ z, szL (t.length + tot t) 1048576 = z := ⟨_, rfl⟩
  rw [hs] at l1 m1 ⊢
  have HNt := Lib.hid hn; clear hn hs
  go_wp2_with fail
  refine (szM_is m mv s1 l1 m1 _ Hm.out).mono ?_
  rintro e w' ⟨rfl, rfl⟩
  rcases szL_cases (m.length + totM m) (left := s1) l1 m1 with hz | ⟨l2, m2, hn⟩
  · rw [hz]; go_wp2; go_ret; exact ⟨rfl, HB.out⟩
  obtain ⟨s2, hs⟩ : ∃ z, szL (m.length + totM m) s1 = z := ⟨_, rfl⟩
  rw [hs] at l2 m2 ⊢
  have HNm := Lib.hid hn; clear hn hs
  go_wp2_with fail
  refine (toR_is t tv HNt.out _ (Ht.out.below b0)).mono ?_
  rintro e w1 ⟨x1, rfl, hx1, h1⟩
  have b1 : Below W1.heap.size W1 w1 := Below.trans b0 (h1.mono b0.size)
  have y1 : W1.heap.size ≤ w1.heap.size := h1.size
  have z1 : W1.heap.size ≤ w1.heap.size := b1.size
  have Xt_1 := Lib.hid hx1
  clear hx1
  clear h1
  go_wp2_with fail
  refine (toM_is m mv HNm.out _ (Hm.out.below b1)).mono ?_
  rintro e w2 ⟨x2, rfl, hx2, h2⟩
  have b2 : Below W1.heap.size W1 w2 := Below.trans b1 (h2.mono b1.size)
  have y2 : w1.heap.size ≤ w2.heap.size := h2.size
  have z2 : W1.heap.size ≤ w2.heap.size := b2.size
  have Xt_2 := Lib.hid (Xt_1.out.below h2)
  clear Xt_1
  have Xm_2 := Lib.hid hx2
  clear hx2
  clear h2
  go_wp2_with fail
  refine (sMany_is w2 t x1 (Xt_2.out.is) m x2 (Xm_2.out.is) _ rfl _ (Below.refl _ _)).mono ?_
  rintro e w3 ⟨rfl, h3⟩
  have b3 : Below W1.heap.size W1 w3 := Below.trans b2 (h3.mono b2.size)
  have y3 : w2.heap.size ≤ w3.heap.size := h3.size
  have z3 : W1.heap.size ≤ w3.heap.size := b3.size
  have Xt_3 := Lib.hid (Xt_2.out.below h3)
  clear Xt_2
  have Xm_3 := Lib.hid (Xm_2.out.below h3)
  clear Xm_2
  clear h3
  clear Xt_3
  clear Xm_3
  go_wp2_with fail
  refine (toR_is t tv HNt.out _ (Ht.out.below b3)).mono ?_
  rintro e w4 ⟨x4, rfl, hx4, h4⟩
  have b4 : Below W1.heap.size W1 w4 := Below.trans b3 (h4.mono b3.size)
  have y4 : w3.heap.size ≤ w4.heap.size := h4.size
  have z4 : W1.heap.size ≤ w4.heap.size := b4.size
  have Xt_4 := Lib.hid hx4
  clear hx4
  clear h4
  go_wp2_with fail
  refine (toM_is m mv HNm.out _ (Hm.out.below b4)).mono ?_
  rintro e w5 ⟨x5, rfl, hx5, h5⟩
  have b5 : Below W1.heap.size W1 w5 := Below.trans b4 (h5.mono b4.size)
  have y5 : w4.heap.size ≤ w5.heap.size := h5.size
  have z5 : W1.heap.size ≤ w5.heap.size := b5.size
  have Xt_5 := Lib.hid (Xt_4.out.below h5)
  clear Xt_4
  have Xm_5 := Lib.hid hx5
  clear hx5
  clear h5
  go_wp2_with fail
  refine (iMany_is w5 t x4 (Xt_5.out.is) m x5 (Xm_5.out.is) _ rfl _ (Below.refl _ _)).mono ?_
  rintro e w6 ⟨rfl, h6⟩
  have b6 : Below W1.heap.size W1 w6 := Below.trans b5 (h6.mono b5.size)
  have y6 : w5.heap.size ≤ w6.heap.size := h6.size
  have z6 : W1.heap.size ≤ w6.heap.size := b6.size
  have Xt_6 := Lib.hid (Xt_5.out.below h6)
  clear Xt_5
  have Xm_6 := Lib.hid (Xm_5.out.below h6)
  clear Xm_5
  clear h6
  go_wp2_with fail
  refine (toR_is t tv HNt.out _ (Ht.out.below b6)).mono ?_
  rintro e w7 ⟨x7, rfl, hx7, h7⟩
  have b7 : Below W1.heap.size W1 w7 := Below.trans b6 (h7.mono b6.size)
  have y7 : w6.heap.size ≤ w7.heap.size := h7.size
  have z7 : W1.heap.size ≤ w7.heap.size := b7.size
  have Xt_7 := Lib.hid (Xt_6.out.below h7)
  clear Xt_6
  have Xm_7 := Lib.hid (Xm_6.out.below h7)
  clear Xm_6
  have Y7 := Lib.hid hx7
  clear hx7
  clear h7
  go_wp2_with fail
  refine (eqR_arg t x4 x7 HNt.out _ Xt_7.out.is Y7.out.is).mono ?_
  rintro e w8 ⟨rfl, h8⟩
  have b8 : Below W1.heap.size W1 w8 := Below.trans b7 (h8.mono b7.size)
  have y8 : w7.heap.size ≤ w8.heap.size := h8.size
  have z8 : W1.heap.size ≤ w8.heap.size := b8.size
  have Xt_8 := Lib.hid (Xt_7.out.below h8)
  clear Xt_7
  have Xm_8 := Lib.hid (Xm_7.out.below h8)
  clear Xm_7
  clear h8
  clear Y7
  go_wp2_with fail
  refine (toM_is m mv HNm.out _ (Hm.out.below b8)).mono ?_
  rintro e w9 ⟨x9, rfl, hx9, h9⟩
  have b9 : Below W1.heap.size W1 w9 := Below.trans b8 (h9.mono b8.size)
  have y9 : w8.heap.size ≤ w9.heap.size := h9.size
  have z9 : W1.heap.size ≤ w9.heap.size := b9.size
  have Xt_9 := Lib.hid (Xt_8.out.below h9)
  clear Xt_8
  have Xm_9 := Lib.hid (Xm_8.out.below h9)
  clear Xm_8
  have Y9 := Lib.hid hx9
  clear hx9
  clear h9
  go_wp2_with fail
  refine (eqM_arg m x5 x9 HNm.out _ Xm_9.out.is Y9.out.is).mono ?_
  rintro e w10 ⟨rfl, h10⟩
  have b10 : Below W1.heap.size W1 w10 := Below.trans b9 (h10.mono b9.size)
  have y10 : w9.heap.size ≤ w10.heap.size := h10.size
  have z10 : W1.heap.size ≤ w10.heap.size := b10.size
  have Xt_10 := Lib.hid (Xt_9.out.below h10)
  clear Xt_9
  have Xm_10 := Lib.hid (Xm_9.out.below h10)
  clear Xm_9
  clear h10
  clear Y9
  go_wp2
  go_ret
  exact ⟨by first | rfl | exact retb (by simp), HB.out.trans (b10.mono HB.out.size)⟩
end Go.Proofs.Ytadagmjagjbocaa
