/- Exact laws of chapter 14. -/
import Derived.Test.YtcbgihjoopjmeaaDoorVIB
import Derived.Test.YtcbgihjoopjmeaaDoorVSA
import Derived.Test.YtcbgihjoopjmeaaDoorXMA
import Derived.Deep.RegionHeld3
namespace Go.Proofs.YtcbgihjoopjmeaaDoor
open Go.RowKit
set_option maxHeartbeats 2000000 in
theorem w_ExactPatternSafe (t : List (List Int)) (tv : Value) (m : Mk) (mv : Value) (i : Int) (j : Int) (n : Int) (W : World) (ht : IsR W tv t) (hm : IsM W mv m) (hT : TabW W) :
    Calls Tryd.prog 9 #[tv, mv, .int .i64 i, .int .i64 j, .int .i64 n] W fun e w' => e = .returned (.bool true) ∧ Below W.heap.size W w' := by
  obtain ⟨W1, hW⟩ : ∃ W1, W1 = W := ⟨_, rfl⟩
  have hb1 : Below W.heap.size W W1 := by rw [hW]; exact (Below.refl _ _)
  have Ht := Lib.hid (ht.below hb1)
  clear ht
  have Hm := Lib.hid (hm.below hb1)
  clear hm
  have HTW := Lib.hid (hT.below hb1)
  clear hT
  have HB := Lib.hid hb1
  have b0 := Below.refl W1.heap.size W1
  clear hb1
  go_enter Tryd.func9, Tryd.ntmps9
  go_wp2_with fail
  subst hW
  refine (szR_is t tv 1048576 (by omega) (by omega) _ Ht.out).mono ?_
  rintro e w' ⟨rfl, rfl⟩
  rcases szL_cases (t.length + tot t) (left := 1048576) (by omega) (by omega) with hz | ⟨l1, m1, hn⟩
  · rw [hz]; go_wp2; go_ret; exact ⟨rfl, HB.out⟩
  obtain ⟨s1, hs⟩ : ∃ z, szL (t.length + tot t) 1048576 = z := ⟨_, rfl⟩
  rw [hs] at l1 m1 ⊢
  have HNt := Lib.hid hn; clear hn hs
  go_wp2_with fail
  refine (szM_is m mv s1 l1 m1 _ Hm.out).mono ?_
  rintro e w' ⟨rfl, rfl⟩
  rcases szL_cases (m.length + totM m) (left := s1) l1 m1 with hz | ⟨l2, m2, hn⟩
  · rw [hz]; go_wp2; go_ret; exact ⟨rfl, HB.out⟩
  obtain ⟨s2, hs⟩ : ∃ z, szL (m.length + totM m) s1 = z := ⟨_, rfl⟩
  rw [hs] at l2 m2 ⊢
  have HNm := Lib.hid hn; clear hn hs
  go_wp2_with fail
  refine (toR_is t tv HNt.out _ (Ht.out.below b0)).mono ?_
  rintro e w1 ⟨x1, rfl, hx1, h1⟩
  have b1 : Below W1.heap.size W1 w1 := Below.trans b0 (h1.mono b0.size)
  have y1 : W1.heap.size ≤ w1.heap.size := h1.size
  have z1 : W1.heap.size ≤ w1.heap.size := b1.size
  have Xt_1 := Lib.hid hx1
  clear hx1
  clear h1
  go_wp2_with fail
  refine (toM_is m mv HNm.out _ (Hm.out.below b1)).mono ?_
  rintro e w2 ⟨x2, rfl, hx2, h2⟩
  have b2 : Below W1.heap.size W1 w2 := Below.trans b1 (h2.mono b1.size)
  have y2 : w1.heap.size ≤ w2.heap.size := h2.size
  have z2 : W1.heap.size ≤ w2.heap.size := b2.size
  have Xt_2 := Lib.hid (Xt_1.out.below h2)
  clear Xt_1
  have Xm_2 := Lib.hid hx2
  clear hx2
  clear h2
  go_wp2_with fail
  refine (sPSafe_is w2 t x1 (Xt_2.out.is) m x2 (Xm_2.out.is) i j n _ rfl _ (Below.refl _ _)).mono ?_
  rintro e w3 ⟨rfl, h3⟩
  have b3 : Below W1.heap.size W1 w3 := Below.trans b2 (h3.mono b2.size)
  have y3 : w2.heap.size ≤ w3.heap.size := h3.size
  have z3 : W1.heap.size ≤ w3.heap.size := b3.size
  have Xt_3 := Lib.hid (Xt_2.out.below h3)
  clear Xt_2
  have Xm_3 := Lib.hid (Xm_2.out.below h3)
  clear Xm_2
  clear h3
  clear Xt_3
  clear Xm_3
  go_wp2_with fail
  refine (toR_is t tv HNt.out _ (Ht.out.below b3)).mono ?_
  rintro e w4 ⟨x4, rfl, hx4, h4⟩
  have b4 : Below W1.heap.size W1 w4 := Below.trans b3 (h4.mono b3.size)
  have y4 : w3.heap.size ≤ w4.heap.size := h4.size
  have z4 : W1.heap.size ≤ w4.heap.size := b4.size
  have Xt_4 := Lib.hid hx4
  clear hx4
  clear h4
  go_wp2_with fail
  refine (toM_is m mv HNm.out _ (Hm.out.below b4)).mono ?_
  rintro e w5 ⟨x5, rfl, hx5, h5⟩
  have b5 : Below W1.heap.size W1 w5 := Below.trans b4 (h5.mono b4.size)
  have y5 : w4.heap.size ≤ w5.heap.size := h5.size
  have z5 : W1.heap.size ≤ w5.heap.size := b5.size
  have Xt_5 := Lib.hid (Xt_4.out.below h5)
  clear Xt_4
  have Xm_5 := Lib.hid hx5
  clear hx5
  clear h5
  go_wp2_with fail
  refine (iPSafe_is w5 t x4 (Xt_5.out.is) m x5 (Xm_5.out.is) i j n _ rfl _ (Below.refl _ _) (HTW.out.below b5)).mono ?_
  rintro e w6 ⟨rfl, h6⟩
  have b6 : Below W1.heap.size W1 w6 := Below.trans b5 (h6.mono b5.size)
  have y6 : w5.heap.size ≤ w6.heap.size := h6.size
  have z6 : W1.heap.size ≤ w6.heap.size := b6.size
  have Xt_6 := Lib.hid (Xt_5.out.below h6)
  clear Xt_5
  have Xm_6 := Lib.hid (Xm_5.out.below h6)
  clear Xm_5
  clear h6
  go_wp2_with fail
  refine (toR_is t tv HNt.out _ (Ht.out.below b6)).mono ?_
  rintro e w7 ⟨x7, rfl, hx7, h7⟩
  have b7 : Below W1.heap.size W1 w7 := Below.trans b6 (h7.mono b6.size)
  have y7 : w6.heap.size ≤ w7.heap.size := h7.size
  have z7 : W1.heap.size ≤ w7.heap.size := b7.size
  have Xt_7 := Lib.hid (Xt_6.out.below h7)
  clear Xt_6
  have Xm_7 := Lib.hid (Xm_6.out.below h7)
  clear Xm_6
  have Y7 := Lib.hid hx7
  clear hx7
  clear h7
  go_wp2_with fail
  refine (eqR_arg t x4 x7 HNt.out _ Xt_7.out.is Y7.out.is).mono ?_
  rintro e w8 ⟨rfl, h8⟩
  have b8 : Below W1.heap.size W1 w8 := Below.trans b7 (h8.mono b7.size)
  have y8 : w7.heap.size ≤ w8.heap.size := h8.size
  have z8 : W1.heap.size ≤ w8.heap.size := b8.size
  have Xt_8 := Lib.hid (Xt_7.out.below h8)
  clear Xt_7
  have Xm_8 := Lib.hid (Xm_7.out.below h8)
  clear Xm_7
  clear h8
  clear Y7
  go_wp2_with fail
  refine (toM_is m mv HNm.out _ (Hm.out.below b8)).mono ?_
  rintro e w9 ⟨x9, rfl, hx9, h9⟩
  have b9 : Below W1.heap.size W1 w9 := Below.trans b8 (h9.mono b8.size)
  have y9 : w8.heap.size ≤ w9.heap.size := h9.size
  have z9 : W1.heap.size ≤ w9.heap.size := b9.size
  have Xt_9 := Lib.hid (Xt_8.out.below h9)
  clear Xt_8
  have Xm_9 := Lib.hid (Xm_8.out.below h9)
  clear Xm_8
  have Y9 := Lib.hid hx9
  clear hx9
  clear h9
  go_wp2_with fail
  refine (eqM_arg m x5 x9 HNm.out _ Xm_9.out.is Y9.out.is).mono ?_
  rintro e w10 ⟨rfl, h10⟩
  have b10 : Below W1.heap.size W1 w10 := Below.trans b9 (h10.mono b9.size)
  have y10 : w9.heap.size ≤ w10.heap.size := h10.size
  have z10 : W1.heap.size ≤ w10.heap.size := b10.size
  have Xt_10 := Lib.hid (Xt_9.out.below h10)
  clear Xt_9
  have Xm_10 := Lib.hid (Xm_9.out.below h10)
  clear Xm_9
  clear h10
  clear Y9
  go_wp2
  go_ret
  exact ⟨by first | rfl | exact retb (by simp), HB.out.trans (b10.mono HB.out.size)⟩
set_option maxHeartbeats 2000000 in
theorem w_ExactPatternNeed (t : List (List Int)) (tv : Value) (f : Mk) (fv : Value) (m : Mk) (mv : Value) (n : Int) (W : World) (ht : IsR W tv t) (hf : IsM W fv f) (hm : IsM W mv m) (hT : TabW W) :
    Calls Tryd.prog 10 #[tv, fv, mv, .int .i64 n] W fun e w' => e = .returned (.bool true) ∧ Below W.heap.size W w' := by
  obtain ⟨W1, hW⟩ : ∃ W1, W1 = W := ⟨_, rfl⟩
  have hb1 : Below W.heap.size W W1 := by rw [hW]; exact (Below.refl _ _)
  have Ht := Lib.hid (ht.below hb1)
  clear ht
  have Hf := Lib.hid (hf.below hb1)
  clear hf
  have Hm := Lib.hid (hm.below hb1)
  clear hm
  have HTW := Lib.hid (hT.below hb1)
  clear hT
  have HB := Lib.hid hb1
  have b0 := Below.refl W1.heap.size W1
  clear hb1
  go_enter Tryd.func10, Tryd.ntmps10
  go_wp2_with fail
  subst hW
  refine (szR_is t tv 1048576 (by omega) (by omega) _ Ht.out).mono ?_
  rintro e w' ⟨rfl, rfl⟩
  rcases szL_cases (t.length + tot t) (left := 1048576) (by omega) (by omega) with hz | ⟨l1, m1, hn⟩
  · rw [hz]; go_wp2; go_ret; exact ⟨rfl, HB.out⟩
  obtain ⟨s1, hs⟩ : ∃ z, szL (t.length + tot t) 1048576 = z := ⟨_, rfl⟩
  rw [hs] at l1 m1 ⊢
  have HNt := Lib.hid hn; clear hn hs
  go_wp2_with fail
  refine (szM_is f fv s1 l1 m1 _ Hf.out).mono ?_
  rintro e w' ⟨rfl, rfl⟩
  rcases szL_cases (f.length + totM f) (left := s1) l1 m1 with hz | ⟨l2, m2, hn⟩
  · rw [hz]; go_wp2; go_ret; exact ⟨rfl, HB.out⟩
  obtain ⟨s2, hs⟩ : ∃ z, szL (f.length + totM f) s1 = z := ⟨_, rfl⟩
  rw [hs] at l2 m2 ⊢
  have HNf := Lib.hid hn; clear hn hs
  go_wp2_with fail
  refine (szM_is m mv s2 l2 m2 _ Hm.out).mono ?_
  rintro e w' ⟨rfl, rfl⟩
  rcases szL_cases (m.length + totM m) (left := s2) l2 m2 with hz | ⟨l3, m3, hn⟩
  · rw [hz]; go_wp2; go_ret; exact ⟨rfl, HB.out⟩
  obtain ⟨s3, hs⟩ : ∃ z, szL (m.length + totM m) s2 = z := ⟨_, rfl⟩
  rw [hs] at l3 m3 ⊢
  have HNm := Lib.hid hn; clear hn hs
  go_wp2_with fail
  refine (toR_is t tv HNt.out _ (Ht.out.below b0)).mono ?_
  rintro e w1 ⟨x1, rfl, hx1, h1⟩
  have b1 : Below W1.heap.size W1 w1 := Below.trans b0 (h1.mono b0.size)
  have y1 : W1.heap.size ≤ w1.heap.size := h1.size
  have z1 : W1.heap.size ≤ w1.heap.size := b1.size
  have Xt_1 := Lib.hid hx1
  clear hx1
  clear h1
  go_wp2_with fail
  refine (toM_is f fv HNf.out _ (Hf.out.below b1)).mono ?_
  rintro e w2 ⟨x2, rfl, hx2, h2⟩
  have b2 : Below W1.heap.size W1 w2 := Below.trans b1 (h2.mono b1.size)
  have y2 : w1.heap.size ≤ w2.heap.size := h2.size
  have z2 : W1.heap.size ≤ w2.heap.size := b2.size
  have Xt_2 := Lib.hid (Xt_1.out.below h2)
  clear Xt_1
  have Xf_2 := Lib.hid hx2
  clear hx2
  clear h2
  go_wp2_with fail
  refine (toM_is m mv HNm.out _ (Hm.out.below b2)).mono ?_
  rintro e w3 ⟨x3, rfl, hx3, h3⟩
  have b3 : Below W1.heap.size W1 w3 := Below.trans b2 (h3.mono b2.size)
  have y3 : w2.heap.size ≤ w3.heap.size := h3.size
  have z3 : W1.heap.size ≤ w3.heap.size := b3.size
  have Xt_3 := Lib.hid (Xt_2.out.below h3)
  clear Xt_2
  have Xf_3 := Lib.hid (Xf_2.out.below h3)
  clear Xf_2
  have Xm_3 := Lib.hid hx3
  clear hx3
  clear h3
  go_wp2_with fail
  refine (sNeed_is w3 t x1 (Xt_3.out.is) f x2 (Xf_3.out.is) m x3 (Xm_3.out.is) n _ rfl _ (Below.refl _ _)).mono ?_
  rintro e w4 ⟨rfl, h4⟩
  have b4 : Below W1.heap.size W1 w4 := Below.trans b3 (h4.mono b3.size)
  have y4 : w3.heap.size ≤ w4.heap.size := h4.size
  have z4 : W1.heap.size ≤ w4.heap.size := b4.size
  have Xt_4 := Lib.hid (Xt_3.out.below h4)
  clear Xt_3
  have Xf_4 := Lib.hid (Xf_3.out.below h4)
  clear Xf_3
  have Xm_4 := Lib.hid (Xm_3.out.below h4)
  clear Xm_3
  clear h4
  clear Xt_4
  clear Xf_4
  clear Xm_4
  go_wp2_with fail
  refine (toR_is t tv HNt.out _ (Ht.out.below b4)).mono ?_
  rintro e w5 ⟨x5, rfl, hx5, h5⟩
  have b5 : Below W1.heap.size W1 w5 := Below.trans b4 (h5.mono b4.size)
  have y5 : w4.heap.size ≤ w5.heap.size := h5.size
  have z5 : W1.heap.size ≤ w5.heap.size := b5.size
  have Xt_5 := Lib.hid hx5
  clear hx5
  clear h5
  go_wp2_with fail
  refine (toM_is f fv HNf.out _ (Hf.out.below b5)).mono ?_
  rintro e w6 ⟨x6, rfl, hx6, h6⟩
  have b6 : Below W1.heap.size W1 w6 := Below.trans b5 (h6.mono b5.size)
  have y6 : w5.heap.size ≤ w6.heap.size := h6.size
  have z6 : W1.heap.size ≤ w6.heap.size := b6.size
  have Xt_6 := Lib.hid (Xt_5.out.below h6)
  clear Xt_5
  have Xf_6 := Lib.hid hx6
  clear hx6
  clear h6
  go_wp2_with fail
  refine (toM_is m mv HNm.out _ (Hm.out.below b6)).mono ?_
  rintro e w7 ⟨x7, rfl, hx7, h7⟩
  have b7 : Below W1.heap.size W1 w7 := Below.trans b6 (h7.mono b6.size)
  have y7 : w6.heap.size ≤ w7.heap.size := h7.size
  have z7 : W1.heap.size ≤ w7.heap.size := b7.size
  have Xt_7 := Lib.hid (Xt_6.out.below h7)
  clear Xt_6
  have Xf_7 := Lib.hid (Xf_6.out.below h7)
  clear Xf_6
  have Xm_7 := Lib.hid hx7
  clear hx7
  clear h7
  go_wp2_with fail
  refine (iNeed_is w7 t x5 (Xt_7.out.is) f x6 (Xf_7.out.is) m x7 (Xm_7.out.is) n _ rfl _ (Below.refl _ _) (HTW.out.below b7)).mono ?_
  rintro e w8 ⟨rfl, h8⟩
  have b8 : Below W1.heap.size W1 w8 := Below.trans b7 (h8.mono b7.size)
  have y8 : w7.heap.size ≤ w8.heap.size := h8.size
  have z8 : W1.heap.size ≤ w8.heap.size := b8.size
  have Xt_8 := Lib.hid (Xt_7.out.below h8)
  clear Xt_7
  have Xf_8 := Lib.hid (Xf_7.out.below h8)
  clear Xf_7
  have Xm_8 := Lib.hid (Xm_7.out.below h8)
  clear Xm_7
  clear h8
  go_wp2_with fail
  refine (toR_is t tv HNt.out _ (Ht.out.below b8)).mono ?_
  rintro e w9 ⟨x9, rfl, hx9, h9⟩
  have b9 : Below W1.heap.size W1 w9 := Below.trans b8 (h9.mono b8.size)
  have y9 : w8.heap.size ≤ w9.heap.size := h9.size
  have z9 : W1.heap.size ≤ w9.heap.size := b9.size
  have Xt_9 := Lib.hid (Xt_8.out.below h9)
  clear Xt_8
  have Xf_9 := Lib.hid (Xf_8.out.below h9)
  clear Xf_8
  have Xm_9 := Lib.hid (Xm_8.out.below h9)
  clear Xm_8
  have Y9 := Lib.hid hx9
  clear hx9
  clear h9
  go_wp2_with fail
  refine (eqR_arg t x5 x9 HNt.out _ Xt_9.out.is Y9.out.is).mono ?_
  rintro e w10 ⟨rfl, h10⟩
  have b10 : Below W1.heap.size W1 w10 := Below.trans b9 (h10.mono b9.size)
  have y10 : w9.heap.size ≤ w10.heap.size := h10.size
  have z10 : W1.heap.size ≤ w10.heap.size := b10.size
  have Xt_10 := Lib.hid (Xt_9.out.below h10)
  clear Xt_9
  have Xf_10 := Lib.hid (Xf_9.out.below h10)
  clear Xf_9
  have Xm_10 := Lib.hid (Xm_9.out.below h10)
  clear Xm_9
  clear h10
  clear Y9
  go_wp2_with fail
  refine (toM_is f fv HNf.out _ (Hf.out.below b10)).mono ?_
  rintro e w11 ⟨x11, rfl, hx11, h11⟩
  have b11 : Below W1.heap.size W1 w11 := Below.trans b10 (h11.mono b10.size)
  have y11 : w10.heap.size ≤ w11.heap.size := h11.size
  have z11 : W1.heap.size ≤ w11.heap.size := b11.size
  have Xt_11 := Lib.hid (Xt_10.out.below h11)
  clear Xt_10
  have Xf_11 := Lib.hid (Xf_10.out.below h11)
  clear Xf_10
  have Xm_11 := Lib.hid (Xm_10.out.below h11)
  clear Xm_10
  have Y11 := Lib.hid hx11
  clear hx11
  clear h11
  go_wp2_with fail
  refine (eqM_arg f x6 x11 HNf.out _ Xf_11.out.is Y11.out.is).mono ?_
  rintro e w12 ⟨rfl, h12⟩
  have b12 : Below W1.heap.size W1 w12 := Below.trans b11 (h12.mono b11.size)
  have y12 : w11.heap.size ≤ w12.heap.size := h12.size
  have z12 : W1.heap.size ≤ w12.heap.size := b12.size
  have Xt_12 := Lib.hid (Xt_11.out.below h12)
  clear Xt_11
  have Xf_12 := Lib.hid (Xf_11.out.below h12)
  clear Xf_11
  have Xm_12 := Lib.hid (Xm_11.out.below h12)
  clear Xm_11
  clear h12
  clear Y11
  go_wp2_with fail
  refine (toM_is m mv HNm.out _ (Hm.out.below b12)).mono ?_
  rintro e w13 ⟨x13, rfl, hx13, h13⟩
  have b13 : Below W1.heap.size W1 w13 := Below.trans b12 (h13.mono b12.size)
  have y13 : w12.heap.size ≤ w13.heap.size := h13.size
  have z13 : W1.heap.size ≤ w13.heap.size := b13.size
  have Xt_13 := Lib.hid (Xt_12.out.below h13)
  clear Xt_12
  have Xf_13 := Lib.hid (Xf_12.out.below h13)
  clear Xf_12
  have Xm_13 := Lib.hid (Xm_12.out.below h13)
  clear Xm_12
  have Y13 := Lib.hid hx13
  clear hx13
  clear h13
  go_wp2_with fail
  refine (eqM_arg m x7 x13 HNm.out _ Xm_13.out.is Y13.out.is).mono ?_
  rintro e w14 ⟨rfl, h14⟩
  have b14 : Below W1.heap.size W1 w14 := Below.trans b13 (h14.mono b13.size)
  have y14 : w13.heap.size ≤ w14.heap.size := h14.size
  have z14 : W1.heap.size ≤ w14.heap.size := b14.size
  have Xt_14 := Lib.hid (Xt_13.out.below h14)
  clear Xt_13
  have Xf_14 := Lib.hid (Xf_13.out.below h14)
  clear Xf_13
  have Xm_14 := Lib.hid (Xm_13.out.below h14)
  clear Xm_13
  clear h14
  clear Y13
  go_wp2
  go_ret
  exact ⟨by first | rfl | exact retb (by simp), HB.out.trans (b14.mono HB.out.size)⟩
set_option maxHeartbeats 2000000 in
theorem w_ExactPatternOk (t : List (List Int)) (tv : Value) (f : Mk) (fv : Value) (m : Mk) (mv : Value) (n : Int) (W : World) (ht : IsR W tv t) (hf : IsM W fv f) (hm : IsM W mv m) (hT : TabW W) :
    Calls Tryd.prog 11 #[tv, fv, mv, .int .i64 n] W fun e w' => e = .returned (.bool true) ∧ Below W.heap.size W w' := by
  obtain ⟨W1, hW⟩ : ∃ W1, W1 = W := ⟨_, rfl⟩
  have hb1 : Below W.heap.size W W1 := by rw [hW]; exact (Below.refl _ _)
  have Ht := Lib.hid (ht.below hb1)
  clear ht
  have Hf := Lib.hid (hf.below hb1)
  clear hf
  have Hm := Lib.hid (hm.below hb1)
  clear hm
  have HTW := Lib.hid (hT.below hb1)
  clear hT
  have HB := Lib.hid hb1
  have b0 := Below.refl W1.heap.size W1
  clear hb1
  go_enter Tryd.func11, Tryd.ntmps11
  go_wp2_with fail
  subst hW
  refine (szR_is t tv 1048576 (by omega) (by omega) _ Ht.out).mono ?_
  rintro e w' ⟨rfl, rfl⟩
  rcases szL_cases (t.length + tot t) (left := 1048576) (by omega) (by omega) with hz | ⟨l1, m1, hn⟩
  · rw [hz]; go_wp2; go_ret; exact ⟨rfl, HB.out⟩
  obtain ⟨s1, hs⟩ : ∃ z, szL (t.length + tot t) 1048576 = z := ⟨_, rfl⟩
  rw [hs] at l1 m1 ⊢
  have HNt := Lib.hid hn; clear hn hs
  go_wp2_with fail
  refine (szM_is f fv s1 l1 m1 _ Hf.out).mono ?_
  rintro e w' ⟨rfl, rfl⟩
  rcases szL_cases (f.length + totM f) (left := s1) l1 m1 with hz | ⟨l2, m2, hn⟩
  · rw [hz]; go_wp2; go_ret; exact ⟨rfl, HB.out⟩
  obtain ⟨s2, hs⟩ : ∃ z, szL (f.length + totM f) s1 = z := ⟨_, rfl⟩
  rw [hs] at l2 m2 ⊢
  have HNf := Lib.hid hn; clear hn hs
  go_wp2_with fail
  refine (szM_is m mv s2 l2 m2 _ Hm.out).mono ?_
  rintro e w' ⟨rfl, rfl⟩
  rcases szL_cases (m.length + totM m) (left := s2) l2 m2 with hz | ⟨l3, m3, hn⟩
  · rw [hz]; go_wp2; go_ret; exact ⟨rfl, HB.out⟩
  obtain ⟨s3, hs⟩ : ∃ z, szL (m.length + totM m) s2 = z := ⟨_, rfl⟩
  rw [hs] at l3 m3 ⊢
  have HNm := Lib.hid hn; clear hn hs
  go_wp2_with fail
  refine (toR_is t tv HNt.out _ (Ht.out.below b0)).mono ?_
  rintro e w1 ⟨x1, rfl, hx1, h1⟩
  have b1 : Below W1.heap.size W1 w1 := Below.trans b0 (h1.mono b0.size)
  have y1 : W1.heap.size ≤ w1.heap.size := h1.size
  have z1 : W1.heap.size ≤ w1.heap.size := b1.size
  have Xt_1 := Lib.hid hx1
  clear hx1
  clear h1
  go_wp2_with fail
  refine (toM_is f fv HNf.out _ (Hf.out.below b1)).mono ?_
  rintro e w2 ⟨x2, rfl, hx2, h2⟩
  have b2 : Below W1.heap.size W1 w2 := Below.trans b1 (h2.mono b1.size)
  have y2 : w1.heap.size ≤ w2.heap.size := h2.size
  have z2 : W1.heap.size ≤ w2.heap.size := b2.size
  have Xt_2 := Lib.hid (Xt_1.out.below h2)
  clear Xt_1
  have Xf_2 := Lib.hid hx2
  clear hx2
  clear h2
  go_wp2_with fail
  refine (toM_is m mv HNm.out _ (Hm.out.below b2)).mono ?_
  rintro e w3 ⟨x3, rfl, hx3, h3⟩
  have b3 : Below W1.heap.size W1 w3 := Below.trans b2 (h3.mono b2.size)
  have y3 : w2.heap.size ≤ w3.heap.size := h3.size
  have z3 : W1.heap.size ≤ w3.heap.size := b3.size
  have Xt_3 := Lib.hid (Xt_2.out.below h3)
  clear Xt_2
  have Xf_3 := Lib.hid (Xf_2.out.below h3)
  clear Xf_2
  have Xm_3 := Lib.hid hx3
  clear hx3
  clear h3
  go_wp2_with fail
  refine (sOk2_is w3 t x1 (Xt_3.out.is) f x2 (Xf_3.out.is) m x3 (Xm_3.out.is) n _ rfl _ (Below.refl _ _)).mono ?_
  rintro e w4 ⟨rfl, h4⟩
  have b4 : Below W1.heap.size W1 w4 := Below.trans b3 (h4.mono b3.size)
  have y4 : w3.heap.size ≤ w4.heap.size := h4.size
  have z4 : W1.heap.size ≤ w4.heap.size := b4.size
  have Xt_4 := Lib.hid (Xt_3.out.below h4)
  clear Xt_3
  have Xf_4 := Lib.hid (Xf_3.out.below h4)
  clear Xf_3
  have Xm_4 := Lib.hid (Xm_3.out.below h4)
  clear Xm_3
  clear h4
  clear Xt_4
  clear Xf_4
  clear Xm_4
  go_wp2_with fail
  refine (toR_is t tv HNt.out _ (Ht.out.below b4)).mono ?_
  rintro e w5 ⟨x5, rfl, hx5, h5⟩
  have b5 : Below W1.heap.size W1 w5 := Below.trans b4 (h5.mono b4.size)
  have y5 : w4.heap.size ≤ w5.heap.size := h5.size
  have z5 : W1.heap.size ≤ w5.heap.size := b5.size
  have Xt_5 := Lib.hid hx5
  clear hx5
  clear h5
  go_wp2_with fail
  refine (toM_is f fv HNf.out _ (Hf.out.below b5)).mono ?_
  rintro e w6 ⟨x6, rfl, hx6, h6⟩
  have b6 : Below W1.heap.size W1 w6 := Below.trans b5 (h6.mono b5.size)
  have y6 : w5.heap.size ≤ w6.heap.size := h6.size
  have z6 : W1.heap.size ≤ w6.heap.size := b6.size
  have Xt_6 := Lib.hid (Xt_5.out.below h6)
  clear Xt_5
  have Xf_6 := Lib.hid hx6
  clear hx6
  clear h6
  go_wp2_with fail
  refine (toM_is m mv HNm.out _ (Hm.out.below b6)).mono ?_
  rintro e w7 ⟨x7, rfl, hx7, h7⟩
  have b7 : Below W1.heap.size W1 w7 := Below.trans b6 (h7.mono b6.size)
  have y7 : w6.heap.size ≤ w7.heap.size := h7.size
  have z7 : W1.heap.size ≤ w7.heap.size := b7.size
  have Xt_7 := Lib.hid (Xt_6.out.below h7)
  clear Xt_6
  have Xf_7 := Lib.hid (Xf_6.out.below h7)
  clear Xf_6
  have Xm_7 := Lib.hid hx7
  clear hx7
  clear h7
  go_wp2_with fail
  refine (iOk_is w7 t x5 (Xt_7.out.is) f x6 (Xf_7.out.is) m x7 (Xm_7.out.is) n _ rfl _ (Below.refl _ _) (HTW.out.below b7)).mono ?_
  rintro e w8 ⟨rfl, h8⟩
  have b8 : Below W1.heap.size W1 w8 := Below.trans b7 (h8.mono b7.size)
  have y8 : w7.heap.size ≤ w8.heap.size := h8.size
  have z8 : W1.heap.size ≤ w8.heap.size := b8.size
  have Xt_8 := Lib.hid (Xt_7.out.below h8)
  clear Xt_7
  have Xf_8 := Lib.hid (Xf_7.out.below h8)
  clear Xf_7
  have Xm_8 := Lib.hid (Xm_7.out.below h8)
  clear Xm_7
  clear h8
  go_wp2_with fail
  refine (toR_is t tv HNt.out _ (Ht.out.below b8)).mono ?_
  rintro e w9 ⟨x9, rfl, hx9, h9⟩
  have b9 : Below W1.heap.size W1 w9 := Below.trans b8 (h9.mono b8.size)
  have y9 : w8.heap.size ≤ w9.heap.size := h9.size
  have z9 : W1.heap.size ≤ w9.heap.size := b9.size
  have Xt_9 := Lib.hid (Xt_8.out.below h9)
  clear Xt_8
  have Xf_9 := Lib.hid (Xf_8.out.below h9)
  clear Xf_8
  have Xm_9 := Lib.hid (Xm_8.out.below h9)
  clear Xm_8
  have Y9 := Lib.hid hx9
  clear hx9
  clear h9
  go_wp2_with fail
  refine (eqR_arg t x5 x9 HNt.out _ Xt_9.out.is Y9.out.is).mono ?_
  rintro e w10 ⟨rfl, h10⟩
  have b10 : Below W1.heap.size W1 w10 := Below.trans b9 (h10.mono b9.size)
  have y10 : w9.heap.size ≤ w10.heap.size := h10.size
  have z10 : W1.heap.size ≤ w10.heap.size := b10.size
  have Xt_10 := Lib.hid (Xt_9.out.below h10)
  clear Xt_9
  have Xf_10 := Lib.hid (Xf_9.out.below h10)
  clear Xf_9
  have Xm_10 := Lib.hid (Xm_9.out.below h10)
  clear Xm_9
  clear h10
  clear Y9
  go_wp2_with fail
  refine (toM_is f fv HNf.out _ (Hf.out.below b10)).mono ?_
  rintro e w11 ⟨x11, rfl, hx11, h11⟩
  have b11 : Below W1.heap.size W1 w11 := Below.trans b10 (h11.mono b10.size)
  have y11 : w10.heap.size ≤ w11.heap.size := h11.size
  have z11 : W1.heap.size ≤ w11.heap.size := b11.size
  have Xt_11 := Lib.hid (Xt_10.out.below h11)
  clear Xt_10
  have Xf_11 := Lib.hid (Xf_10.out.below h11)
  clear Xf_10
  have Xm_11 := Lib.hid (Xm_10.out.below h11)
  clear Xm_10
  have Y11 := Lib.hid hx11
  clear hx11
  clear h11
  go_wp2_with fail
  refine (eqM_arg f x6 x11 HNf.out _ Xf_11.out.is Y11.out.is).mono ?_
  rintro e w12 ⟨rfl, h12⟩
  have b12 : Below W1.heap.size W1 w12 := Below.trans b11 (h12.mono b11.size)
  have y12 : w11.heap.size ≤ w12.heap.size := h12.size
  have z12 : W1.heap.size ≤ w12.heap.size := b12.size
  have Xt_12 := Lib.hid (Xt_11.out.below h12)
  clear Xt_11
  have Xf_12 := Lib.hid (Xf_11.out.below h12)
  clear Xf_11
  have Xm_12 := Lib.hid (Xm_11.out.below h12)
  clear Xm_11
  clear h12
  clear Y11
  go_wp2_with fail
  refine (toM_is m mv HNm.out _ (Hm.out.below b12)).mono ?_
  rintro e w13 ⟨x13, rfl, hx13, h13⟩
  have b13 : Below W1.heap.size W1 w13 := Below.trans b12 (h13.mono b12.size)
  have y13 : w12.heap.size ≤ w13.heap.size := h13.size
  have z13 : W1.heap.size ≤ w13.heap.size := b13.size
  have Xt_13 := Lib.hid (Xt_12.out.below h13)
  clear Xt_12
  have Xf_13 := Lib.hid (Xf_12.out.below h13)
  clear Xf_12
  have Xm_13 := Lib.hid (Xm_12.out.below h13)
  clear Xm_12
  have Y13 := Lib.hid hx13
  clear hx13
  clear h13
  go_wp2_with fail
  refine (eqM_arg m x7 x13 HNm.out _ Xm_13.out.is Y13.out.is).mono ?_
  rintro e w14 ⟨rfl, h14⟩
  have b14 : Below W1.heap.size W1 w14 := Below.trans b13 (h14.mono b13.size)
  have y14 : w13.heap.size ≤ w14.heap.size := h14.size
  have z14 : W1.heap.size ≤ w14.heap.size := b14.size
  have Xt_14 := Lib.hid (Xt_13.out.below h14)
  clear Xt_13
  have Xf_14 := Lib.hid (Xf_13.out.below h14)
  clear Xf_13
  have Xm_14 := Lib.hid (Xm_13.out.below h14)
  clear Xm_13
  clear h14
  clear Y13
  go_wp2
  go_ret
  exact ⟨by first | rfl | exact retb (by simp), HB.out.trans (b14.mono HB.out.size)⟩
set_option maxHeartbeats 2000000 in
theorem w_ExactPatternCost (t : List (List Int)) (tv : Value) (m : Mk) (mv : Value) (W : World) (ht : IsR W tv t) (hm : IsM W mv m) (hT : TabW W) :
    Calls Tryd.prog 12 #[tv, mv] W fun e w' => e = .returned (.bool true) ∧ Below W.heap.size W w' := by
  obtain ⟨W1, hW⟩ : ∃ W1, W1 = W := ⟨_, rfl⟩
  have hb1 : Below W.heap.size W W1 := by rw [hW]; exact (Below.refl _ _)
  have Ht := Lib.hid (ht.below hb1)
  clear ht
  have Hm := Lib.hid (hm.below hb1)
  clear hm
  have HTW := Lib.hid (hT.below hb1)
  clear hT
  have HB := Lib.hid hb1
  have b0 := Below.refl W1.heap.size W1
  clear hb1
  go_enter Tryd.func12, Tryd.ntmps12
  go_wp2_with fail
  subst hW
  refine (szR_is t tv 1048576 (by omega) (by omega) _ Ht.out).mono ?_
  rintro e w' ⟨rfl, rfl⟩
  rcases szL_cases (t.length + tot t) (left := 1048576) (by omega) (by omega) with hz | ⟨l1, m1, hn⟩
  · rw [hz]; go_wp2; go_ret; exact ⟨rfl, HB.out⟩
  obtain ⟨s1, hs⟩ : ∃ z, szL (t.length + tot t) 1048576 = z := ⟨_, rfl⟩
  rw [hs] at l1 m1 ⊢
  have HNt := Lib.hid hn; clear hn hs
  go_wp2_with fail
  refine (szM_is m mv s1 l1 m1 _ Hm.out).mono ?_
  rintro e w' ⟨rfl, rfl⟩
  rcases szL_cases (m.length + totM m) (left := s1) l1 m1 with hz | ⟨l2, m2, hn⟩
  · rw [hz]; go_wp2; go_ret; exact ⟨rfl, HB.out⟩
  obtain ⟨s2, hs⟩ : ∃ z, szL (m.length + totM m) s1 = z := ⟨_, rfl⟩
  rw [hs] at l2 m2 ⊢
  have HNm := Lib.hid hn; clear hn hs
  go_wp2_with fail
  refine (toR_is t tv HNt.out _ (Ht.out.below b0)).mono ?_
  rintro e w1 ⟨x1, rfl, hx1, h1⟩
  have b1 : Below W1.heap.size W1 w1 := Below.trans b0 (h1.mono b0.size)
  have y1 : W1.heap.size ≤ w1.heap.size := h1.size
  have z1 : W1.heap.size ≤ w1.heap.size := b1.size
  have Xt_1 := Lib.hid hx1
  clear hx1
  clear h1
  go_wp2_with fail
  refine (toM_is m mv HNm.out _ (Hm.out.below b1)).mono ?_
  rintro e w2 ⟨x2, rfl, hx2, h2⟩
  have b2 : Below W1.heap.size W1 w2 := Below.trans b1 (h2.mono b1.size)
  have y2 : w1.heap.size ≤ w2.heap.size := h2.size
  have z2 : W1.heap.size ≤ w2.heap.size := b2.size
  have Xt_2 := Lib.hid (Xt_1.out.below h2)
  clear Xt_1
  have Xm_2 := Lib.hid hx2
  clear hx2
  clear h2
  go_wp2_with fail
  refine (sCost_is w2 t x1 (Xt_2.out.is) m x2 (Xm_2.out.is) _ rfl _ (Below.refl _ _)).mono ?_
  rintro e w3 ⟨rfl, h3⟩
  have b3 : Below W1.heap.size W1 w3 := Below.trans b2 (h3.mono b2.size)
  have y3 : w2.heap.size ≤ w3.heap.size := h3.size
  have z3 : W1.heap.size ≤ w3.heap.size := b3.size
  have Xt_3 := Lib.hid (Xt_2.out.below h3)
  clear Xt_2
  have Xm_3 := Lib.hid (Xm_2.out.below h3)
  clear Xm_2
  clear h3
  clear Xt_3
  clear Xm_3
  go_wp2_with fail
  refine (toR_is t tv HNt.out _ (Ht.out.below b3)).mono ?_
  rintro e w4 ⟨x4, rfl, hx4, h4⟩
  have b4 : Below W1.heap.size W1 w4 := Below.trans b3 (h4.mono b3.size)
  have y4 : w3.heap.size ≤ w4.heap.size := h4.size
  have z4 : W1.heap.size ≤ w4.heap.size := b4.size
  have Xt_4 := Lib.hid hx4
  clear hx4
  clear h4
  go_wp2_with fail
  refine (toM_is m mv HNm.out _ (Hm.out.below b4)).mono ?_
  rintro e w5 ⟨x5, rfl, hx5, h5⟩
  have b5 : Below W1.heap.size W1 w5 := Below.trans b4 (h5.mono b4.size)
  have y5 : w4.heap.size ≤ w5.heap.size := h5.size
  have z5 : W1.heap.size ≤ w5.heap.size := b5.size
  have Xt_5 := Lib.hid (Xt_4.out.below h5)
  clear Xt_4
  have Xm_5 := Lib.hid hx5
  clear hx5
  clear h5
  go_wp2_with fail
  refine (iCost_is w5 t x4 (Xt_5.out.is) m x5 (Xm_5.out.is) _ rfl _ (Below.refl _ _) (HTW.out.below b5)).mono ?_
  rintro e w6 ⟨rfl, h6⟩
  have b6 : Below W1.heap.size W1 w6 := Below.trans b5 (h6.mono b5.size)
  have y6 : w5.heap.size ≤ w6.heap.size := h6.size
  have z6 : W1.heap.size ≤ w6.heap.size := b6.size
  have Xt_6 := Lib.hid (Xt_5.out.below h6)
  clear Xt_5
  have Xm_6 := Lib.hid (Xm_5.out.below h6)
  clear Xm_5
  clear h6
  go_wp2_with fail
  refine (toR_is t tv HNt.out _ (Ht.out.below b6)).mono ?_
  rintro e w7 ⟨x7, rfl, hx7, h7⟩
  have b7 : Below W1.heap.size W1 w7 := Below.trans b6 (h7.mono b6.size)
  have y7 : w6.heap.size ≤ w7.heap.size := h7.size
  have z7 : W1.heap.size ≤ w7.heap.size := b7.size
  have Xt_7 := Lib.hid (Xt_6.out.below h7)
  clear Xt_6
  have Xm_7 := Lib.hid (Xm_6.out.below h7)
  clear Xm_6
  have Y7 := Lib.hid hx7
  clear hx7
  clear h7
  go_wp2_with fail
  refine (eqR_arg t x4 x7 HNt.out _ Xt_7.out.is Y7.out.is).mono ?_
  rintro e w8 ⟨rfl, h8⟩
  have b8 : Below W1.heap.size W1 w8 := Below.trans b7 (h8.mono b7.size)
  have y8 : w7.heap.size ≤ w8.heap.size := h8.size
  have z8 : W1.heap.size ≤ w8.heap.size := b8.size
  have Xt_8 := Lib.hid (Xt_7.out.below h8)
  clear Xt_7
  have Xm_8 := Lib.hid (Xm_7.out.below h8)
  clear Xm_7
  clear h8
  clear Y7
  go_wp2_with fail
  refine (toM_is m mv HNm.out _ (Hm.out.below b8)).mono ?_
  rintro e w9 ⟨x9, rfl, hx9, h9⟩
  have b9 : Below W1.heap.size W1 w9 := Below.trans b8 (h9.mono b8.size)
  have y9 : w8.heap.size ≤ w9.heap.size := h9.size
  have z9 : W1.heap.size ≤ w9.heap.size := b9.size
  have Xt_9 := Lib.hid (Xt_8.out.below h9)
  clear Xt_8
  have Xm_9 := Lib.hid (Xm_8.out.below h9)
  clear Xm_8
  have Y9 := Lib.hid hx9
  clear hx9
  clear h9
  go_wp2_with fail
  refine (eqM_arg m x5 x9 HNm.out _ Xm_9.out.is Y9.out.is).mono ?_
  rintro e w10 ⟨rfl, h10⟩
  have b10 : Below W1.heap.size W1 w10 := Below.trans b9 (h10.mono b9.size)
  have y10 : w9.heap.size ≤ w10.heap.size := h10.size
  have z10 : W1.heap.size ≤ w10.heap.size := b10.size
  have Xt_10 := Lib.hid (Xt_9.out.below h10)
  clear Xt_9
  have Xm_10 := Lib.hid (Xm_9.out.below h10)
  clear Xm_9
  clear h10
  clear Y9
  go_wp2
  go_ret
  exact ⟨by first | rfl | exact retb (by simp), HB.out.trans (b10.mono HB.out.size)⟩
end Go.Proofs.YtcbgihjoopjmeaaDoor
