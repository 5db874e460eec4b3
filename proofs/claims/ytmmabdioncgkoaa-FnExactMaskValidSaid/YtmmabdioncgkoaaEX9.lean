/- Exact laws of chapter 11: masks. -/
import Derived.Test.YtmmabdioncgkoaaTI
import Derived.Test.YtmmabdioncgkoaaXM
import Derived.Deep.RegionHeld3
namespace Go.Proofs.Ytmmabdioncgkoaa
open Go.RowKit
theorem mm_le : ∀ m : Mk, mmany m ≤ totM m
  | [] => by simp [mmany, totM]
  | r :: m => by
    have h1 := mm_le m
    have h2 := cntB_le r
    simp only [mmany, totM, List.map_cons, List.sum_cons] at h1 ⊢
    omega
set_option maxHeartbeats 2000000 in
theorem w_ExactMaskMany (m : Mk) (mv : Value) (W : World) (hm : IsM W mv m) :
    Calls Try.prog 10 #[mv] W fun e w' => e = .returned (.bool true) ∧ Below W.heap.size W w' := by
  obtain ⟨W1, hW⟩ : ∃ W1, W1 = W := ⟨_, rfl⟩
  have hb1 : Below W.heap.size W W1 := by rw [hW]; exact (Below.refl _ _)
  have Hm := Lib.hid (hm.below hb1)
  clear hm
  have HB := Lib.hid hb1
  have b0 := Below.refl W1.heap.size W1
  clear hb1
  go_enter Try.func10, Try.ntmps10
  go_wp2_with fail
  subst hW
  refine (szM_is m mv 1048576 (by omega) (by omega) _ Hm.out).mono ?_
  rintro e w' ⟨rfl, rfl⟩
  rcases szL_cases (m.length + totM m) (left := 1048576) (by omega) (by omega) with hz | ⟨l1, m1, hn⟩
  · rw [hz]; go_wp2; go_ret; exact ⟨rfl, HB.out⟩
  obtain ⟨s1, hs⟩ : ∃ z, szL (m.length + totM m) 1048576 = z := ⟨_, rfl⟩
  rw [hs] at l1 m1 ⊢
  have HNm := Lib.hid hn; clear hn hs
  go_wp2_with fail
  refine (toM_is m mv HNm.out _ (Hm.out.below b0)).mono ?_
  rintro e w1 ⟨x1, rfl, hx1, h1⟩
  have b1 : Below W1.heap.size W1 w1 := Below.trans b0 (h1.mono b0.size)
  have y1 : W1.heap.size ≤ w1.heap.size := h1.size
  have z1 : W1.heap.size ≤ w1.heap.size := b1.size
  have Xm_1 := Lib.hid hx1
  clear hx1
  clear h1
  go_wp2_with fail
  refine (sMaskMany_is w1 m x1 (Xm_1.out.is) (by have := mm_le m; have := HNm.out; omega) _ rfl _ (Below.refl _ _)).mono ?_
  rintro e w2 ⟨rfl, h2⟩
  have b2 : Below W1.heap.size W1 w2 := Below.trans b1 (h2.mono b1.size)
  have y2 : w1.heap.size ≤ w2.heap.size := h2.size
  have z2 : W1.heap.size ≤ w2.heap.size := b2.size
  have Xm_2 := Lib.hid (Xm_1.out.below h2)
  clear Xm_1
  clear h2
  clear Xm_2
  go_wp2_with fail
  refine (toM_is m mv HNm.out _ (Hm.out.below b2)).mono ?_
  rintro e w3 ⟨x3, rfl, hx3, h3⟩
  have b3 : Below W1.heap.size W1 w3 := Below.trans b2 (h3.mono b2.size)
  have y3 : w2.heap.size ≤ w3.heap.size := h3.size
  have z3 : W1.heap.size ≤ w3.heap.size := b3.size
  have Xm_3 := Lib.hid hx3
  clear hx3
  clear h3
  go_wp2_with fail
  refine (iMaskMany_is w3 m x3 (Xm_3.out.is) (by have := mm_le m; have := HNm.out; omega) _ rfl _ (Below.refl _ _)).mono ?_
  rintro e w4 ⟨rfl, h4⟩
  have b4 : Below W1.heap.size W1 w4 := Below.trans b3 (h4.mono b3.size)
  have y4 : w3.heap.size ≤ w4.heap.size := h4.size
  have z4 : W1.heap.size ≤ w4.heap.size := b4.size
  have Xm_4 := Lib.hid (Xm_3.out.below h4)
  clear Xm_3
  clear h4
  go_wp2_with fail
  refine (toM_is m mv HNm.out _ (Hm.out.below b4)).mono ?_
  rintro e w5 ⟨x5, rfl, hx5, h5⟩
  have b5 : Below W1.heap.size W1 w5 := Below.trans b4 (h5.mono b4.size)
  have y5 : w4.heap.size ≤ w5.heap.size := h5.size
  have z5 : W1.heap.size ≤ w5.heap.size := b5.size
  have Xm_5 := Lib.hid (Xm_4.out.below h5)
  clear Xm_4
  have Y5 := Lib.hid hx5
  clear hx5
  clear h5
  go_wp2_with fail
  refine (eqM_arg m x3 x5 HNm.out _ Xm_5.out.is Y5.out.is).mono ?_
  rintro e w6 ⟨rfl, h6⟩
  have b6 : Below W1.heap.size W1 w6 := Below.trans b5 (h6.mono b5.size)
  have y6 : w5.heap.size ≤ w6.heap.size := h6.size
  have z6 : W1.heap.size ≤ w6.heap.size := b6.size
  have Xm_6 := Lib.hid (Xm_5.out.below h6)
  clear Xm_5
  clear h6
  clear Y5
  go_wp2
  go_ret
  exact ⟨by first | rfl | exact retb (by simp), HB.out.trans (b6.mono HB.out.size)⟩
set_option maxHeartbeats 2000000 in
theorem w_ExactMaskValid (t : List (List Int)) (tv : Value) (m : Mk) (mv : Value) (W : World) (ht : IsR W tv t) (hm : IsM W mv m) :
    Calls Try.prog 9 #[tv, mv] W fun e w' => e = .returned (.bool true) ∧ Below W.heap.size W w' := by
  obtain ⟨W1, hW⟩ : ∃ W1, W1 = W := ⟨_, rfl⟩
  have hb1 : Below W.heap.size W W1 := by rw [hW]; exact (Below.refl _ _)
  have Ht := Lib.hid (ht.below hb1)
  clear ht
  have Hm := Lib.hid (hm.below hb1)
  clear hm
  have HB := Lib.hid hb1
  have b0 := Below.refl W1.heap.size W1
  clear hb1
  go_enter Try.func9, Try.ntmps9
  go_wp2_with fail
  subst hW
  refine (szR_is t tv 1048576 (by omega) (by omega) _ Ht.out).mono ?_
  rintro e w' ⟨rfl, rfl⟩
  rcases szL_cases (t.length + tot t) (left := 1048576) (by omega) (by omega) with hz | ⟨l1, m1, hn⟩
  · rw [hz]; go_wp2; go_ret; exact ⟨rfl, HB.out⟩
  obtain ⟨s1, hs⟩ : ∃ z, szL (t.length + tot t) 1048576 = z := ⟨_, rfl⟩
  rw [hs] at l1 m1 ⊢
  have HNt := Lib.hid hn; clear hn hs
  go_wp2_with fail
  refine (szM_is m mv s1 l1 m1 _ Hm.out).mono ?_
  rintro e w' ⟨rfl, rfl⟩
  rcases szL_cases (m.length + totM m) (left := s1) l1 m1 with hz | ⟨l2, m2, hn⟩
  · rw [hz]; go_wp2; go_ret; exact ⟨rfl, HB.out⟩
  obtain ⟨s2, hs⟩ : ∃ z, szL (m.length + totM m) s1 = z := ⟨_, rfl⟩
  rw [hs] at l2 m2 ⊢
  have HNm := Lib.hid hn; clear hn hs
  go_wp2_with fail
  refine (toR_is t tv HNt.out _ (Ht.out.below b0)).mono ?_
  rintro e w1 ⟨x1, rfl, hx1, h1⟩
  have b1 : Below W1.heap.size W1 w1 := Below.trans b0 (h1.mono b0.size)
  have y1 : W1.heap.size ≤ w1.heap.size := h1.size
  have z1 : W1.heap.size ≤ w1.heap.size := b1.size
  have Xt_1 := Lib.hid hx1
  clear hx1
  clear h1
  go_wp2_with fail
  refine (toM_is m mv HNm.out _ (Hm.out.below b1)).mono ?_
  rintro e w2 ⟨x2, rfl, hx2, h2⟩
  have b2 : Below W1.heap.size W1 w2 := Below.trans b1 (h2.mono b1.size)
  have y2 : w1.heap.size ≤ w2.heap.size := h2.size
  have z2 : W1.heap.size ≤ w2.heap.size := b2.size
  have Xt_2 := Lib.hid (Xt_1.out.below h2)
  clear Xt_1
  have Xm_2 := Lib.hid hx2
  clear hx2
  clear h2
  go_wp2_with fail
  refine (sMask_is w2 t x1 (Xt_2.out.is) m x2 (Xm_2.out.is) _ rfl _ (Below.refl _ _)).mono ?_
  rintro e w3 ⟨rfl, h3⟩
  have b3 : Below W1.heap.size W1 w3 := Below.trans b2 (h3.mono b2.size)
  have y3 : w2.heap.size ≤ w3.heap.size := h3.size
  have z3 : W1.heap.size ≤ w3.heap.size := b3.size
  have Xt_3 := Lib.hid (Xt_2.out.below h3)
  clear Xt_2
  have Xm_3 := Lib.hid (Xm_2.out.below h3)
  clear Xm_2
  clear h3
  clear Xt_3
  clear Xm_3
  go_wp2_with fail
  refine (toR_is t tv HNt.out _ (Ht.out.below b3)).mono ?_
  rintro e w4 ⟨x4, rfl, hx4, h4⟩
  have b4 : Below W1.heap.size W1 w4 := Below.trans b3 (h4.mono b3.size)
  have y4 : w3.heap.size ≤ w4.heap.size := h4.size
  have z4 : W1.heap.size ≤ w4.heap.size := b4.size
  have Xt_4 := Lib.hid hx4
  clear hx4
  clear h4
  go_wp2_with fail
  refine (toM_is m mv HNm.out _ (Hm.out.below b4)).mono ?_
  rintro e w5 ⟨x5, rfl, hx5, h5⟩
  have b5 : Below W1.heap.size W1 w5 := Below.trans b4 (h5.mono b4.size)
  have y5 : w4.heap.size ≤ w5.heap.size := h5.size
  have z5 : W1.heap.size ≤ w5.heap.size := b5.size
  have Xt_5 := Lib.hid (Xt_4.out.below h5)
  clear Xt_4
  have Xm_5 := Lib.hid hx5
  clear hx5
  clear h5
  go_wp2_with fail
  refine (iMask_is w5 t x4 (Xt_5.out.is) m x5 (Xm_5.out.is) _ rfl _ (Below.refl _ _)).mono ?_
  rintro e w6 ⟨rfl, h6⟩
  have b6 : Below W1.heap.size W1 w6 := Below.trans b5 (h6.mono b5.size)
  have y6 : w5.heap.size ≤ w6.heap.size := h6.size
  have z6 : W1.heap.size ≤ w6.heap.size := b6.size
  have Xt_6 := Lib.hid (Xt_5.out.below h6)
  clear Xt_5
  have Xm_6 := Lib.hid (Xm_5.out.below h6)
  clear Xm_5
  clear h6
  go_wp2_with fail
  refine (toR_is t tv HNt.out _ (Ht.out.below b6)).mono ?_
  rintro e w7 ⟨x7, rfl, hx7, h7⟩
  have b7 : Below W1.heap.size W1 w7 := Below.trans b6 (h7.mono b6.size)
  have y7 : w6.heap.size ≤ w7.heap.size := h7.size
  have z7 : W1.heap.size ≤ w7.heap.size := b7.size
  have Xt_7 := Lib.hid (Xt_6.out.below h7)
  clear Xt_6
  have Xm_7 := Lib.hid (Xm_6.out.below h7)
  clear Xm_6
  have Y7 := Lib.hid hx7
  clear hx7
  clear h7
  go_wp2_with fail
  refine (eqR_arg t x4 x7 HNt.out _ Xt_7.out.is Y7.out.is).mono ?_
  rintro e w8 ⟨rfl, h8⟩
  have b8 : Below W1.heap.size W1 w8 := Below.trans b7 (h8.mono b7.size)
  have y8 : w7.heap.size ≤ w8.heap.size := h8.size
  have z8 : W1.heap.size ≤ w8.heap.size := b8.size
  have Xt_8 := Lib.hid (Xt_7.out.below h8)
  clear Xt_7
  have Xm_8 := Lib.hid (Xm_7.out.below h8)
  clear Xm_7
  clear h8
  clear Y7
  go_wp2_with fail
  refine (toM_is m mv HNm.out _ (Hm.out.below b8)).mono ?_
  rintro e w9 ⟨x9, rfl, hx9, h9⟩
  have b9 : Below W1.heap.size W1 w9 := Below.trans b8 (h9.mono b8.size)
  have y9 : w8.heap.size ≤ w9.heap.size := h9.size
  have z9 : W1.heap.size ≤ w9.heap.size := b9.size
  have Xt_9 := Lib.hid (Xt_8.out.below h9)
  clear Xt_8
  have Xm_9 := Lib.hid (Xm_8.out.below h9)
  clear Xm_8
  have Y9 := Lib.hid hx9
  clear hx9
  clear h9
  go_wp2_with fail
  refine (eqM_arg m x5 x9 HNm.out _ Xm_9.out.is Y9.out.is).mono ?_
  rintro e w10 ⟨rfl, h10⟩
  have b10 : Below W1.heap.size W1 w10 := Below.trans b9 (h10.mono b9.size)
  have y10 : w9.heap.size ≤ w10.heap.size := h10.size
  have z10 : W1.heap.size ≤ w10.heap.size := b10.size
  have Xt_10 := Lib.hid (Xt_9.out.below h10)
  clear Xt_9
  have Xm_10 := Lib.hid (Xm_9.out.below h10)
  clear Xm_9
  clear h10
  clear Y9
  go_wp2
  go_ret
  exact ⟨by first | rfl | exact retb (by simp), HB.out.trans (b10.mono HB.out.size)⟩
end Go.Proofs.Ytmmabdioncgkoaa
