/- Exact laws of chapter 15: people. -/
import Derived.Test.YtjgohakiodcjmaaIP2
import Derived.Test.YtjgohakiodcjmaaSS
import Derived.Test.YtjgohakiodcjmaaXP
import Derived.Test.YtjgohakiodcjmaaXMA
import Derived.Deep.RegionHeld3
namespace Go.Proofs.Ytjgohakiodcjmaa
open Go.RowKit
set_option maxHeartbeats 2000000 in
theorem w_ExactDiffSame (a : List Pn) (av : Value) (b : List Pn) (bv : Value) (W : World) (ha : IsP W av a) (hb : IsP W bv b) :
    Calls Try.prog 11 #[av, bv] W fun e w' => e = .returned (.bool true) ∧ Below W.heap.size W w' := by
  obtain ⟨W1, hW⟩ : ∃ W1, W1 = W := ⟨_, rfl⟩
  have hb1 : Below W.heap.size W W1 := by rw [hW]; exact (Below.refl _ _)
  have Ha := Lib.hid (ha.below hb1)
  clear ha
  have Hb := Lib.hid (hb.below hb1)
  clear hb
  have HB := Lib.hid hb1
  have b0 := Below.refl W1.heap.size W1
  clear hb1
  go_enter Try.func11, Try.ntmps11
  go_wp2_with fail
  subst hW
  refine (szP_is a av 1048576 (by omega) (by omega) _ Ha.out).mono ?_
  rintro e w' ⟨rfl, rfl⟩
  rcases szL_cases a.length (left := 1048576) (by omega) (by omega) with hz | ⟨l1, m1, hn⟩
  · rw [hz]; go_wp2; go_ret; exact ⟨rfl, HB.out⟩
  obtain ⟨s1, hs⟩ : ∃ z, szL a.length 1048576 = z := ⟨_, rfl⟩
  rw [hs] at l1 m1 ⊢
  have HNa := Lib.hid hn; clear hn hs
  go_wp2_with fail
  refine (szP_is b bv s1 l1 m1 _ Hb.out).mono ?_
  rintro e w' ⟨rfl, rfl⟩
  rcases szL_cases b.length (left := s1) l1 m1 with hz | ⟨l2, m2, hn⟩
  · rw [hz]; go_wp2; go_ret; exact ⟨rfl, HB.out⟩
  obtain ⟨s2, hs⟩ : ∃ z, szL b.length s1 = z := ⟨_, rfl⟩
  rw [hs] at l2 m2 ⊢
  have HNb := Lib.hid hn; clear hn hs
  go_wp2_with fail
  refine (toP_is a av HNa.out _ (Ha.out.below b0)).mono ?_
  rintro e w1 ⟨x1, rfl, hx1, h1⟩
  have b1 : Below W1.heap.size W1 w1 := Below.trans b0 (h1.mono b0.size)
  have y1 : W1.heap.size ≤ w1.heap.size := h1.size
  have z1 : W1.heap.size ≤ w1.heap.size := b1.size
  have Xa_1 := Lib.hid hx1
  clear hx1
  clear h1
  go_wp2_with fail
  refine (toP_is b bv HNb.out _ (Hb.out.below b1)).mono ?_
  rintro e w2 ⟨x2, rfl, hx2, h2⟩
  have b2 : Below W1.heap.size W1 w2 := Below.trans b1 (h2.mono b1.size)
  have y2 : w1.heap.size ≤ w2.heap.size := h2.size
  have z2 : W1.heap.size ≤ w2.heap.size := b2.size
  have Xa_2 := Lib.hid (Xa_1.out.below h2)
  clear Xa_1
  have Xb_2 := Lib.hid hx2
  clear hx2
  clear h2
  go_wp2_with fail
  refine (sDSame_is w2 a x1 (Xa_2.out.is) b x2 (Xb_2.out.is) _ rfl _ (Below.refl _ _)).mono ?_
  rintro e w3 ⟨rfl, h3⟩
  have b3 : Below W1.heap.size W1 w3 := Below.trans b2 (h3.mono b2.size)
  have y3 : w2.heap.size ≤ w3.heap.size := h3.size
  have z3 : W1.heap.size ≤ w3.heap.size := b3.size
  have Xa_3 := Lib.hid (Xa_2.out.below h3)
  clear Xa_2
  have Xb_3 := Lib.hid (Xb_2.out.below h3)
  clear Xb_2
  clear h3
  clear Xa_3
  clear Xb_3
  go_wp2_with fail
  refine (toP_is a av HNa.out _ (Ha.out.below b3)).mono ?_
  rintro e w4 ⟨x4, rfl, hx4, h4⟩
  have b4 : Below W1.heap.size W1 w4 := Below.trans b3 (h4.mono b3.size)
  have y4 : w3.heap.size ≤ w4.heap.size := h4.size
  have z4 : W1.heap.size ≤ w4.heap.size := b4.size
  have Xa_4 := Lib.hid hx4
  clear hx4
  clear h4
  go_wp2_with fail
  refine (toP_is b bv HNb.out _ (Hb.out.below b4)).mono ?_
  rintro e w5 ⟨x5, rfl, hx5, h5⟩
  have b5 : Below W1.heap.size W1 w5 := Below.trans b4 (h5.mono b4.size)
  have y5 : w4.heap.size ≤ w5.heap.size := h5.size
  have z5 : W1.heap.size ≤ w5.heap.size := b5.size
  have Xa_5 := Lib.hid (Xa_4.out.below h5)
  clear Xa_4
  have Xb_5 := Lib.hid hx5
  clear hx5
  clear h5
  go_wp2_with fail
  refine (iDSame_is w5 a x4 (Xa_5.out.is) b x5 (Xb_5.out.is) _ rfl _ (Below.refl _ _)).mono ?_
  rintro e w6 ⟨rfl, h6⟩
  have b6 : Below W1.heap.size W1 w6 := Below.trans b5 (h6.mono b5.size)
  have y6 : w5.heap.size ≤ w6.heap.size := h6.size
  have z6 : W1.heap.size ≤ w6.heap.size := b6.size
  have Xa_6 := Lib.hid (Xa_5.out.below h6)
  clear Xa_5
  have Xb_6 := Lib.hid (Xb_5.out.below h6)
  clear Xb_5
  clear h6
  go_wp2_with fail
  refine (toP_is a av HNa.out _ (Ha.out.below b6)).mono ?_
  rintro e w7 ⟨x7, rfl, hx7, h7⟩
  have b7 : Below W1.heap.size W1 w7 := Below.trans b6 (h7.mono b6.size)
  have y7 : w6.heap.size ≤ w7.heap.size := h7.size
  have z7 : W1.heap.size ≤ w7.heap.size := b7.size
  have Xa_7 := Lib.hid (Xa_6.out.below h7)
  clear Xa_6
  have Xb_7 := Lib.hid (Xb_6.out.below h7)
  clear Xb_6
  have Y7 := Lib.hid hx7
  clear hx7
  clear h7
  go_wp2_with fail
  refine (eqP_arg a x4 x7 HNa.out _ Xa_7.out.is Y7.out.is).mono ?_
  rintro e w8 ⟨rfl, h8⟩
  have b8 : Below W1.heap.size W1 w8 := Below.trans b7 (h8.mono b7.size)
  have y8 : w7.heap.size ≤ w8.heap.size := h8.size
  have z8 : W1.heap.size ≤ w8.heap.size := b8.size
  have Xa_8 := Lib.hid (Xa_7.out.below h8)
  clear Xa_7
  have Xb_8 := Lib.hid (Xb_7.out.below h8)
  clear Xb_7
  clear h8
  clear Y7
  go_wp2_with fail
  refine (toP_is b bv HNb.out _ (Hb.out.below b8)).mono ?_
  rintro e w9 ⟨x9, rfl, hx9, h9⟩
  have b9 : Below W1.heap.size W1 w9 := Below.trans b8 (h9.mono b8.size)
  have y9 : w8.heap.size ≤ w9.heap.size := h9.size
  have z9 : W1.heap.size ≤ w9.heap.size := b9.size
  have Xa_9 := Lib.hid (Xa_8.out.below h9)
  clear Xa_8
  have Xb_9 := Lib.hid (Xb_8.out.below h9)
  clear Xb_8
  have Y9 := Lib.hid hx9
  clear hx9
  clear h9
  go_wp2_with fail
  refine (eqP_arg b x5 x9 HNb.out _ Xb_9.out.is Y9.out.is).mono ?_
  rintro e w10 ⟨rfl, h10⟩
  have b10 : Below W1.heap.size W1 w10 := Below.trans b9 (h10.mono b9.size)
  have y10 : w9.heap.size ≤ w10.heap.size := h10.size
  have z10 : W1.heap.size ≤ w10.heap.size := b10.size
  have Xa_10 := Lib.hid (Xa_9.out.below h10)
  clear Xa_9
  have Xb_10 := Lib.hid (Xb_9.out.below h10)
  clear Xb_9
  clear h10
  clear Y9
  go_wp2
  go_ret
  exact ⟨by first | rfl | exact retb (by simp), HB.out.trans (b10.mono HB.out.size)⟩
set_option maxHeartbeats 2000000 in
theorem w_ExactDiffPeople (a : List Pn) (av : Value) (b : List Pn) (bv : Value) (W : World) (ha : IsP W av a) (hb : IsP W bv b) :
    Calls Try.prog 10 #[av, bv] W fun e w' => e = .returned (.bool true) ∧ Below W.heap.size W w' := by
  obtain ⟨W1, hW⟩ : ∃ W1, W1 = W := ⟨_, rfl⟩
  have hb1 : Below W.heap.size W W1 := by rw [hW]; exact (Below.refl _ _)
  have Ha := Lib.hid (ha.below hb1)
  clear ha
  have Hb := Lib.hid (hb.below hb1)
  clear hb
  have HB := Lib.hid hb1
  have b0 := Below.refl W1.heap.size W1
  clear hb1
  go_enter Try.func10, Try.ntmps10
  go_wp2_with fail
  subst hW
  refine (szP_is a av 1048576 (by omega) (by omega) _ Ha.out).mono ?_
  rintro e w' ⟨rfl, rfl⟩
  rcases szL_cases a.length (left := 1048576) (by omega) (by omega) with hz | ⟨l1, m1, hn⟩
  · rw [hz]; go_wp2; go_ret; exact ⟨rfl, HB.out⟩
  obtain ⟨s1, hs⟩ : ∃ z, szL a.length 1048576 = z := ⟨_, rfl⟩
  rw [hs] at l1 m1 ⊢
  have HNa := Lib.hid hn; clear hn hs
  go_wp2_with fail
  refine (szP_is b bv s1 l1 m1 _ Hb.out).mono ?_
  rintro e w' ⟨rfl, rfl⟩
  rcases szL_cases b.length (left := s1) l1 m1 with hz | ⟨l2, m2, hn⟩
  · rw [hz]; go_wp2; go_ret; exact ⟨rfl, HB.out⟩
  obtain ⟨s2, hs⟩ : ∃ z, szL b.length s1 = z := ⟨_, rfl⟩
  rw [hs] at l2 m2 ⊢
  have HNb := Lib.hid hn; clear hn hs
  go_wp2_with fail
  refine (toP_is a av HNa.out _ (Ha.out.below b0)).mono ?_
  rintro e w1 ⟨x1, rfl, hx1, h1⟩
  have b1 : Below W1.heap.size W1 w1 := Below.trans b0 (h1.mono b0.size)
  have y1 : W1.heap.size ≤ w1.heap.size := h1.size
  have z1 : W1.heap.size ≤ w1.heap.size := b1.size
  have Xa_1 := Lib.hid hx1
  clear hx1
  clear h1
  go_wp2_with fail
  refine (toP_is b bv HNb.out _ (Hb.out.below b1)).mono ?_
  rintro e w2 ⟨x2, rfl, hx2, h2⟩
  have b2 : Below W1.heap.size W1 w2 := Below.trans b1 (h2.mono b1.size)
  have y2 : w1.heap.size ≤ w2.heap.size := h2.size
  have z2 : W1.heap.size ≤ w2.heap.size := b2.size
  have Xa_2 := Lib.hid (Xa_1.out.below h2)
  clear Xa_1
  have Xb_2 := Lib.hid hx2
  clear hx2
  clear h2
  go_wp2_with fail
  refine (sDPpl_is w2 a x1 (Xa_2.out.is) b x2 (Xb_2.out.is) _ rfl _ (Below.refl _ _)).mono ?_
  rintro e w3 ⟨rfl, h3⟩
  have b3 : Below W1.heap.size W1 w3 := Below.trans b2 (h3.mono b2.size)
  have y3 : w2.heap.size ≤ w3.heap.size := h3.size
  have z3 : W1.heap.size ≤ w3.heap.size := b3.size
  have Xa_3 := Lib.hid (Xa_2.out.below h3)
  clear Xa_2
  have Xb_3 := Lib.hid (Xb_2.out.below h3)
  clear Xb_2
  clear h3
  clear Xa_3
  clear Xb_3
  go_wp2_with fail
  refine (toP_is a av HNa.out _ (Ha.out.below b3)).mono ?_
  rintro e w4 ⟨x4, rfl, hx4, h4⟩
  have b4 : Below W1.heap.size W1 w4 := Below.trans b3 (h4.mono b3.size)
  have y4 : w3.heap.size ≤ w4.heap.size := h4.size
  have z4 : W1.heap.size ≤ w4.heap.size := b4.size
  have Xa_4 := Lib.hid hx4
  clear hx4
  clear h4
  go_wp2_with fail
  refine (toP_is b bv HNb.out _ (Hb.out.below b4)).mono ?_
  rintro e w5 ⟨x5, rfl, hx5, h5⟩
  have b5 : Below W1.heap.size W1 w5 := Below.trans b4 (h5.mono b4.size)
  have y5 : w4.heap.size ≤ w5.heap.size := h5.size
  have z5 : W1.heap.size ≤ w5.heap.size := b5.size
  have Xa_5 := Lib.hid (Xa_4.out.below h5)
  clear Xa_4
  have Xb_5 := Lib.hid hx5
  clear hx5
  clear h5
  go_wp2_with fail
  refine (iDPpl_is w5 a x4 (Xa_5.out.is) b x5 (Xb_5.out.is) _ rfl _ (Below.refl _ _)).mono ?_
  rintro e w6 ⟨rfl, h6⟩
  have b6 : Below W1.heap.size W1 w6 := Below.trans b5 (h6.mono b5.size)
  have y6 : w5.heap.size ≤ w6.heap.size := h6.size
  have z6 : W1.heap.size ≤ w6.heap.size := b6.size
  have Xa_6 := Lib.hid (Xa_5.out.below h6)
  clear Xa_5
  have Xb_6 := Lib.hid (Xb_5.out.below h6)
  clear Xb_5
  clear h6
  go_wp2_with fail
  refine (toP_is a av HNa.out _ (Ha.out.below b6)).mono ?_
  rintro e w7 ⟨x7, rfl, hx7, h7⟩
  have b7 : Below W1.heap.size W1 w7 := Below.trans b6 (h7.mono b6.size)
  have y7 : w6.heap.size ≤ w7.heap.size := h7.size
  have z7 : W1.heap.size ≤ w7.heap.size := b7.size
  have Xa_7 := Lib.hid (Xa_6.out.below h7)
  clear Xa_6
  have Xb_7 := Lib.hid (Xb_6.out.below h7)
  clear Xb_6
  have Y7 := Lib.hid hx7
  clear hx7
  clear h7
  go_wp2_with fail
  refine (eqP_arg a x4 x7 HNa.out _ Xa_7.out.is Y7.out.is).mono ?_
  rintro e w8 ⟨rfl, h8⟩
  have b8 : Below W1.heap.size W1 w8 := Below.trans b7 (h8.mono b7.size)
  have y8 : w7.heap.size ≤ w8.heap.size := h8.size
  have z8 : W1.heap.size ≤ w8.heap.size := b8.size
  have Xa_8 := Lib.hid (Xa_7.out.below h8)
  clear Xa_7
  have Xb_8 := Lib.hid (Xb_7.out.below h8)
  clear Xb_7
  clear h8
  clear Y7
  go_wp2_with fail
  refine (toP_is b bv HNb.out _ (Hb.out.below b8)).mono ?_
  rintro e w9 ⟨x9, rfl, hx9, h9⟩
  have b9 : Below W1.heap.size W1 w9 := Below.trans b8 (h9.mono b8.size)
  have y9 : w8.heap.size ≤ w9.heap.size := h9.size
  have z9 : W1.heap.size ≤ w9.heap.size := b9.size
  have Xa_9 := Lib.hid (Xa_8.out.below h9)
  clear Xa_8
  have Xb_9 := Lib.hid (Xb_8.out.below h9)
  clear Xb_8
  have Y9 := Lib.hid hx9
  clear hx9
  clear h9
  go_wp2_with fail
  refine (eqP_arg b x5 x9 HNb.out _ Xb_9.out.is Y9.out.is).mono ?_
  rintro e w10 ⟨rfl, h10⟩
  have b10 : Below W1.heap.size W1 w10 := Below.trans b9 (h10.mono b9.size)
  have y10 : w9.heap.size ≤ w10.heap.size := h10.size
  have z10 : W1.heap.size ≤ w10.heap.size := b10.size
  have Xa_10 := Lib.hid (Xa_9.out.below h10)
  clear Xa_9
  have Xb_10 := Lib.hid (Xb_9.out.below h10)
  clear Xb_9
  clear h10
  clear Y9
  go_wp2
  go_ret
  exact ⟨by first | rfl | exact retb (by simp), HB.out.trans (b10.mono HB.out.size)⟩
end Go.Proofs.Ytjgohakiodcjmaa
