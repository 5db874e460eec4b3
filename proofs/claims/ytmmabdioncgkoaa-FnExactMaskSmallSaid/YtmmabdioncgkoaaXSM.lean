/- The exact law of MaskSmall: a mask is handed back. -/
import Derived.Test.YtmmabdioncgkoaaTI
import Derived.Test.YtmmabdioncgkoaaXMB
namespace Go.Proofs.Ytmmabdioncgkoaa
open Go.RowKit
theorem totM_mul : ∀ (m : Mk) (c : Nat), (∀ r ∈ m, r.length ≤ c) → totM m ≤ m.length * c
  | [], _, _ => by simp [totM]
  | r :: m, c, h => by
    have h1 := totM_mul m c fun x hx => h x (by simp [hx])
    have h2 := h r (by simp)
    simp only [totM, List.map_cons, List.sum_cons, List.length_cons, Nat.add_mul] at h1 ⊢
    omega
theorem msmallI_small (t : Tb) (k : Int) : (msmallI t k).length + totM (msmallI t k) ≤ 20 := by
  unfold msmallI
  split
  · next h =>
    obtain ⟨h1, h2, h3⟩ := mk_parts.1 (msmall_ok h k)
    have h4 := totM_mul (msmall t k) 4 fun r hr => by rw [h3 r hr]; exact h1.w4
    have := h1.h4
    rw [h2] at *
    omega
  · simp [totM]
set_option maxHeartbeats 4000000 in
theorem w_ExactMaskSmall (t : List (List Int)) (tv : Value) (k : Int) (W : World) (ht : IsR W tv t) :
    Calls Try.prog 11 #[tv, .int .i64 k] W fun e w' => e = .returned (.bool true) ∧ Below W.heap.size W w' := by
  have Ht := Lib.hid ht
  clear ht
  obtain ⟨m, hm⟩ : ∃ m, msmallI t k = m := ⟨_, rfl⟩
  obtain ⟨g, hg⟩ : ∃ g, tabOk t = g := ⟨_, rfl⟩
  have HM := Lib.hid hm
  have HG := Lib.hid hg
  have HML := Lib.hid (show m.length + totM m ≤ 1048576 by rw [← hm]; have := msmallI_small t k; omega)
  have htt : (g != g) = false := by simp
  clear hm hg
  go_enter Try.func11, Try.ntmps11
  go_wp2_with fail
  refine (szR_is t tv 1048576 (by omega) (by omega) _ Ht.out).mono ?_
  rintro e w' ⟨rfl, rfl⟩
  rcases szL_cases (t.length + tot t) (left := 1048576) (by omega) (by omega) with hz | ⟨l1, m1, hn⟩
  · rw [hz]; go_wp2; go_ret; exact ⟨rfl, Below.refl _ _⟩
  obtain ⟨s1, hs⟩ : ∃ z, szL (t.length + tot t) 1048576 = z := ⟨_, rfl⟩
  rw [hs] at l1 m1 ⊢
  have HN := Lib.hid hn
  clear hn hs
  go_wp2_with fail
  refine (toR_is t tv HN.out _ Ht.out).mono ?_
  rintro e w1 ⟨x1, rfl, hx1, b1⟩
  go_wp2_with fail
  refine (sSmall_is w1 t x1 hx1.is k m g HM.out HG.out _ (Below.refl _ _)).mono ?_
  rintro e w2 ⟨wv0, rfl, h0, b2⟩
  have HB := Lib.hid (b1.trans (b2.mono b1.size))
  have HW0 := Lib.hid h0.is
  have HB2 := Lib.hid (Below.refl w2.heap.size w2)
  clear hx1 h0 b1 b2
  go_wp2_with fail
  refine (toR_is t tv HN.out _ (Ht.out.below HB.out)).mono ?_
  rintro e w3 ⟨x0, rfl, hx0, hq⟩
  have HX0 := Lib.hid hx0
  have hz3 := hq.size
  clear hx0
  replace HB2 := Lib.hid (HB2.out.trans (hq.mono HB2.out.size))
  clear hq
  go_wp2_with fail
  refine (iSmall_is w3 t x0 HX0.out.is k m g HM.out HG.out _ (Below.refl _ _)).mono ?_
  rintro e w4 ⟨gv0, rfl, h0, hq⟩
  have HG0 := Lib.hid h0
  have hz4 := hq.size
  clear h0
  replace HX0 := Lib.hid (HX0.out.below hq)
  replace HB2 := Lib.hid (HB2.out.trans (hq.mono HB2.out.size))
  clear hq
  go_wp2_with fail
  refine (eqM_is m gv0 wv0 _ HG0.out.is (HW0.out.below HB2.out)).mono ?_
  rintro e w' ⟨rfl, hq⟩
  replace HX0 := Lib.hid (HX0.out.below hq)
  replace HG0 := Lib.hid (HG0.out.below hq)
  replace HB2 := Lib.hid (HB2.out.trans (hq.mono HB2.out.size))
  clear hq
  go_wp2_with fail
  refine (toR_is t tv HN.out _ (Ht.out.below (HB.out.trans (HB2.out.mono HB.out.size)))).mono ?_
  rintro e w5 ⟨x5, rfl, hx5, hq⟩
  have HX5 := Lib.hid (hx5.is)
  clear hx5
  replace HX0 := Lib.hid (HX0.out.below hq)
  replace HG0 := Lib.hid (HG0.out.below hq)
  replace HB2 := Lib.hid (HB2.out.trans (hq.mono HB2.out.size))
  clear hq
  go_wp2_with fail
  refine (eqR_arg t x0 x5 HN.out _ HX0.out.is HX5.out).mono ?_
  rintro e w' ⟨rfl, hq⟩
  clear HX5
  replace HX0 := Lib.hid (HX0.out.below hq)
  replace HG0 := Lib.hid (HG0.out.below hq)
  replace HB2 := Lib.hid (HB2.out.trans (hq.mono HB2.out.size))
  clear hq
  go_wp2_with fail
  refine (markR_in 1 (by omega) t x0 w2.heap.size w3.heap.size HN.out _ HX0.out).mono ?_
  rintro e w6 ⟨rfl, _, hw6⟩
  obtain ⟨K, hK⟩ : ∃ K1, 1 + tot t = K1 := ⟨_, rfl⟩
  rw [hK]
  clear hK HX0
  have pt : ¬ (K : Int) < 0 := by omega
  replace HG0 := Lib.hid (MineB.far HG0.out hw6 (.inr (Nat.le_refl _)))
  replace HB2 := Lib.hid (below_within HB2.out hw6 (Nat.le_refl _))
  clear hw6
  go_wp2_with fail
  refine (eqM_is m gv0 wv0 _ HG0.out.is (HW0.out.below HB2.out)).mono ?_
  rintro e w' ⟨rfl, hq⟩
  replace HG0 := Lib.hid (HG0.out.below hq)
  replace HB2 := Lib.hid (HB2.out.trans (hq.mono HB2.out.size))
  clear hq
  go_wp2_with fail
  refine (markM_in m gv0 w3.heap.size w4.heap.size HML.out _ HG0.out).mono ?_
  rintro e w7 ⟨rfl, ho, hw7⟩
  replace HG0 := Lib.hid ho
  replace HB2 := Lib.hid (below_within HB2.out hw7 hz3)
  obtain ⟨K1, hK1⟩ : ∃ K1, 1 + totM m = K1 := ⟨_, rfl⟩
  rw [hK1]
  have HK1 := Lib.hid hK1
  have hk1 : K1 ≤ 1048577 := by have := HML.out; omega
  have q1 : ¬ (K1 : Int) < 0 := by omega
  clear ho hw7 hK1
  go_wp2_with fail
  refine (heldM_is m HML.out gv0 _ HG0.out.is).mono ?_
  rintro e w' ⟨rfl, rfl⟩
  rw [HK1.out]
  go_wp2_with fail
  refine (toR_is t tv HN.out _ (Ht.out.below (HB.out.trans (HB2.out.mono HB.out.size)))).mono ?_
  rintro e w9 ⟨x9, rfl, hx9, hq⟩
  have HX9 := Lib.hid (hx9.is)
  clear hx9
  replace HG0 := Lib.hid (HG0.out.below hq)
  replace HB2 := Lib.hid (HB2.out.trans (hq.mono HB2.out.size))
  clear hq
  go_wp2_with fail
  refine (iSmall_is w9 t x9 HX9.out k m g HM.out HG.out _ (Below.refl _ _)).mono ?_
  rintro e w10 ⟨hv0, rfl, h0, hq⟩
  have HH0 := Lib.hid h0.is
  clear h0 HX9
  replace HG0 := Lib.hid (HG0.out.below hq)
  replace HB2 := Lib.hid (HB2.out.trans (hq.mono HB2.out.size))
  clear hq
  go_wp2_with fail
  refine (eqM_is m hv0 wv0 _ HH0.out (HW0.out.below HB2.out)).mono ?_
  rintro e w' ⟨rfl, hq⟩
  replace HG0 := Lib.hid (HG0.out.below hq)
  replace HB2 := Lib.hid (HB2.out.trans (hq.mono HB2.out.size))
  clear hq
  go_wp2_with fail
  refine (heldM_is m HML.out gv0 _ HG0.out.is).mono ?_
  rintro e w' ⟨rfl, rfl⟩
  rw [HK1.out]
  go_wp2
  go_ret
  exact ⟨by first | rfl | exact retb (by simp), HB.out.trans (HB2.out.mono HB.out.size)⟩
end Go.Proofs.Ytmmabdioncgkoaa
