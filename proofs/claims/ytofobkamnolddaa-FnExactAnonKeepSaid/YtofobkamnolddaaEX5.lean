/- Exact laws of chapter 4 but for the best recoding. -/
import Derived.Test.YtofobkamnolddaaAI2
import Derived.Test.YtofobkamnolddaaAS
import Derived.Test.YtofobkamnolddaaXR
import Derived.Test.YtofobkamnolddaaXC
import Derived.Deep.RegionHeld3
namespace Go.Proofs.Ytofobkamnolddaa
open Go.RowKit
set_option maxHeartbeats 2000000 in
theorem w_ExactAnonDrop (l : List Pn) (lv : Value) (ll : List (List Int)) (llv : Value) (r : Rc) (k : Int) (W : World) (hl : IsP W lv l) (hll : IsR W llv ll) :
    Calls Try.prog 3 #[lv, llv, r.val, .int .i64 k] W fun e w' => e = .returned (.bool true) ∧ Below W.heap.size W w' := by
  obtain ⟨W1, hW⟩ : ∃ W1, W1 = (W.alloc (.cells #[.int .i64 r.area, .int .i64 r.job, .int .i64 r.sex] 25)) := ⟨_, rfl⟩
  have hb1 : Below W.heap.size W W1 := by rw [hW]; exact ((Below.refl _ _).alloc (Nat.le_refl _) _)
  have hzr : W.heap.size < W1.heap.size := by rw [hW]; simp
  have er0 : W1.cell? ⟨W.heap.size, 0, none⟩ = some (.int .i64 r.area) := by rw [hW]; simp [go_sem]
  have er1 : W1.cell? ⟨W.heap.size, 1, none⟩ = some (.int .i64 r.job) := by rw [hW]; simp [go_sem]
  have er2 : W1.cell? ⟨W.heap.size, 2, none⟩ = some (.int .i64 r.sex) := by rw [hW]; simp [go_sem]
  have HCr := Lib.hid (show ∀ w', Below W1.heap.size W1 w' → w'.cell? ⟨W.heap.size, 0, none⟩ = some (.int .i64 r.area) ∧ w'.cell? ⟨W.heap.size, 1, none⟩ = some (.int .i64 r.job) ∧ w'.cell? ⟨W.heap.size, 2, none⟩ = some (.int .i64 r.sex) from fun w' h => ⟨(h.cell (p := ⟨W.heap.size, 0, none⟩) hzr).trans er0, (h.cell (p := ⟨W.heap.size, 1, none⟩) hzr).trans er1, (h.cell (p := ⟨W.heap.size, 2, none⟩) hzr).trans er2⟩)
  have HF := Lib.hid (show ∀ w', Below W1.heap.size W1 w' → (Below W1.heap.size W1 w' ∧ w'.cell? ⟨W.heap.size, 0, none⟩ = some (.int .i64 r.area) ∧ w'.cell? ⟨W.heap.size, 1, none⟩ = some (.int .i64 r.job) ∧ w'.cell? ⟨W.heap.size, 2, none⟩ = some (.int .i64 r.sex)) from fun w' h => ⟨h, (HCr.out w' h).1, (HCr.out w' h).2.1, (HCr.out w' h).2.2⟩)
  clear er0 er1 er2
  have Hl := Lib.hid (hl.below hb1)
  clear hl
  have Hll := Lib.hid (hll.below hb1)
  clear hll
  have HB := Lib.hid hb1
  have b0 := Below.refl W1.heap.size W1
  clear hb1
  go_enter Try.func3, Try.ntmps3
  go_wp2_with fail
  rw [← hW]
  clear hW
  refine (szP_is l lv 1048576 (by omega) (by omega) _ Hl.out).mono ?_
  rintro e w' ⟨rfl, rfl⟩
  rcases szL_cases l.length (left := 1048576) (by omega) (by omega) with hz | ⟨l1, m1, hn⟩
  · rw [hz]; go_wp2; go_ret; exact ⟨rfl, HB.out⟩
  obtain ⟨s1, hs⟩ : ∃ z, szL l.length 1048576 = z := ⟨_, rfl⟩
  rw [hs] at l1 m1 ⊢
  have HNl := Lib.hid hn; clear hn hs
  go_wp2_with fail
  refine (szR_is ll llv s1 l1 m1 _ Hll.out).mono ?_
  rintro e w' ⟨rfl, rfl⟩
  rcases szL_cases (ll.length + tot ll) (left := s1) l1 m1 with hz | ⟨l2, m2, hn⟩
  · rw [hz]; go_wp2; go_ret; exact ⟨rfl, HB.out⟩
  obtain ⟨s2, hs⟩ : ∃ z, szL (ll.length + tot ll) s1 = z := ⟨_, rfl⟩
  rw [hs] at l2 m2 ⊢
  have HNll := Lib.hid hn; clear hn hs
  have bd : Below W1.heap.size W1 W1.drew := b0.drew
  have yd : W1.heap.size ≤ W1.drew.heap.size := Nat.le_refl _
  go_wp2
  go_region_held3 (fun w' => Below W1.heap.size W1 w' ∧ w'.cell? ⟨W.heap.size, 0, none⟩ = some (.int .i64 r.area) ∧ w'.cell? ⟨W.heap.size, 1, none⟩ = some (.int .i64 r.job) ∧ w'.cell? ⟨W.heap.size, 2, none⟩ = some (.int .i64 r.sex))
    (first | exact HF.out _ (by assumption) | exact HF.out _ bd)
    (first
      | (go_at_call 11
         refine (toP_is l lv HNl.out _ (Hl.out.below bd)).mono ?_
         rintro e w1 ⟨x1, rfl, hx1, h1⟩
         have b1 : Below W1.heap.size W1 w1 := Below.trans bd (h1.mono bd.size)
         have y1 : W1.drew.heap.size ≤ w1.heap.size := h1.size
         have z1 : W1.heap.size ≤ w1.heap.size := b1.size
         have Xl_1 := Lib.hid hx1
         clear hx1
         clear h1)
      | (go_at_call 12
         refine (toR_is ll llv HNll.out _ (Hll.out.below b1)).mono ?_
         rintro e w2 ⟨x2, rfl, hx2, h2⟩
         have b2 : Below W1.heap.size W1 w2 := Below.trans b1 (h2.mono b1.size)
         have y2 : w1.heap.size ≤ w2.heap.size := h2.size
         have z2 : W1.heap.size ≤ w2.heap.size := b2.size
         have Xl_2 := Lib.hid (Xl_1.out.below h2)
         clear Xl_1
         have Xll_2 := Lib.hid hx2
         clear hx2
         clear h2)
      | (go_at_call 13
         with_reducible refine (toRc_any r _).mono ?_
         rintro e w3 ⟨rfl, h3⟩
         have b3 : Below W1.heap.size W1 w3 := Below.trans b2 (h3.mono b2.size)
         have y3 : w2.heap.size ≤ w3.heap.size := h3.size
         have z3 : W1.heap.size ≤ w3.heap.size := b3.size
         have Xl_3 := Lib.hid (Xl_2.out.below h3)
         clear Xl_2
         have Xll_3 := Lib.hid (Xll_2.out.below h3)
         clear Xll_2
         clear h3)
      | (go_at_call 10
         refine (sADrop_is w3 l x1 (Xl_3.out.is) ll x2 (Xll_3.out.is) r k _ rfl _ (Below.refl _ _)).mono ?_
         rintro e w4 ⟨rfl, h4⟩
         have b4 : Below W1.heap.size W1 w4 := Below.trans b3 (h4.mono b3.size)
         have y4 : w3.heap.size ≤ w4.heap.size := h4.size
         have z4 : W1.heap.size ≤ w4.heap.size := b4.size
         have Xl_4 := Lib.hid (Xl_3.out.below h4)
         clear Xl_3
         have Xll_4 := Lib.hid (Xll_3.out.below h4)
         clear Xll_3
         clear h4))
  clear Xl_4
  clear Xll_4
  go_wp2_with fail
  refine (toP_is l lv HNl.out _ (Hl.out.below b4)).mono ?_
  rintro e w5 ⟨x5, rfl, hx5, h5⟩
  have b5 : Below W1.heap.size W1 w5 := Below.trans b4 (h5.mono b4.size)
  have y5 : w4.heap.size ≤ w5.heap.size := h5.size
  have z5 : W1.heap.size ≤ w5.heap.size := b5.size
  have Xl_5 := Lib.hid hx5
  clear hx5
  clear h5
  go_wp2_with fail
  refine (toR_is ll llv HNll.out _ (Hll.out.below b5)).mono ?_
  rintro e w6 ⟨x6, rfl, hx6, h6⟩
  have b6 : Below W1.heap.size W1 w6 := Below.trans b5 (h6.mono b5.size)
  have y6 : w5.heap.size ≤ w6.heap.size := h6.size
  have z6 : W1.heap.size ≤ w6.heap.size := b6.size
  have Xl_6 := Lib.hid (Xl_5.out.below h6)
  clear Xl_5
  have Xll_6 := Lib.hid hx6
  clear hx6
  clear h6
  obtain ⟨dr0, dr1, dr2⟩ := HCr.out _ b6
  go_wp2_with fail
  refine (toRc_any r _).mono ?_
  rintro e w7 ⟨rfl, h7⟩
  have b7 : Below W1.heap.size W1 w7 := Below.trans b6 (h7.mono b6.size)
  have y7 : w6.heap.size ≤ w7.heap.size := h7.size
  have z7 : W1.heap.size ≤ w7.heap.size := b7.size
  have Xl_7 := Lib.hid (Xl_6.out.below h7)
  clear Xl_6
  have Xll_7 := Lib.hid (Xll_6.out.below h7)
  clear Xll_6
  clear h7
  go_wp2_with fail
  refine (iADrop_is w7 l x5 (Xl_7.out.is) ll x6 (Xll_7.out.is) r k _ rfl _ (Below.refl _ _)).mono ?_
  rintro e w8 ⟨rfl, h8⟩
  have b8 : Below W1.heap.size W1 w8 := Below.trans b7 (h8.mono b7.size)
  have y8 : w7.heap.size ≤ w8.heap.size := h8.size
  have z8 : W1.heap.size ≤ w8.heap.size := b8.size
  have Xl_8 := Lib.hid (Xl_7.out.below h8)
  clear Xl_7
  have Xll_8 := Lib.hid (Xll_7.out.below h8)
  clear Xll_7
  clear h8
  clear dr0 dr1 dr2
  go_wp2_with fail
  refine (toP_is l lv HNl.out _ (Hl.out.below b8)).mono ?_
  rintro e w9 ⟨x9, rfl, hx9, h9⟩
  have b9 : Below W1.heap.size W1 w9 := Below.trans b8 (h9.mono b8.size)
  have y9 : w8.heap.size ≤ w9.heap.size := h9.size
  have z9 : W1.heap.size ≤ w9.heap.size := b9.size
  have Xl_9 := Lib.hid (Xl_8.out.below h9)
  clear Xl_8
  have Xll_9 := Lib.hid (Xll_8.out.below h9)
  clear Xll_8
  have Y9 := Lib.hid hx9
  clear hx9
  clear h9
  go_wp2_with fail
  refine (eqP_arg l x5 x9 HNl.out _ Xl_9.out.is Y9.out.is).mono ?_
  rintro e w10 ⟨rfl, h10⟩
  have b10 : Below W1.heap.size W1 w10 := Below.trans b9 (h10.mono b9.size)
  have y10 : w9.heap.size ≤ w10.heap.size := h10.size
  have z10 : W1.heap.size ≤ w10.heap.size := b10.size
  have Xl_10 := Lib.hid (Xl_9.out.below h10)
  clear Xl_9
  have Xll_10 := Lib.hid (Xll_9.out.below h10)
  clear Xll_9
  clear h10
  clear Y9
  go_wp2_with fail
  refine (toR_is ll llv HNll.out _ (Hll.out.below b10)).mono ?_
  rintro e w11 ⟨x11, rfl, hx11, h11⟩
  have b11 : Below W1.heap.size W1 w11 := Below.trans b10 (h11.mono b10.size)
  have y11 : w10.heap.size ≤ w11.heap.size := h11.size
  have z11 : W1.heap.size ≤ w11.heap.size := b11.size
  have Xl_11 := Lib.hid (Xl_10.out.below h11)
  clear Xl_10
  have Xll_11 := Lib.hid (Xll_10.out.below h11)
  clear Xll_10
  have Y11 := Lib.hid hx11
  clear hx11
  clear h11
  go_wp2_with fail
  refine (eqR_arg ll x6 x11 HNll.out _ Xll_11.out.is Y11.out.is).mono ?_
  rintro e w12 ⟨rfl, h12⟩
  have b12 : Below W1.heap.size W1 w12 := Below.trans b11 (h12.mono b11.size)
  have y12 : w11.heap.size ≤ w12.heap.size := h12.size
  have z12 : W1.heap.size ≤ w12.heap.size := b12.size
  have Xl_12 := Lib.hid (Xl_11.out.below h12)
  clear Xl_11
  have Xll_12 := Lib.hid (Xll_11.out.below h12)
  clear Xll_11
  clear h12
  clear Y11
  go_wp2
  go_ret
  exact ⟨by first | rfl | exact retb (by simp), HB.out.trans (b12.mono HB.out.size)⟩
set_option maxHeartbeats 2000000 in
theorem w_ExactAnonOk (l : List Pn) (lv : Value) (ll : List (List Int)) (llv : Value) (r : Rc) (k : Int) (W : World) (hl : IsP W lv l) (hll : IsR W llv ll) :
    Calls Try.prog 4 #[lv, llv, r.val, .int .i64 k] W fun e w' => e = .returned (.bool true) ∧ Below W.heap.size W w' := by
  obtain ⟨W1, hW⟩ : ∃ W1, W1 = (W.alloc (.cells #[.int .i64 r.area, .int .i64 r.job, .int .i64 r.sex] 25)) := ⟨_, rfl⟩
  have hb1 : Below W.heap.size W W1 := by rw [hW]; exact ((Below.refl _ _).alloc (Nat.le_refl _) _)
  have hzr : W.heap.size < W1.heap.size := by rw [hW]; simp
  have er0 : W1.cell? ⟨W.heap.size, 0, none⟩ = some (.int .i64 r.area) := by rw [hW]; simp [go_sem]
  have er1 : W1.cell? ⟨W.heap.size, 1, none⟩ = some (.int .i64 r.job) := by rw [hW]; simp [go_sem]
  have er2 : W1.cell? ⟨W.heap.size, 2, none⟩ = some (.int .i64 r.sex) := by rw [hW]; simp [go_sem]
  have HCr := Lib.hid (show ∀ w', Below W1.heap.size W1 w' → w'.cell? ⟨W.heap.size, 0, none⟩ = some (.int .i64 r.area) ∧ w'.cell? ⟨W.heap.size, 1, none⟩ = some (.int .i64 r.job) ∧ w'.cell? ⟨W.heap.size, 2, none⟩ = some (.int .i64 r.sex) from fun w' h => ⟨(h.cell (p := ⟨W.heap.size, 0, none⟩) hzr).trans er0, (h.cell (p := ⟨W.heap.size, 1, none⟩) hzr).trans er1, (h.cell (p := ⟨W.heap.size, 2, none⟩) hzr).trans er2⟩)
  have HF := Lib.hid (show ∀ w', Below W1.heap.size W1 w' → (Below W1.heap.size W1 w' ∧ w'.cell? ⟨W.heap.size, 0, none⟩ = some (.int .i64 r.area) ∧ w'.cell? ⟨W.heap.size, 1, none⟩ = some (.int .i64 r.job) ∧ w'.cell? ⟨W.heap.size, 2, none⟩ = some (.int .i64 r.sex)) from fun w' h => ⟨h, (HCr.out w' h).1, (HCr.out w' h).2.1, (HCr.out w' h).2.2⟩)
  clear er0 er1 er2
  have Hl := Lib.hid (hl.below hb1)
  clear hl
  have Hll := Lib.hid (hll.below hb1)
  clear hll
  have HB := Lib.hid hb1
  have b0 := Below.refl W1.heap.size W1
  clear hb1
  go_enter Try.func4, Try.ntmps4
  go_wp2_with fail
  rw [← hW]
  clear hW
  refine (szP_is l lv 1048576 (by omega) (by omega) _ Hl.out).mono ?_
  rintro e w' ⟨rfl, rfl⟩
  rcases szL_cases l.length (left := 1048576) (by omega) (by omega) with hz | ⟨l1, m1, hn⟩
  · rw [hz]; go_wp2; go_ret; exact ⟨rfl, HB.out⟩
  obtain ⟨s1, hs⟩ : ∃ z, szL l.length 1048576 = z := ⟨_, rfl⟩
  rw [hs] at l1 m1 ⊢
  have HNl := Lib.hid hn; clear hn hs
  go_wp2_with fail
  refine (szR_is ll llv s1 l1 m1 _ Hll.out).mono ?_
  rintro e w' ⟨rfl, rfl⟩
  rcases szL_cases (ll.length + tot ll) (left := s1) l1 m1 with hz | ⟨l2, m2, hn⟩
  · rw [hz]; go_wp2; go_ret; exact ⟨rfl, HB.out⟩
  obtain ⟨s2, hs⟩ : ∃ z, szL (ll.length + tot ll) s1 = z := ⟨_, rfl⟩
  rw [hs] at l2 m2 ⊢
  have HNll := Lib.hid hn; clear hn hs
  have bd : Below W1.heap.size W1 W1.drew := b0.drew
  have yd : W1.heap.size ≤ W1.drew.heap.size := Nat.le_refl _
  go_wp2
  go_region_held3 (fun w' => Below W1.heap.size W1 w' ∧ w'.cell? ⟨W.heap.size, 0, none⟩ = some (.int .i64 r.area) ∧ w'.cell? ⟨W.heap.size, 1, none⟩ = some (.int .i64 r.job) ∧ w'.cell? ⟨W.heap.size, 2, none⟩ = some (.int .i64 r.sex))
    (first | exact HF.out _ (by assumption) | exact HF.out _ bd)
    (first
      | (go_at_call 11
         refine (toP_is l lv HNl.out _ (Hl.out.below bd)).mono ?_
         rintro e w1 ⟨x1, rfl, hx1, h1⟩
         have b1 : Below W1.heap.size W1 w1 := Below.trans bd (h1.mono bd.size)
         have y1 : W1.drew.heap.size ≤ w1.heap.size := h1.size
         have z1 : W1.heap.size ≤ w1.heap.size := b1.size
         have Xl_1 := Lib.hid hx1
         clear hx1
         clear h1)
      | (go_at_call 12
         refine (toR_is ll llv HNll.out _ (Hll.out.below b1)).mono ?_
         rintro e w2 ⟨x2, rfl, hx2, h2⟩
         have b2 : Below W1.heap.size W1 w2 := Below.trans b1 (h2.mono b1.size)
         have y2 : w1.heap.size ≤ w2.heap.size := h2.size
         have z2 : W1.heap.size ≤ w2.heap.size := b2.size
         have Xl_2 := Lib.hid (Xl_1.out.below h2)
         clear Xl_1
         have Xll_2 := Lib.hid hx2
         clear hx2
         clear h2)
      | (go_at_call 13
         with_reducible refine (toRc_any r _).mono ?_
         rintro e w3 ⟨rfl, h3⟩
         have b3 : Below W1.heap.size W1 w3 := Below.trans b2 (h3.mono b2.size)
         have y3 : w2.heap.size ≤ w3.heap.size := h3.size
         have z3 : W1.heap.size ≤ w3.heap.size := b3.size
         have Xl_3 := Lib.hid (Xl_2.out.below h3)
         clear Xl_2
         have Xll_3 := Lib.hid (Xll_2.out.below h3)
         clear Xll_2
         clear h3)
      | (go_at_call 17
         refine (sAOk_is w3 l x1 (Xl_3.out.is) ll x2 (Xll_3.out.is) r k _ rfl _ (Below.refl _ _)).mono ?_
         rintro e w4 ⟨rfl, h4⟩
         have b4 : Below W1.heap.size W1 w4 := Below.trans b3 (h4.mono b3.size)
         have y4 : w3.heap.size ≤ w4.heap.size := h4.size
         have z4 : W1.heap.size ≤ w4.heap.size := b4.size
         have Xl_4 := Lib.hid (Xl_3.out.below h4)
         clear Xl_3
         have Xll_4 := Lib.hid (Xll_3.out.below h4)
         clear Xll_3
         clear h4))
  clear Xl_4
  clear Xll_4
  go_wp2_with fail
  refine (toP_is l lv HNl.out _ (Hl.out.below b4)).mono ?_
  rintro e w5 ⟨x5, rfl, hx5, h5⟩
  have b5 : Below W1.heap.size W1 w5 := Below.trans b4 (h5.mono b4.size)
  have y5 : w4.heap.size ≤ w5.heap.size := h5.size
  have z5 : W1.heap.size ≤ w5.heap.size := b5.size
  have Xl_5 := Lib.hid hx5
  clear hx5
  clear h5
  go_wp2_with fail
  refine (toR_is ll llv HNll.out _ (Hll.out.below b5)).mono ?_
  rintro e w6 ⟨x6, rfl, hx6, h6⟩
  have b6 : Below W1.heap.size W1 w6 := Below.trans b5 (h6.mono b5.size)
  have y6 : w5.heap.size ≤ w6.heap.size := h6.size
  have z6 : W1.heap.size ≤ w6.heap.size := b6.size
  have Xl_6 := Lib.hid (Xl_5.out.below h6)
  clear Xl_5
  have Xll_6 := Lib.hid hx6
  clear hx6
  clear h6
  obtain ⟨dr0, dr1, dr2⟩ := HCr.out _ b6
  go_wp2_with fail
  refine (toRc_any r _).mono ?_
  rintro e w7 ⟨rfl, h7⟩
  have b7 : Below W1.heap.size W1 w7 := Below.trans b6 (h7.mono b6.size)
  have y7 : w6.heap.size ≤ w7.heap.size := h7.size
  have z7 : W1.heap.size ≤ w7.heap.size := b7.size
  have Xl_7 := Lib.hid (Xl_6.out.below h7)
  clear Xl_6
  have Xll_7 := Lib.hid (Xll_6.out.below h7)
  clear Xll_6
  clear h7
  go_wp2_with fail
  refine (iAOk_is w7 l x5 (Xl_7.out.is) ll x6 (Xll_7.out.is) r k _ rfl _ (Below.refl _ _)).mono ?_
  rintro e w8 ⟨rfl, h8⟩
  have b8 : Below W1.heap.size W1 w8 := Below.trans b7 (h8.mono b7.size)
  have y8 : w7.heap.size ≤ w8.heap.size := h8.size
  have z8 : W1.heap.size ≤ w8.heap.size := b8.size
  have Xl_8 := Lib.hid (Xl_7.out.below h8)
  clear Xl_7
  have Xll_8 := Lib.hid (Xll_7.out.below h8)
  clear Xll_7
  clear h8
  clear dr0 dr1 dr2
  go_wp2_with fail
  refine (toP_is l lv HNl.out _ (Hl.out.below b8)).mono ?_
  rintro e w9 ⟨x9, rfl, hx9, h9⟩
  have b9 : Below W1.heap.size W1 w9 := Below.trans b8 (h9.mono b8.size)
  have y9 : w8.heap.size ≤ w9.heap.size := h9.size
  have z9 : W1.heap.size ≤ w9.heap.size := b9.size
  have Xl_9 := Lib.hid (Xl_8.out.below h9)
  clear Xl_8
  have Xll_9 := Lib.hid (Xll_8.out.below h9)
  clear Xll_8
  have Y9 := Lib.hid hx9
  clear hx9
  clear h9
  go_wp2_with fail
  refine (eqP_arg l x5 x9 HNl.out _ Xl_9.out.is Y9.out.is).mono ?_
  rintro e w10 ⟨rfl, h10⟩
  have b10 : Below W1.heap.size W1 w10 := Below.trans b9 (h10.mono b9.size)
  have y10 : w9.heap.size ≤ w10.heap.size := h10.size
  have z10 : W1.heap.size ≤ w10.heap.size := b10.size
  have Xl_10 := Lib.hid (Xl_9.out.below h10)
  clear Xl_9
  have Xll_10 := Lib.hid (Xll_9.out.below h10)
  clear Xll_9
  clear h10
  clear Y9
  go_wp2_with fail
  refine (toR_is ll llv HNll.out _ (Hll.out.below b10)).mono ?_
  rintro e w11 ⟨x11, rfl, hx11, h11⟩
  have b11 : Below W1.heap.size W1 w11 := Below.trans b10 (h11.mono b10.size)
  have y11 : w10.heap.size ≤ w11.heap.size := h11.size
  have z11 : W1.heap.size ≤ w11.heap.size := b11.size
  have Xl_11 := Lib.hid (Xl_10.out.below h11)
  clear Xl_10
  have Xll_11 := Lib.hid (Xll_10.out.below h11)
  clear Xll_10
  have Y11 := Lib.hid hx11
  clear hx11
  clear h11
  go_wp2_with fail
  refine (eqR_arg ll x6 x11 HNll.out _ Xll_11.out.is Y11.out.is).mono ?_
  rintro e w12 ⟨rfl, h12⟩
  have b12 : Below W1.heap.size W1 w12 := Below.trans b11 (h12.mono b11.size)
  have y12 : w11.heap.size ≤ w12.heap.size := h12.size
  have z12 : W1.heap.size ≤ w12.heap.size := b12.size
  have Xl_12 := Lib.hid (Xl_11.out.below h12)
  clear Xl_11
  have Xll_12 := Lib.hid (Xll_11.out.below h12)
  clear Xll_11
  clear h12
  clear Y11
  go_wp2
  go_ret
  exact ⟨by first | rfl | exact retb (by simp), HB.out.trans (b12.mono HB.out.size)⟩
set_option maxHeartbeats 2000000 in
theorem w_ExactAnonCost (ll : List (List Int)) (llv : Value) (r : Rc) (W : World) (hll : IsR W llv ll) :
    Calls Try.prog 6 #[llv, r.val] W fun e w' => e = .returned (.bool true) ∧ Below W.heap.size W w' := by
  obtain ⟨W1, hW⟩ : ∃ W1, W1 = (W.alloc (.cells #[.int .i64 r.area, .int .i64 r.job, .int .i64 r.sex] 25)) := ⟨_, rfl⟩
  have hb1 : Below W.heap.size W W1 := by rw [hW]; exact ((Below.refl _ _).alloc (Nat.le_refl _) _)
  have hzr : W.heap.size < W1.heap.size := by rw [hW]; simp
  have er0 : W1.cell? ⟨W.heap.size, 0, none⟩ = some (.int .i64 r.area) := by rw [hW]; simp [go_sem]
  have er1 : W1.cell? ⟨W.heap.size, 1, none⟩ = some (.int .i64 r.job) := by rw [hW]; simp [go_sem]
  have er2 : W1.cell? ⟨W.heap.size, 2, none⟩ = some (.int .i64 r.sex) := by rw [hW]; simp [go_sem]
  have HCr := Lib.hid (show ∀ w', Below W1.heap.size W1 w' → w'.cell? ⟨W.heap.size, 0, none⟩ = some (.int .i64 r.area) ∧ w'.cell? ⟨W.heap.size, 1, none⟩ = some (.int .i64 r.job) ∧ w'.cell? ⟨W.heap.size, 2, none⟩ = some (.int .i64 r.sex) from fun w' h => ⟨(h.cell (p := ⟨W.heap.size, 0, none⟩) hzr).trans er0, (h.cell (p := ⟨W.heap.size, 1, none⟩) hzr).trans er1, (h.cell (p := ⟨W.heap.size, 2, none⟩) hzr).trans er2⟩)
  have HF := Lib.hid (show ∀ w', Below W1.heap.size W1 w' → (Below W1.heap.size W1 w' ∧ w'.cell? ⟨W.heap.size, 0, none⟩ = some (.int .i64 r.area) ∧ w'.cell? ⟨W.heap.size, 1, none⟩ = some (.int .i64 r.job) ∧ w'.cell? ⟨W.heap.size, 2, none⟩ = some (.int .i64 r.sex)) from fun w' h => ⟨h, (HCr.out w' h).1, (HCr.out w' h).2.1, (HCr.out w' h).2.2⟩)
  clear er0 er1 er2
  have Hll := Lib.hid (hll.below hb1)
  clear hll
  have HB := Lib.hid hb1
  have b0 := Below.refl W1.heap.size W1
  clear hb1
  go_enter Try.func6, Try.ntmps6
  go_wp2_with fail
  rw [← hW]
  clear hW
  refine (szR_is ll llv 1048576 (by omega) (by omega) _ Hll.out).mono ?_
  rintro e w' ⟨rfl, rfl⟩
  rcases szL_cases (ll.length + tot ll) (left := 1048576) (by omega) (by omega) with hz | ⟨l1, m1, hn⟩
  · rw [hz]; go_wp2; go_ret; exact ⟨rfl, HB.out⟩
  obtain ⟨s1, hs⟩ : ∃ z, szL (ll.length + tot ll) 1048576 = z := ⟨_, rfl⟩
  rw [hs] at l1 m1 ⊢
  have HNll := Lib.hid hn; clear hn hs
  have bd : Below W1.heap.size W1 W1.drew := b0.drew
  have yd : W1.heap.size ≤ W1.drew.heap.size := Nat.le_refl _
  go_wp2
  go_region_held3 (fun w' => Below W1.heap.size W1 w' ∧ w'.cell? ⟨W.heap.size, 0, none⟩ = some (.int .i64 r.area) ∧ w'.cell? ⟨W.heap.size, 1, none⟩ = some (.int .i64 r.job) ∧ w'.cell? ⟨W.heap.size, 2, none⟩ = some (.int .i64 r.sex))
    (first | exact HF.out _ (by assumption) | exact HF.out _ bd)
    (first
      | (go_at_call 12
         refine (toR_is ll llv HNll.out _ (Hll.out.below bd)).mono ?_
         rintro e w1 ⟨x1, rfl, hx1, h1⟩
         have b1 : Below W1.heap.size W1 w1 := Below.trans bd (h1.mono bd.size)
         have y1 : W1.drew.heap.size ≤ w1.heap.size := h1.size
         have z1 : W1.heap.size ≤ w1.heap.size := b1.size
         have Xll_1 := Lib.hid hx1
         clear hx1
         clear h1)
      | (go_at_call 13
         with_reducible refine (toRc_any r _).mono ?_
         rintro e w2 ⟨rfl, h2⟩
         have b2 : Below W1.heap.size W1 w2 := Below.trans b1 (h2.mono b1.size)
         have y2 : w1.heap.size ≤ w2.heap.size := h2.size
         have z2 : W1.heap.size ≤ w2.heap.size := b2.size
         have Xll_2 := Lib.hid (Xll_1.out.below h2)
         clear Xll_1
         clear h2)
      | (go_at_call 24
         refine (sACost_is w2 ll x1 (Xll_2.out.is) r _ rfl _ (Below.refl _ _)).mono ?_
         rintro e w3 ⟨rfl, h3⟩
         have b3 : Below W1.heap.size W1 w3 := Below.trans b2 (h3.mono b2.size)
         have y3 : w2.heap.size ≤ w3.heap.size := h3.size
         have z3 : W1.heap.size ≤ w3.heap.size := b3.size
         have Xll_3 := Lib.hid (Xll_2.out.below h3)
         clear Xll_2
         clear h3))
  clear Xll_3
  go_wp2_with fail
  refine (toR_is ll llv HNll.out _ (Hll.out.below b3)).mono ?_
  rintro e w4 ⟨x4, rfl, hx4, h4⟩
  have b4 : Below W1.heap.size W1 w4 := Below.trans b3 (h4.mono b3.size)
  have y4 : w3.heap.size ≤ w4.heap.size := h4.size
  have z4 : W1.heap.size ≤ w4.heap.size := b4.size
  have Xll_4 := Lib.hid hx4
  clear hx4
  clear h4
  obtain ⟨dr0, dr1, dr2⟩ := HCr.out _ b4
  go_wp2_with fail
  refine (toRc_any r _).mono ?_
  rintro e w5 ⟨rfl, h5⟩
  have b5 : Below W1.heap.size W1 w5 := Below.trans b4 (h5.mono b4.size)
  have y5 : w4.heap.size ≤ w5.heap.size := h5.size
  have z5 : W1.heap.size ≤ w5.heap.size := b5.size
  have Xll_5 := Lib.hid (Xll_4.out.below h5)
  clear Xll_4
  clear h5
  go_wp2_with fail
  refine (iACost_is w5 ll x4 (Xll_5.out.is) r _ rfl _ (Below.refl _ _)).mono ?_
  rintro e w6 ⟨rfl, h6⟩
  have b6 : Below W1.heap.size W1 w6 := Below.trans b5 (h6.mono b5.size)
  have y6 : w5.heap.size ≤ w6.heap.size := h6.size
  have z6 : W1.heap.size ≤ w6.heap.size := b6.size
  have Xll_6 := Lib.hid (Xll_5.out.below h6)
  clear Xll_5
  clear h6
  clear dr0 dr1 dr2
  go_wp2_with fail
  refine (toR_is ll llv HNll.out _ (Hll.out.below b6)).mono ?_
  rintro e w7 ⟨x7, rfl, hx7, h7⟩
  have b7 : Below W1.heap.size W1 w7 := Below.trans b6 (h7.mono b6.size)
  have y7 : w6.heap.size ≤ w7.heap.size := h7.size
  have z7 : W1.heap.size ≤ w7.heap.size := b7.size
  have Xll_7 := Lib.hid (Xll_6.out.below h7)
  clear Xll_6
  have Y7 := Lib.hid hx7
  clear hx7
  clear h7
  go_wp2_with fail
  refine (eqR_arg ll x4 x7 HNll.out _ Xll_7.out.is Y7.out.is).mono ?_
  rintro e w8 ⟨rfl, h8⟩
  have b8 : Below W1.heap.size W1 w8 := Below.trans b7 (h8.mono b7.size)
  have y8 : w7.heap.size ≤ w8.heap.size := h8.size
  have z8 : W1.heap.size ≤ w8.heap.size := b8.size
  have Xll_8 := Lib.hid (Xll_7.out.below h8)
  clear Xll_7
  clear h8
  clear Y7
  go_wp2
  go_ret
  exact ⟨by first | rfl | exact retb (by simp), HB.out.trans (b8.mono HB.out.size)⟩
theorem akeep_40 (l : List Pn) (ll : List (List Int)) (r : Rc) (k : Int) : (akeep l ll r k).length ≤ 40 := by
  cases h : adOk l ll r k
  · rw [akeep_no h]; simp
  · have h1 := akeep_len l ll r k
    have h2 := (okL_all (gr_parts.1 (ad_parts.1 h).1).1).1
    omega
set_option maxHeartbeats 4000000 in
theorem w_ExactAnonKeep (l : List Pn) (lv : Value) (ll : List (List Int)) (llv : Value) (r : Rc) (k : Int) (W : World) (hl : IsP W lv l) (hll : IsR W llv ll) :
    Calls Try.prog 5 #[lv, llv, r.val, .int .i64 k] W fun e w' => e = .returned (.bool true) ∧ Below W.heap.size W w' := by
  obtain ⟨W1, hW⟩ : ∃ W1, W1 = (W.alloc (.cells #[.int .i64 r.area, .int .i64 r.job, .int .i64 r.sex] 25)) := ⟨_, rfl⟩
  have hb1 : Below W.heap.size W W1 := by rw [hW]; exact ((Below.refl _ _).alloc (Nat.le_refl _) _)
  have hzr : W.heap.size < W1.heap.size := by rw [hW]; simp
  have er0 : W1.cell? ⟨W.heap.size, 0, none⟩ = some (.int .i64 r.area) := by rw [hW]; simp [go_sem]
  have er1 : W1.cell? ⟨W.heap.size, 1, none⟩ = some (.int .i64 r.job) := by rw [hW]; simp [go_sem]
  have er2 : W1.cell? ⟨W.heap.size, 2, none⟩ = some (.int .i64 r.sex) := by rw [hW]; simp [go_sem]
  have HCr := Lib.hid (show ∀ w', Below W1.heap.size W1 w' → w'.cell? ⟨W.heap.size, 0, none⟩ = some (.int .i64 r.area) ∧ w'.cell? ⟨W.heap.size, 1, none⟩ = some (.int .i64 r.job) ∧ w'.cell? ⟨W.heap.size, 2, none⟩ = some (.int .i64 r.sex) from fun w' h => ⟨(h.cell (p := ⟨W.heap.size, 0, none⟩) hzr).trans er0, (h.cell (p := ⟨W.heap.size, 1, none⟩) hzr).trans er1, (h.cell (p := ⟨W.heap.size, 2, none⟩) hzr).trans er2⟩)
  have HF := Lib.hid (show ∀ w', Below W1.heap.size W1 w' → (Below W1.heap.size W1 w' ∧ w'.cell? ⟨W.heap.size, 0, none⟩ = some (.int .i64 r.area) ∧ w'.cell? ⟨W.heap.size, 1, none⟩ = some (.int .i64 r.job) ∧ w'.cell? ⟨W.heap.size, 2, none⟩ = some (.int .i64 r.sex)) from fun w' h => ⟨h, (HCr.out w' h).1, (HCr.out w' h).2.1, (HCr.out w' h).2.2⟩)
  clear er0 er1 er2
  have Hl := Lib.hid (hl.below hb1)
  clear hl
  have Hll := Lib.hid (hll.below hb1)
  clear hll
  have HB := Lib.hid hb1
  have b0 := Below.refl W1.heap.size W1
  clear hb1
  obtain ⟨m, hm⟩ : ∃ m, akeep l ll r k = m := ⟨_, rfl⟩
  obtain ⟨t, ht⟩ : ∃ t, adOk l ll r k = t := ⟨_, rfl⟩
  have HM1 := Lib.hid (show m.length ≤ 1048576 by rw [← hm]; have := akeep_40 l ll r k; omega)
  have HG := Lib.hid hm; have HT := Lib.hid ht; clear hm ht
  have htt : (t != t) = false := by simp
  go_enter Try.func5, Try.ntmps5
  go_wp2_with fail
  rw [← hW]
  clear hW
  refine (szP_is l lv 1048576 (by omega) (by omega) _ Hl.out).mono ?_
  rintro e w' ⟨rfl, rfl⟩
  rcases szL_cases l.length (left := 1048576) (by omega) (by omega) with hz | ⟨l1, m1, hn⟩
  · rw [hz]; go_wp2; go_ret; exact ⟨rfl, HB.out⟩
  obtain ⟨s1, hs⟩ : ∃ z, szL l.length 1048576 = z := ⟨_, rfl⟩
  rw [hs] at l1 m1 ⊢
  have HNl := Lib.hid hn; clear hn hs
  go_wp2_with fail
  refine (szR_is ll llv s1 l1 m1 _ Hll.out).mono ?_
  rintro e w' ⟨rfl, rfl⟩
  rcases szL_cases (ll.length + tot ll) (left := s1) l1 m1 with hz | ⟨l2, m2, hn⟩
  · rw [hz]; go_wp2; go_ret; exact ⟨rfl, HB.out⟩
  obtain ⟨s2, hs⟩ : ∃ z, szL (ll.length + tot ll) s1 = z := ⟨_, rfl⟩
  rw [hs] at l2 m2 ⊢
  have HNll := Lib.hid hn; clear hn hs
  have bd : Below W1.heap.size W1 W1.drew := b0.drew
  have yd : W1.heap.size ≤ W1.drew.heap.size := Nat.le_refl _
  go_wp2
  go_region_held3 (fun w' => Below W1.heap.size W1 w' ∧ w'.cell? ⟨W.heap.size, 0, none⟩ = some (.int .i64 r.area) ∧ w'.cell? ⟨W.heap.size, 1, none⟩ = some (.int .i64 r.job) ∧ w'.cell? ⟨W.heap.size, 2, none⟩ = some (.int .i64 r.sex))
    (first | exact HF.out _ (by assumption) | exact HF.out _ bd)
    (first
      | (go_at_call 11
         refine (toP_is l lv HNl.out _ (Hl.out.below bd)).mono ?_
         rintro e w1 ⟨x1, rfl, hx1, h1⟩
         have b1 : Below W1.heap.size W1 w1 := Below.trans bd (h1.mono bd.size)
         have y1 : W1.drew.heap.size ≤ w1.heap.size := h1.size
         have z1 : W1.heap.size ≤ w1.heap.size := b1.size
         have Xl_1 := Lib.hid hx1
         clear hx1
         clear h1)
      | (go_at_call 12
         refine (toR_is ll llv HNll.out _ (Hll.out.below b1)).mono ?_
         rintro e w2 ⟨x2, rfl, hx2, h2⟩
         have b2 : Below W1.heap.size W1 w2 := Below.trans b1 (h2.mono b1.size)
         have y2 : w1.heap.size ≤ w2.heap.size := h2.size
         have z2 : W1.heap.size ≤ w2.heap.size := b2.size
         have Xl_2 := Lib.hid (Xl_1.out.below h2)
         clear Xl_1
         have Xll_2 := Lib.hid hx2
         clear hx2
         clear h2)
      | (go_at_call 13
         with_reducible refine (toRc_any r _).mono ?_
         rintro e w3 ⟨rfl, h3⟩
         have b3 : Below W1.heap.size W1 w3 := Below.trans b2 (h3.mono b2.size)
         have y3 : w2.heap.size ≤ w3.heap.size := h3.size
         have z3 : W1.heap.size ≤ w3.heap.size := b3.size
         have Xl_3 := Lib.hid (Xl_2.out.below h3)
         clear Xl_2
         have Xll_3 := Lib.hid (Xll_2.out.below h3)
         clear Xll_2
         clear h3)
      | (go_at_call 19
         refine (sAKeep_is w3 l x1 (Xl_3.out.is) ll x2 (Xll_3.out.is) r k m t HG.out HT.out _ (Below.refl _ _)).mono ?_
         rintro e w4 ⟨wv1, rfl, hr1_4, h4⟩
         have b4 : Below W1.heap.size W1 w4 := Below.trans b3 (h4.mono b3.size)
         have y4 : w3.heap.size ≤ w4.heap.size := h4.size
         have z4 : W1.heap.size ≤ w4.heap.size := b4.size
         have Xl_4 := Lib.hid (Xl_3.out.below h4)
         clear Xl_3
         have Xll_4 := Lib.hid (Xll_3.out.below h4)
         clear Xll_3
         have WV1_4 := Lib.hid hr1_4
         clear hr1_4
         clear h4))
  clear Xl_4
  clear Xll_4
  go_wp2_with fail
  refine (toP_is l lv HNl.out _ (Hl.out.below b4)).mono ?_
  rintro e w5 ⟨x5, rfl, hx5, h5⟩
  have b5 : Below W1.heap.size W1 w5 := Below.trans b4 (h5.mono b4.size)
  have y5 : w4.heap.size ≤ w5.heap.size := h5.size
  have z5 : W1.heap.size ≤ w5.heap.size := b5.size
  have WV1_5 := Lib.hid (WV1_4.out.below h5)
  clear WV1_4
  have Xl_5 := Lib.hid hx5
  clear hx5
  clear h5
  go_wp2_with fail
  refine (toR_is ll llv HNll.out _ (Hll.out.below b5)).mono ?_
  rintro e w6 ⟨x6, rfl, hx6, h6⟩
  have b6 : Below W1.heap.size W1 w6 := Below.trans b5 (h6.mono b5.size)
  have y6 : w5.heap.size ≤ w6.heap.size := h6.size
  have z6 : W1.heap.size ≤ w6.heap.size := b6.size
  have WV1_6 := Lib.hid (WV1_5.out.below h6)
  clear WV1_5
  have Xl_6 := Lib.hid (Xl_5.out.below h6)
  clear Xl_5
  have Xll_6 := Lib.hid hx6
  clear hx6
  clear h6
  obtain ⟨dr0, dr1, dr2⟩ := HCr.out _ b6
  go_wp2_with fail
  refine (toRc_any r _).mono ?_
  rintro e w7 ⟨rfl, h7⟩
  have b7 : Below W1.heap.size W1 w7 := Below.trans b6 (h7.mono b6.size)
  have y7 : w6.heap.size ≤ w7.heap.size := h7.size
  have z7 : W1.heap.size ≤ w7.heap.size := b7.size
  have WV1_7 := Lib.hid (WV1_6.out.below h7)
  clear WV1_6
  have Xl_7 := Lib.hid (Xl_6.out.below h7)
  clear Xl_6
  have Xll_7 := Lib.hid (Xll_6.out.below h7)
  clear Xll_6
  clear h7
  go_wp2_with fail
  refine (iAKeep_is w7 l x5 (Xl_7.out.is) ll x6 (Xll_7.out.is) r k m t HG.out HT.out _ (Below.refl _ _)).mono ?_
  rintro e w8 ⟨gv1, rfl, hr1_8, h8⟩
  have b8 : Below W1.heap.size W1 w8 := Below.trans b7 (h8.mono b7.size)
  have y8 : w7.heap.size ≤ w8.heap.size := h8.size
  have z8 : W1.heap.size ≤ w8.heap.size := b8.size
  have WV1_8 := Lib.hid (WV1_7.out.below h8)
  clear WV1_7
  have Xl_8 := Lib.hid (Xl_7.out.below h8)
  clear Xl_7
  have Xll_8 := Lib.hid (Xll_7.out.below h8)
  clear Xll_7
  have GV1_8 := Lib.hid hr1_8
  clear hr1_8
  clear h8
  clear dr0 dr1 dr2
  go_wp2_with fail
  refine (eqP_res m gv1 wv1 HM1.out _ GV1_8.out.is WV1_8.out.is).mono ?_
  rintro e w9 ⟨rfl, h9⟩
  have b9 : Below W1.heap.size W1 w9 := Below.trans b8 (h9.mono b8.size)
  have y9 : w8.heap.size ≤ w9.heap.size := h9.size
  have z9 : W1.heap.size ≤ w9.heap.size := b9.size
  have WV1_9 := Lib.hid (WV1_8.out.below h9)
  clear WV1_8
  have Xl_9 := Lib.hid (Xl_8.out.below h9)
  clear Xl_8
  have Xll_9 := Lib.hid (Xll_8.out.below h9)
  clear Xll_8
  have GV1_9 := Lib.hid (GV1_8.out.below h9)
  clear GV1_8
  clear h9
  go_wp2_with fail
  refine (toP_is l lv HNl.out _ (Hl.out.below b9)).mono ?_
  rintro e w10 ⟨x10, rfl, hx10, h10⟩
  have b10 : Below W1.heap.size W1 w10 := Below.trans b9 (h10.mono b9.size)
  have y10 : w9.heap.size ≤ w10.heap.size := h10.size
  have z10 : W1.heap.size ≤ w10.heap.size := b10.size
  have WV1_10 := Lib.hid (WV1_9.out.below h10)
  clear WV1_9
  have Xl_10 := Lib.hid (Xl_9.out.below h10)
  clear Xl_9
  have Xll_10 := Lib.hid (Xll_9.out.below h10)
  clear Xll_9
  have GV1_10 := Lib.hid (GV1_9.out.below h10)
  clear GV1_9
  have Y10 := Lib.hid hx10
  clear hx10
  clear h10
  go_wp2_with fail
  refine (eqP_arg l x5 x10 HNl.out _ Xl_10.out.is Y10.out.is).mono ?_
  rintro e w11 ⟨rfl, h11⟩
  have b11 : Below W1.heap.size W1 w11 := Below.trans b10 (h11.mono b10.size)
  have y11 : w10.heap.size ≤ w11.heap.size := h11.size
  have z11 : W1.heap.size ≤ w11.heap.size := b11.size
  have WV1_11 := Lib.hid (WV1_10.out.below h11)
  clear WV1_10
  have Xl_11 := Lib.hid (Xl_10.out.below h11)
  clear Xl_10
  have Xll_11 := Lib.hid (Xll_10.out.below h11)
  clear Xll_10
  have GV1_11 := Lib.hid (GV1_10.out.below h11)
  clear GV1_10
  clear h11
  clear Y10
  go_wp2_with fail
  refine (toR_is ll llv HNll.out _ (Hll.out.below b11)).mono ?_
  rintro e w12 ⟨x12, rfl, hx12, h12⟩
  have b12 : Below W1.heap.size W1 w12 := Below.trans b11 (h12.mono b11.size)
  have y12 : w11.heap.size ≤ w12.heap.size := h12.size
  have z12 : W1.heap.size ≤ w12.heap.size := b12.size
  have WV1_12 := Lib.hid (WV1_11.out.below h12)
  clear WV1_11
  have Xl_12 := Lib.hid (Xl_11.out.below h12)
  clear Xl_11
  have Xll_12 := Lib.hid (Xll_11.out.below h12)
  clear Xll_11
  have GV1_12 := Lib.hid (GV1_11.out.below h12)
  clear GV1_11
  have Y12 := Lib.hid hx12
  clear hx12
  clear h12
  go_wp2_with fail
  refine (eqR_arg ll x6 x12 HNll.out _ Xll_12.out.is Y12.out.is).mono ?_
  rintro e w13 ⟨rfl, h13⟩
  have b13 : Below W1.heap.size W1 w13 := Below.trans b12 (h13.mono b12.size)
  have y13 : w12.heap.size ≤ w13.heap.size := h13.size
  have z13 : W1.heap.size ≤ w13.heap.size := b13.size
  have WV1_13 := Lib.hid (WV1_12.out.below h13)
  clear WV1_12
  have Xl_13 := Lib.hid (Xl_12.out.below h13)
  clear Xl_12
  have Xll_13 := Lib.hid (Xll_12.out.below h13)
  clear Xll_12
  have GV1_13 := Lib.hid (GV1_12.out.below h13)
  clear GV1_12
  clear h13
  clear Y12
  go_wp2_with fail
  refine (markP_in 1 (by omega) l x5 w4.heap.size w5.heap.size HNl.out _ Xl_13.out).mono ?_
  rintro e w14 ⟨rfl, hm14, h14⟩
  obtain ⟨K14, hK⟩ : ∃ K1, 1 + 4 * l.length = K1 := ⟨_, rfl⟩
  have kb14 : K14 ≤ 4194305 := by have := HNl.out; omega
  rw [hK]
  have HK14 := Lib.hid hK; clear hK
  have b14 : Below W1.heap.size W1 w14 := below_within b13 h14 (by omega)
  have y14 : w13.heap.size ≤ w14.heap.size := h14.2.2.2.1
  have z14 : W1.heap.size ≤ w14.heap.size := b14.size
  have WV1_14 := Lib.hid (WV1_13.out.far h14 (by omega))
  clear WV1_13
  have Xll_14 := Lib.hid (Xll_13.out.far h14 (by omega))
  clear Xll_13
  have GV1_14 := Lib.hid (GV1_13.out.far h14 (by omega))
  clear GV1_13
  clear Xl_13
  clear hm14 h14
  have pl : ¬ (K14 : Int) < 0 := by omega
  go_wp2_with fail
  refine (markR_in K14 (by omega) ll x6 w5.heap.size w6.heap.size HNll.out _ Xll_14.out).mono ?_
  rintro e w15 ⟨rfl, hm15, h15⟩
  obtain ⟨K15, hK⟩ : ∃ K1, K14 + tot ll = K1 := ⟨_, rfl⟩
  have kb15 : K15 ≤ 8388609 := by have := HNll.out; omega
  rw [hK]
  have HK15 := Lib.hid hK; clear hK
  have b15 : Below W1.heap.size W1 w15 := below_within b14 h15 (by omega)
  have y15 : w14.heap.size ≤ w15.heap.size := h15.2.2.2.1
  have z15 : W1.heap.size ≤ w15.heap.size := b15.size
  have WV1_15 := Lib.hid (WV1_14.out.far h15 (by omega))
  clear WV1_14
  have GV1_15 := Lib.hid (GV1_14.out.far h15 (by omega))
  clear GV1_14
  clear Xll_14
  clear hm15 h15
  have pll : ¬ (K15 : Int) < 0 := by omega
  go_wp2_with fail
  refine (eqP_res m gv1 wv1 HM1.out _ GV1_15.out.is WV1_15.out.is).mono ?_
  rintro e w16 ⟨rfl, h16⟩
  have b16 : Below W1.heap.size W1 w16 := Below.trans b15 (h16.mono b15.size)
  have y16 : w15.heap.size ≤ w16.heap.size := h16.size
  have z16 : W1.heap.size ≤ w16.heap.size := b16.size
  have WV1_16 := Lib.hid (WV1_15.out.below h16)
  clear WV1_15
  have GV1_16 := Lib.hid (GV1_15.out.below h16)
  clear GV1_15
  clear h16
  go_wp2_with fail
  refine (markP_in 1 (by omega) m gv1 w7.heap.size w8.heap.size HM1.out _ GV1_16.out).mono ?_
  rintro e w17 ⟨rfl, hm17, h17⟩
  obtain ⟨K17, hK⟩ : ∃ K1, 1 + 4 * m.length = K1 := ⟨_, rfl⟩
  have kb17 : K17 ≤ 4194305 := by have := HM1.out; omega
  rw [hK]
  have HK17 := Lib.hid hK; clear hK
  have b17 : Below W1.heap.size W1 w17 := below_within b16 h17 (by omega)
  have y17 : w16.heap.size ≤ w17.heap.size := h17.2.2.2.1
  have z17 : W1.heap.size ≤ w17.heap.size := b17.size
  have WV1_17 := Lib.hid (WV1_16.out.far h17 (by omega))
  clear WV1_16
  clear GV1_16
  have GV1_17 := Lib.hid hm17
  clear hm17 h17
  have q0 : ¬ (K17 : Int) < 0 := by omega
  go_wp2_with fail
  refine (heldP_res 1 (by omega) m HM1.out gv1 _ GV1_17.out.is).mono ?_
  rintro e w' ⟨rfl, rfl⟩
  rw [HK17.out]
  have bd : Below W1.heap.size W1 w17.drew := b17.drew
  have yd : w17.heap.size ≤ w17.drew.heap.size := Nat.le_refl _
  have WV1_d := Lib.hid (show InP w17.drew w3.heap.size w4.heap.size wv1 m from WV1_17.out)
  clear WV1_17
  have GV1_d := Lib.hid (show InP w17.drew w7.heap.size w8.heap.size gv1 (marksK 1 m.length) from GV1_17.out)
  clear GV1_17
  go_wp2
  go_region_held3 (fun w' => Below W1.heap.size W1 w' ∧ w'.cell? ⟨W.heap.size, 0, none⟩ = some (.int .i64 r.area) ∧ w'.cell? ⟨W.heap.size, 1, none⟩ = some (.int .i64 r.job) ∧ w'.cell? ⟨W.heap.size, 2, none⟩ = some (.int .i64 r.sex))
    (first | exact HF.out _ (by assumption) | exact HF.out _ bd)
    (first
      | (go_at_call 11
         refine (toP_is l lv HNl.out _ (Hl.out.below bd)).mono ?_
         rintro e w18 ⟨x18, rfl, hx18, h18⟩
         have b18 : Below W1.heap.size W1 w18 := Below.trans bd (h18.mono bd.size)
         have y18 : w17.drew.heap.size ≤ w18.heap.size := h18.size
         have z18 : W1.heap.size ≤ w18.heap.size := b18.size
         have WV1_18 := Lib.hid (WV1_d.out.below h18)
         clear WV1_d
         have GV1_18 := Lib.hid (GV1_d.out.below h18)
         clear GV1_d
         have Xl_18 := Lib.hid hx18
         clear hx18
         clear h18)
      | (go_at_call 12
         refine (toR_is ll llv HNll.out _ (Hll.out.below b18)).mono ?_
         rintro e w19 ⟨x19, rfl, hx19, h19⟩
         have b19 : Below W1.heap.size W1 w19 := Below.trans b18 (h19.mono b18.size)
         have y19 : w18.heap.size ≤ w19.heap.size := h19.size
         have z19 : W1.heap.size ≤ w19.heap.size := b19.size
         have WV1_19 := Lib.hid (WV1_18.out.below h19)
         clear WV1_18
         have GV1_19 := Lib.hid (GV1_18.out.below h19)
         clear GV1_18
         have Xl_19 := Lib.hid (Xl_18.out.below h19)
         clear Xl_18
         have Xll_19 := Lib.hid hx19
         clear hx19
         clear h19)
      | (go_at_call 13
         with_reducible refine (toRc_any r _).mono ?_
         rintro e w20 ⟨rfl, h20⟩
         have b20 : Below W1.heap.size W1 w20 := Below.trans b19 (h20.mono b19.size)
         have y20 : w19.heap.size ≤ w20.heap.size := h20.size
         have z20 : W1.heap.size ≤ w20.heap.size := b20.size
         have WV1_20 := Lib.hid (WV1_19.out.below h20)
         clear WV1_19
         have GV1_20 := Lib.hid (GV1_19.out.below h20)
         clear GV1_19
         have Xl_20 := Lib.hid (Xl_19.out.below h20)
         clear Xl_19
         have Xll_20 := Lib.hid (Xll_19.out.below h20)
         clear Xll_19
         clear h20)
      | (go_at_call 20
         refine (iAKeep_is w20 l x18 (Xl_20.out.is) ll x19 (Xll_20.out.is) r k m t HG.out HT.out _ (Below.refl _ _)).mono ?_
         rintro e w21 ⟨hv1, rfl, hr1_21, h21⟩
         have b21 : Below W1.heap.size W1 w21 := Below.trans b20 (h21.mono b20.size)
         have y21 : w20.heap.size ≤ w21.heap.size := h21.size
         have z21 : W1.heap.size ≤ w21.heap.size := b21.size
         have WV1_21 := Lib.hid (WV1_20.out.below h21)
         clear WV1_20
         have GV1_21 := Lib.hid (GV1_20.out.below h21)
         clear GV1_20
         have Xl_21 := Lib.hid (Xl_20.out.below h21)
         clear Xl_20
         have Xll_21 := Lib.hid (Xll_20.out.below h21)
         clear Xll_20
         have HV1_21 := Lib.hid hr1_21
         clear hr1_21
         clear h21))
  clear Xl_21
  clear Xll_21
  go_wp2_with fail
  refine (eqP_res m hv1 wv1 HM1.out _ HV1_21.out.is WV1_21.out.is).mono ?_
  rintro e w22 ⟨rfl, h22⟩
  have b22 : Below W1.heap.size W1 w22 := Below.trans b21 (h22.mono b21.size)
  have y22 : w21.heap.size ≤ w22.heap.size := h22.size
  have z22 : W1.heap.size ≤ w22.heap.size := b22.size
  have WV1_22 := Lib.hid (WV1_21.out.below h22)
  clear WV1_21
  have GV1_22 := Lib.hid (GV1_21.out.below h22)
  clear GV1_21
  have HV1_22 := Lib.hid (HV1_21.out.below h22)
  clear HV1_21
  clear h22
  go_wp2_with fail
  refine (heldP_res 1 (by omega) m HM1.out gv1 _ GV1_22.out.is).mono ?_
  rintro e w' ⟨rfl, rfl⟩
  rw [HK17.out]
  go_wp2
  go_ret
  exact ⟨by first | rfl | exact retb (by simp), HB.out.trans (b22.mono HB.out.size)⟩
end Go.Proofs.Ytofobkamnolddaa
