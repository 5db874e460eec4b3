/- Exact laws of chapter 5. -/
import Derived.Test.YtodiadipbpchpaaDI7
import Derived.Test.YtodiadipbpchpaaDS3
import Derived.Test.YtodiadipbpchpaaXR
import Derived.Test.YtodiadipbpchpaaXC
import Derived.Deep.RegionHeld3
set_option maxRecDepth 100000
namespace Go.Proofs.Ytodiadipbpchpaa
open Go.RowKit
set_option maxHeartbeats 2000000 in
theorem w_ExactDiverseSize (l : List Pn) (lv : Value) (ll : List (List Int)) (llv : Value) (r : Rc) (k : Int) (W : World) (hl : IsP W lv l) (hll : IsR W llv ll) :
    Calls Try.prog 6 #[lv, llv, r.val, .int .i64 k] W fun e w' => e = .returned (.bool true) ∧ Below W.heap.size W w' := by
  obtain ⟨W1, hW⟩ : ∃ W1, W1 = (W.alloc (.cells #[.int .i64 r.area, .int .i64 r.job, .int .i64 r.sex] 35)) := ⟨_, rfl⟩
  have hb1 : Below W.heap.size W W1 := by rw [hW]; exact ((Below.refl _ _).alloc (Nat.le_refl _) _)
  have hzr : W.heap.size < W1.heap.size := by rw [hW]; simp
  have er0 : W1.cell? ⟨W.heap.size, 0, none⟩ = some (.int .i64 r.area) := by rw [hW]; simp [go_sem]
  have er1 : W1.cell? ⟨W.heap.size, 1, none⟩ = some (.int .i64 r.job) := by rw [hW]; simp [go_sem]
  have er2 : W1.cell? ⟨W.heap.size, 2, none⟩ = some (.int .i64 r.sex) := by rw [hW]; simp [go_sem]
  have HCr := Lib.hid (show ∀ w', Below W1.heap.size W1 w' → w'.cell? ⟨W.heap.size, 0, none⟩ = some (.int .i64 r.area) ∧ w'.cell? ⟨W.heap.size, 1, none⟩ = some (.int .i64 r.job) ∧ w'.cell? ⟨W.heap.size, 2, none⟩ = some (.int .i64 r.sex) from fun w' h => ⟨(h.cell (p := ⟨W.heap.size, 0, none⟩) hzr).trans er0, (h.cell (p := ⟨W.heap.size, 1, none⟩) hzr).trans er1, (h.cell (p := ⟨W.heap.size, 2, none⟩) hzr).trans er2⟩)
  have HF := Lib.hid (show ∀ w', Below W1.heap.size W1 w' → (Below W1.heap.size W1 w' ∧ w'.cell? ⟨W.heap.size, 0, none⟩ = some (.int .i64 r.area) ∧ w'.cell? ⟨W.heap.size, 1, none⟩ = some (.int .i64 r.job) ∧ w'.cell? ⟨W.heap.size, 2, none⟩ = some (.int .i64 r.sex)) from fun w' h => ⟨h, (HCr.out w' h).1, (HCr.out w' h).2.1, (HCr.out w' h).2.2⟩)
  clear er0 er1 er2
  have Hl := Lib.hid (hl.below hb1)
  clear hl
  have Hll := Lib.hid (hll.below hb1)
  clear hll
  have HB := Lib.hid hb1
  have b0 := Below.refl W1.heap.size W1
  clear hb1
  go_enter Try.func6, Try.ntmps6
  go_wp2_with fail
  rw [← hW]
  clear hW
  refine (szP_is l lv 1048576 (by omega) (by omega) _ Hl.out).mono ?_
  rintro e w' ⟨rfl, rfl⟩
  rcases szL_cases l.length (left := 1048576) (by omega) (by omega) with hz | ⟨l1, m1, hn⟩
  · rw [hz]; go_wp2; go_ret; exact ⟨rfl, HB.out⟩
  obtain ⟨s1, hs⟩ : ∃ z, szL l.length 1048576 = z := ⟨_, rfl⟩
  rw [hs] at l1 m1 ⊢
  have HNl := Lib.hid hn; clear hn hs
  go_wp2_with fail
  refine (szR_is ll llv s1 l1 m1 _ Hll.out).mono ?_
  rintro e w' ⟨rfl, rfl⟩
  rcases szL_cases (ll.length + tot ll) (left := s1) l1 m1 with hz | ⟨l2, m2, hn⟩
  · rw [hz]; go_wp2; go_ret; exact ⟨rfl, HB.out⟩
  obtain ⟨s2, hs⟩ : ∃ z, szL (ll.length + tot ll) s1 = z := ⟨_, rfl⟩
  rw [hs] at l2 m2 ⊢
  have HNll := Lib.hid hn; clear hn hs
  have bd : Below W1.heap.size W1 W1.drew := b0.drew
  have yd : W1.heap.size ≤ W1.drew.heap.size := Nat.le_refl _
  go_wp2
  go_region_held3 (fun w' => Below W1.heap.size W1 w' ∧ w'.cell? ⟨W.heap.size, 0, none⟩ = some (.int .i64 r.area) ∧ w'.cell? ⟨W.heap.size, 1, none⟩ = some (.int .i64 r.job) ∧ w'.cell? ⟨W.heap.size, 2, none⟩ = some (.int .i64 r.sex))
    (first | exact HF.out _ (by assumption) | exact HF.out _ bd)
    (first
      | (go_at_call 18
         refine (toP_is l lv HNl.out _ (Hl.out.below bd)).mono ?_
         rintro e w1 ⟨x1, rfl, hx1, h1⟩
         have b1 : Below W1.heap.size W1 w1 := Below.trans bd (h1.mono bd.size)
         have y1 : W1.drew.heap.size ≤ w1.heap.size := h1.size
         have z1 : W1.heap.size ≤ w1.heap.size := b1.size
         have Xl_1 := Lib.hid hx1
         clear hx1
         clear h1)
      | (go_at_call 19
         refine (toR_is ll llv HNll.out _ (Hll.out.below b1)).mono ?_
         rintro e w2 ⟨x2, rfl, hx2, h2⟩
         have b2 : Below W1.heap.size W1 w2 := Below.trans b1 (h2.mono b1.size)
         have y2 : w1.heap.size ≤ w2.heap.size := h2.size
         have z2 : W1.heap.size ≤ w2.heap.size := b2.size
         have Xl_2 := Lib.hid (Xl_1.out.below h2)
         clear Xl_1
         have Xll_2 := Lib.hid hx2
         clear hx2
         clear h2)
      | (go_at_call 20
         with_reducible refine (toRc_any r _).mono ?_
         rintro e w3 ⟨rfl, h3⟩
         have b3 : Below W1.heap.size W1 w3 := Below.trans b2 (h3.mono b2.size)
         have y3 : w2.heap.size ≤ w3.heap.size := h3.size
         have z3 : W1.heap.size ≤ w3.heap.size := b3.size
         have Xl_3 := Lib.hid (Xl_2.out.below h3)
         clear Xl_2
         have Xll_3 := Lib.hid (Xll_2.out.below h3)
         clear Xll_2
         clear h3)
      | (go_at_call 17
         refine (sDSize_is w3 l x1 (Xl_3.out.is) ll x2 (Xll_3.out.is) r k _ rfl _ (Below.refl _ _)).mono ?_
         rintro e w4 ⟨rfl, h4⟩
         have b4 : Below W1.heap.size W1 w4 := Below.trans b3 (h4.mono b3.size)
         have y4 : w3.heap.size ≤ w4.heap.size := h4.size
         have z4 : W1.heap.size ≤ w4.heap.size := b4.size
         have Xl_4 := Lib.hid (Xl_3.out.below h4)
         clear Xl_3
         have Xll_4 := Lib.hid (Xll_3.out.below h4)
         clear Xll_3
         clear h4))
  clear Xl_4
  clear Xll_4
  go_wp2_with fail
  refine (toP_is l lv HNl.out _ (Hl.out.below b4)).mono ?_
  rintro e w5 ⟨x5, rfl, hx5, h5⟩
  have b5 : Below W1.heap.size W1 w5 := Below.trans b4 (h5.mono b4.size)
  have y5 : w4.heap.size ≤ w5.heap.size := h5.size
  have z5 : W1.heap.size ≤ w5.heap.size := b5.size
  have Xl_5 := Lib.hid hx5
  clear hx5
  clear h5
  go_wp2_with fail
  refine (toR_is ll llv HNll.out _ (Hll.out.below b5)).mono ?_
  rintro e w6 ⟨x6, rfl, hx6, h6⟩
  have b6 : Below W1.heap.size W1 w6 := Below.trans b5 (h6.mono b5.size)
  have y6 : w5.heap.size ≤ w6.heap.size := h6.size
  have z6 : W1.heap.size ≤ w6.heap.size := b6.size
  have Xl_6 := Lib.hid (Xl_5.out.below h6)
  clear Xl_5
  have Xll_6 := Lib.hid hx6
  clear hx6
  clear h6
  obtain ⟨dr0, dr1, dr2⟩ := HCr.out _ b6
  go_wp2_with fail
  refine (toRc_any r _).mono ?_
  rintro e w7 ⟨rfl, h7⟩
  have b7 : Below W1.heap.size W1 w7 := Below.trans b6 (h7.mono b6.size)
  have y7 : w6.heap.size ≤ w7.heap.size := h7.size
  have z7 : W1.heap.size ≤ w7.heap.size := b7.size
  have Xl_7 := Lib.hid (Xl_6.out.below h7)
  clear Xl_6
  have Xll_7 := Lib.hid (Xll_6.out.below h7)
  clear Xll_6
  clear h7
  go_wp2_with fail
  refine (iDSize_is w7 l x5 (Xl_7.out.is) ll x6 (Xll_7.out.is) r k _ rfl _ (Below.refl _ _)).mono ?_
  rintro e w8 ⟨rfl, h8⟩
  have b8 : Below W1.heap.size W1 w8 := Below.trans b7 (h8.mono b7.size)
  have y8 : w7.heap.size ≤ w8.heap.size := h8.size
  have z8 : W1.heap.size ≤ w8.heap.size := b8.size
  have Xl_8 := Lib.hid (Xl_7.out.below h8)
  clear Xl_7
  have Xll_8 := Lib.hid (Xll_7.out.below h8)
  clear Xll_7
  clear h8
  clear dr0 dr1 dr2
  go_wp2_with fail
  refine (toP_is l lv HNl.out _ (Hl.out.below b8)).mono ?_
  rintro e w9 ⟨x9, rfl, hx9, h9⟩
  have b9 : Below W1.heap.size W1 w9 := Below.trans b8 (h9.mono b8.size)
  have y9 : w8.heap.size ≤ w9.heap.size := h9.size
  have z9 : W1.heap.size ≤ w9.heap.size := b9.size
  have Xl_9 := Lib.hid (Xl_8.out.below h9)
  clear Xl_8
  have Xll_9 := Lib.hid (Xll_8.out.below h9)
  clear Xll_8
  have Y9 := Lib.hid hx9
  clear hx9
  clear h9
  go_wp2_with fail
  refine (eqP_arg l x5 x9 HNl.out _ Xl_9.out.is Y9.out.is).mono ?_
  rintro e w10 ⟨rfl, h10⟩
  have b10 : Below W1.heap.size W1 w10 := Below.trans b9 (h10.mono b9.size)
  have y10 : w9.heap.size ≤ w10.heap.size := h10.size
  have z10 : W1.heap.size ≤ w10.heap.size := b10.size
  have Xl_10 := Lib.hid (Xl_9.out.below h10)
  clear Xl_9
  have Xll_10 := Lib.hid (Xll_9.out.below h10)
  clear Xll_9
  clear h10
  clear Y9
  go_wp2_with fail
  refine (toR_is ll llv HNll.out _ (Hll.out.below b10)).mono ?_
  rintro e w11 ⟨x11, rfl, hx11, h11⟩
  have b11 : Below W1.heap.size W1 w11 := Below.trans b10 (h11.mono b10.size)
  have y11 : w10.heap.size ≤ w11.heap.size := h11.size
  have z11 : W1.heap.size ≤ w11.heap.size := b11.size
  have Xl_11 := Lib.hid (Xl_10.out.below h11)
  clear Xl_10
  have Xll_11 := Lib.hid (Xll_10.out.below h11)
  clear Xll_10
  have Y11 := Lib.hid hx11
  clear hx11
  clear h11
  go_wp2_with fail
  refine (eqR_arg ll x6 x11 HNll.out _ Xll_11.out.is Y11.out.is).mono ?_
  rintro e w12 ⟨rfl, h12⟩
  have b12 : Below W1.heap.size W1 w12 := Below.trans b11 (h12.mono b11.size)
  have y12 : w11.heap.size ≤ w12.heap.size := h12.size
  have z12 : W1.heap.size ≤ w12.heap.size := b12.size
  have Xl_12 := Lib.hid (Xl_11.out.below h12)
  clear Xl_11
  have Xll_12 := Lib.hid (Xll_11.out.below h12)
  clear Xll_11
  clear h12
  clear Y11
  go_wp2
  go_ret
  exact ⟨by first | rfl | exact retb (by simp), HB.out.trans (b12.mono HB.out.size)⟩
set_option maxHeartbeats 2000000 in
theorem w_ExactDiverseLeast (l : List Pn) (lv : Value) (ll : List (List Int)) (llv : Value) (r : Rc) (W : World) (hl : IsP W lv l) (hll : IsR W llv ll) :
    Calls Try.prog 7 #[lv, llv, r.val] W fun e w' => e = .returned (.bool true) ∧ Below W.heap.size W w' := by
  obtain ⟨W1, hW⟩ : ∃ W1, W1 = (W.alloc (.cells #[.int .i64 r.area, .int .i64 r.job, .int .i64 r.sex] 35)) := ⟨_, rfl⟩
  have hb1 : Below W.heap.size W W1 := by rw [hW]; exact ((Below.refl _ _).alloc (Nat.le_refl _) _)
  have hzr : W.heap.size < W1.heap.size := by rw [hW]; simp
  have er0 : W1.cell? ⟨W.heap.size, 0, none⟩ = some (.int .i64 r.area) := by rw [hW]; simp [go_sem]
  have er1 : W1.cell? ⟨W.heap.size, 1, none⟩ = some (.int .i64 r.job) := by rw [hW]; simp [go_sem]
  have er2 : W1.cell? ⟨W.heap.size, 2, none⟩ = some (.int .i64 r.sex) := by rw [hW]; simp [go_sem]
  have HCr := Lib.hid (show ∀ w', Below W1.heap.size W1 w' → w'.cell? ⟨W.heap.size, 0, none⟩ = some (.int .i64 r.area) ∧ w'.cell? ⟨W.heap.size, 1, none⟩ = some (.int .i64 r.job) ∧ w'.cell? ⟨W.heap.size, 2, none⟩ = some (.int .i64 r.sex) from fun w' h => ⟨(h.cell (p := ⟨W.heap.size, 0, none⟩) hzr).trans er0, (h.cell (p := ⟨W.heap.size, 1, none⟩) hzr).trans er1, (h.cell (p := ⟨W.heap.size, 2, none⟩) hzr).trans er2⟩)
  have HF := Lib.hid (show ∀ w', Below W1.heap.size W1 w' → (Below W1.heap.size W1 w' ∧ w'.cell? ⟨W.heap.size, 0, none⟩ = some (.int .i64 r.area) ∧ w'.cell? ⟨W.heap.size, 1, none⟩ = some (.int .i64 r.job) ∧ w'.cell? ⟨W.heap.size, 2, none⟩ = some (.int .i64 r.sex)) from fun w' h => ⟨h, (HCr.out w' h).1, (HCr.out w' h).2.1, (HCr.out w' h).2.2⟩)
  clear er0 er1 er2
  have Hl := Lib.hid (hl.below hb1)
  clear hl
  have Hll := Lib.hid (hll.below hb1)
  clear hll
  have HB := Lib.hid hb1
  have b0 := Below.refl W1.heap.size W1
  clear hb1
  go_enter Try.func7, Try.ntmps7
  go_wp2_with fail
  rw [← hW]
  clear hW
  refine (szP_is l lv 1048576 (by omega) (by omega) _ Hl.out).mono ?_
  rintro e w' ⟨rfl, rfl⟩
  rcases szL_cases l.length (left := 1048576) (by omega) (by omega) with hz | ⟨l1, m1, hn⟩
  · rw [hz]; go_wp2; go_ret; exact ⟨rfl, HB.out⟩
  obtain ⟨s1, hs⟩ : ∃ z, szL l.length 1048576 = z := ⟨_, rfl⟩
  rw [hs] at l1 m1 ⊢
  have HNl := Lib.hid hn; clear hn hs
  go_wp2_with fail
  refine (szR_is ll llv s1 l1 m1 _ Hll.out).mono ?_
  rintro e w' ⟨rfl, rfl⟩
  rcases szL_cases (ll.length + tot ll) (left := s1) l1 m1 with hz | ⟨l2, m2, hn⟩
  · rw [hz]; go_wp2; go_ret; exact ⟨rfl, HB.out⟩
  obtain ⟨s2, hs⟩ : ∃ z, szL (ll.length + tot ll) s1 = z := ⟨_, rfl⟩
  rw [hs] at l2 m2 ⊢
  have HNll := Lib.hid hn; clear hn hs
  have bd : Below W1.heap.size W1 W1.drew := b0.drew
  have yd : W1.heap.size ≤ W1.drew.heap.size := Nat.le_refl _
  go_wp2
  go_region_held3 (fun w' => Below W1.heap.size W1 w' ∧ w'.cell? ⟨W.heap.size, 0, none⟩ = some (.int .i64 r.area) ∧ w'.cell? ⟨W.heap.size, 1, none⟩ = some (.int .i64 r.job) ∧ w'.cell? ⟨W.heap.size, 2, none⟩ = some (.int .i64 r.sex))
    (first | exact HF.out _ (by assumption) | exact HF.out _ bd)
    (first
      | (go_at_call 18
         refine (toP_is l lv HNl.out _ (Hl.out.below bd)).mono ?_
         rintro e w1 ⟨x1, rfl, hx1, h1⟩
         have b1 : Below W1.heap.size W1 w1 := Below.trans bd (h1.mono bd.size)
         have y1 : W1.drew.heap.size ≤ w1.heap.size := h1.size
         have z1 : W1.heap.size ≤ w1.heap.size := b1.size
         have Xl_1 := Lib.hid hx1
         clear hx1
         clear h1)
      | (go_at_call 19
         refine (toR_is ll llv HNll.out _ (Hll.out.below b1)).mono ?_
         rintro e w2 ⟨x2, rfl, hx2, h2⟩
         have b2 : Below W1.heap.size W1 w2 := Below.trans b1 (h2.mono b1.size)
         have y2 : w1.heap.size ≤ w2.heap.size := h2.size
         have z2 : W1.heap.size ≤ w2.heap.size := b2.size
         have Xl_2 := Lib.hid (Xl_1.out.below h2)
         clear Xl_1
         have Xll_2 := Lib.hid hx2
         clear hx2
         clear h2)
      | (go_at_call 20
         with_reducible refine (toRc_any r _).mono ?_
         rintro e w3 ⟨rfl, h3⟩
         have b3 : Below W1.heap.size W1 w3 := Below.trans b2 (h3.mono b2.size)
         have y3 : w2.heap.size ≤ w3.heap.size := h3.size
         have z3 : W1.heap.size ≤ w3.heap.size := b3.size
         have Xl_3 := Lib.hid (Xl_2.out.below h3)
         clear Xl_2
         have Xll_3 := Lib.hid (Xll_2.out.below h3)
         clear Xll_2
         clear h3)
      | (go_at_call 24
         refine (sDLeast_is w3 l x1 (Xl_3.out.is) ll x2 (Xll_3.out.is) r _ rfl _ (Below.refl _ _)).mono ?_
         rintro e w4 ⟨rfl, h4⟩
         have b4 : Below W1.heap.size W1 w4 := Below.trans b3 (h4.mono b3.size)
         have y4 : w3.heap.size ≤ w4.heap.size := h4.size
         have z4 : W1.heap.size ≤ w4.heap.size := b4.size
         have Xl_4 := Lib.hid (Xl_3.out.below h4)
         clear Xl_3
         have Xll_4 := Lib.hid (Xll_3.out.below h4)
         clear Xll_3
         clear h4))
  clear Xl_4
  clear Xll_4
  go_wp2_with fail
  refine (toP_is l lv HNl.out _ (Hl.out.below b4)).mono ?_
  rintro e w5 ⟨x5, rfl, hx5, h5⟩
  have b5 : Below W1.heap.size W1 w5 := Below.trans b4 (h5.mono b4.size)
  have y5 : w4.heap.size ≤ w5.heap.size := h5.size
  have z5 : W1.heap.size ≤ w5.heap.size := b5.size
  have Xl_5 := Lib.hid hx5
  clear hx5
  clear h5
  go_wp2_with fail
  refine (toR_is ll llv HNll.out _ (Hll.out.below b5)).mono ?_
  rintro e w6 ⟨x6, rfl, hx6, h6⟩
  have b6 : Below W1.heap.size W1 w6 := Below.trans b5 (h6.mono b5.size)
  have y6 : w5.heap.size ≤ w6.heap.size := h6.size
  have z6 : W1.heap.size ≤ w6.heap.size := b6.size
  have Xl_6 := Lib.hid (Xl_5.out.below h6)
  clear Xl_5
  have Xll_6 := Lib.hid hx6
  clear hx6
  clear h6
  obtain ⟨dr0, dr1, dr2⟩ := HCr.out _ b6
  go_wp2_with fail
  refine (toRc_any r _).mono ?_
  rintro e w7 ⟨rfl, h7⟩
  have b7 : Below W1.heap.size W1 w7 := Below.trans b6 (h7.mono b6.size)
  have y7 : w6.heap.size ≤ w7.heap.size := h7.size
  have z7 : W1.heap.size ≤ w7.heap.size := b7.size
  have Xl_7 := Lib.hid (Xl_6.out.below h7)
  clear Xl_6
  have Xll_7 := Lib.hid (Xll_6.out.below h7)
  clear Xll_6
  clear h7
  go_wp2_with fail
  refine (iDLeast_is w7 l x5 (Xl_7.out.is) ll x6 (Xll_7.out.is) r _ rfl _ (Below.refl _ _)).mono ?_
  rintro e w8 ⟨rfl, h8⟩
  have b8 : Below W1.heap.size W1 w8 := Below.trans b7 (h8.mono b7.size)
  have y8 : w7.heap.size ≤ w8.heap.size := h8.size
  have z8 : W1.heap.size ≤ w8.heap.size := b8.size
  have Xl_8 := Lib.hid (Xl_7.out.below h8)
  clear Xl_7
  have Xll_8 := Lib.hid (Xll_7.out.below h8)
  clear Xll_7
  clear h8
  clear dr0 dr1 dr2
  go_wp2_with fail
  refine (toP_is l lv HNl.out _ (Hl.out.below b8)).mono ?_
  rintro e w9 ⟨x9, rfl, hx9, h9⟩
  have b9 : Below W1.heap.size W1 w9 := Below.trans b8 (h9.mono b8.size)
  have y9 : w8.heap.size ≤ w9.heap.size := h9.size
  have z9 : W1.heap.size ≤ w9.heap.size := b9.size
  have Xl_9 := Lib.hid (Xl_8.out.below h9)
  clear Xl_8
  have Xll_9 := Lib.hid (Xll_8.out.below h9)
  clear Xll_8
  have Y9 := Lib.hid hx9
  clear hx9
  clear h9
  go_wp2_with fail
  refine (eqP_arg l x5 x9 HNl.out _ Xl_9.out.is Y9.out.is).mono ?_
  rintro e w10 ⟨rfl, h10⟩
  have b10 : Below W1.heap.size W1 w10 := Below.trans b9 (h10.mono b9.size)
  have y10 : w9.heap.size ≤ w10.heap.size := h10.size
  have z10 : W1.heap.size ≤ w10.heap.size := b10.size
  have Xl_10 := Lib.hid (Xl_9.out.below h10)
  clear Xl_9
  have Xll_10 := Lib.hid (Xll_9.out.below h10)
  clear Xll_9
  clear h10
  clear Y9
  go_wp2_with fail
  refine (toR_is ll llv HNll.out _ (Hll.out.below b10)).mono ?_
  rintro e w11 ⟨x11, rfl, hx11, h11⟩
  have b11 : Below W1.heap.size W1 w11 := Below.trans b10 (h11.mono b10.size)
  have y11 : w10.heap.size ≤ w11.heap.size := h11.size
  have z11 : W1.heap.size ≤ w11.heap.size := b11.size
  have Xl_11 := Lib.hid (Xl_10.out.below h11)
  clear Xl_10
  have Xll_11 := Lib.hid (Xll_10.out.below h11)
  clear Xll_10
  have Y11 := Lib.hid hx11
  clear hx11
  clear h11
  go_wp2_with fail
  refine (eqR_arg ll x6 x11 HNll.out _ Xll_11.out.is Y11.out.is).mono ?_
  rintro e w12 ⟨rfl, h12⟩
  have b12 : Below W1.heap.size W1 w12 := Below.trans b11 (h12.mono b11.size)
  have y12 : w11.heap.size ≤ w12.heap.size := h12.size
  have z12 : W1.heap.size ≤ w12.heap.size := b12.size
  have Xl_12 := Lib.hid (Xl_11.out.below h12)
  clear Xl_11
  have Xll_12 := Lib.hid (Xll_11.out.below h12)
  clear Xll_11
  clear h12
  clear Y11
  go_wp2
  go_ret
  exact ⟨by first | rfl | exact retb (by simp), HB.out.trans (b12.mono HB.out.size)⟩
set_option maxHeartbeats 2000000 in
theorem w_ExactDiverseOk (l : List Pn) (lv : Value) (ll : List (List Int)) (llv : Value) (r : Rc) (k : Int) (m : Int) (W : World) (hl : IsP W lv l) (hll : IsR W llv ll) :
    Calls Try.prog 8 #[lv, llv, r.val, .int .i64 k, .int .i64 m] W fun e w' => e = .returned (.bool true) ∧ Below W.heap.size W w' := by
  obtain ⟨W1, hW⟩ : ∃ W1, W1 = (W.alloc (.cells #[.int .i64 r.area, .int .i64 r.job, .int .i64 r.sex] 35)) := ⟨_, rfl⟩
  have hb1 : Below W.heap.size W W1 := by rw [hW]; exact ((Below.refl _ _).alloc (Nat.le_refl _) _)
  have hzr : W.heap.size < W1.heap.size := by rw [hW]; simp
  have er0 : W1.cell? ⟨W.heap.size, 0, none⟩ = some (.int .i64 r.area) := by rw [hW]; simp [go_sem]
  have er1 : W1.cell? ⟨W.heap.size, 1, none⟩ = some (.int .i64 r.job) := by rw [hW]; simp [go_sem]
  have er2 : W1.cell? ⟨W.heap.size, 2, none⟩ = some (.int .i64 r.sex) := by rw [hW]; simp [go_sem]
  have HCr := Lib.hid (show ∀ w', Below W1.heap.size W1 w' → w'.cell? ⟨W.heap.size, 0, none⟩ = some (.int .i64 r.area) ∧ w'.cell? ⟨W.heap.size, 1, none⟩ = some (.int .i64 r.job) ∧ w'.cell? ⟨W.heap.size, 2, none⟩ = some (.int .i64 r.sex) from fun w' h => ⟨(h.cell (p := ⟨W.heap.size, 0, none⟩) hzr).trans er0, (h.cell (p := ⟨W.heap.size, 1, none⟩) hzr).trans er1, (h.cell (p := ⟨W.heap.size, 2, none⟩) hzr).trans er2⟩)
  have HF := Lib.hid (show ∀ w', Below W1.heap.size W1 w' → (Below W1.heap.size W1 w' ∧ w'.cell? ⟨W.heap.size, 0, none⟩ = some (.int .i64 r.area) ∧ w'.cell? ⟨W.heap.size, 1, none⟩ = some (.int .i64 r.job) ∧ w'.cell? ⟨W.heap.size, 2, none⟩ = some (.int .i64 r.sex)) from fun w' h => ⟨h, (HCr.out w' h).1, (HCr.out w' h).2.1, (HCr.out w' h).2.2⟩)
  clear er0 er1 er2
  have Hl := Lib.hid (hl.below hb1)
  clear hl
  have Hll := Lib.hid (hll.below hb1)
  clear hll
  have HB := Lib.hid hb1
  have b0 := Below.refl W1.heap.size W1
  clear hb1
  go_enter Try.func8, Try.ntmps8
  go_wp2_with fail
  rw [← hW]
  clear hW
  refine (szP_is l lv 1048576 (by omega) (by omega) _ Hl.out).mono ?_
  rintro e w' ⟨rfl, rfl⟩
  rcases szL_cases l.length (left := 1048576) (by omega) (by omega) with hz | ⟨l1, m1, hn⟩
  · rw [hz]; go_wp2; go_ret; exact ⟨rfl, HB.out⟩
  obtain ⟨s1, hs⟩ : ∃ z, szL l.length 1048576 = z := ⟨_, rfl⟩
  rw [hs] at l1 m1 ⊢
  have HNl := Lib.hid hn; clear hn hs
  go_wp2_with fail
  refine (szR_is ll llv s1 l1 m1 _ Hll.out).mono ?_
  rintro e w' ⟨rfl, rfl⟩
  rcases szL_cases (ll.length + tot ll) (left := s1) l1 m1 with hz | ⟨l2, m2, hn⟩
  · rw [hz]; go_wp2; go_ret; exact ⟨rfl, HB.out⟩
  obtain ⟨s2, hs⟩ : ∃ z, szL (ll.length + tot ll) s1 = z := ⟨_, rfl⟩
  rw [hs] at l2 m2 ⊢
  have HNll := Lib.hid hn; clear hn hs
  have bd : Below W1.heap.size W1 W1.drew := b0.drew
  have yd : W1.heap.size ≤ W1.drew.heap.size := Nat.le_refl _
  go_wp2
  go_region_held3 (fun w' => Below W1.heap.size W1 w' ∧ w'.cell? ⟨W.heap.size, 0, none⟩ = some (.int .i64 r.area) ∧ w'.cell? ⟨W.heap.size, 1, none⟩ = some (.int .i64 r.job) ∧ w'.cell? ⟨W.heap.size, 2, none⟩ = some (.int .i64 r.sex))
    (first | exact HF.out _ (by assumption) | exact HF.out _ bd)
    (first
      | (go_at_call 18
         refine (toP_is l lv HNl.out _ (Hl.out.below bd)).mono ?_
         rintro e w1 ⟨x1, rfl, hx1, h1⟩
         have b1 : Below W1.heap.size W1 w1 := Below.trans bd (h1.mono bd.size)
         have y1 : W1.drew.heap.size ≤ w1.heap.size := h1.size
         have z1 : W1.heap.size ≤ w1.heap.size := b1.size
         have Xl_1 := Lib.hid hx1
         clear hx1
         clear h1)
      | (go_at_call 19
         refine (toR_is ll llv HNll.out _ (Hll.out.below b1)).mono ?_
         rintro e w2 ⟨x2, rfl, hx2, h2⟩
         have b2 : Below W1.heap.size W1 w2 := Below.trans b1 (h2.mono b1.size)
         have y2 : w1.heap.size ≤ w2.heap.size := h2.size
         have z2 : W1.heap.size ≤ w2.heap.size := b2.size
         have Xl_2 := Lib.hid (Xl_1.out.below h2)
         clear Xl_1
         have Xll_2 := Lib.hid hx2
         clear hx2
         clear h2)
      | (go_at_call 20
         with_reducible refine (toRc_any r _).mono ?_
         rintro e w3 ⟨rfl, h3⟩
         have b3 : Below W1.heap.size W1 w3 := Below.trans b2 (h3.mono b2.size)
         have y3 : w2.heap.size ≤ w3.heap.size := h3.size
         have z3 : W1.heap.size ≤ w3.heap.size := b3.size
         have Xl_3 := Lib.hid (Xl_2.out.below h3)
         clear Xl_2
         have Xll_3 := Lib.hid (Xll_2.out.below h3)
         clear Xll_2
         clear h3)
      | (go_at_call 12
         refine (sDOk_is w3 l x1 (Xl_3.out.is) ll x2 (Xll_3.out.is) r k m _ rfl _ (Below.refl _ _)).mono ?_
         rintro e w4 ⟨rfl, h4⟩
         have b4 : Below W1.heap.size W1 w4 := Below.trans b3 (h4.mono b3.size)
         have y4 : w3.heap.size ≤ w4.heap.size := h4.size
         have z4 : W1.heap.size ≤ w4.heap.size := b4.size
         have Xl_4 := Lib.hid (Xl_3.out.below h4)
         clear Xl_3
         have Xll_4 := Lib.hid (Xll_3.out.below h4)
         clear Xll_3
         clear h4))
  clear Xl_4
  clear Xll_4
  go_wp2_with fail
  refine (toP_is l lv HNl.out _ (Hl.out.below b4)).mono ?_
  rintro e w5 ⟨x5, rfl, hx5, h5⟩
  have b5 : Below W1.heap.size W1 w5 := Below.trans b4 (h5.mono b4.size)
  have y5 : w4.heap.size ≤ w5.heap.size := h5.size
  have z5 : W1.heap.size ≤ w5.heap.size := b5.size
  have Xl_5 := Lib.hid hx5
  clear hx5
  clear h5
  go_wp2_with fail
  refine (toR_is ll llv HNll.out _ (Hll.out.below b5)).mono ?_
  rintro e w6 ⟨x6, rfl, hx6, h6⟩
  have b6 : Below W1.heap.size W1 w6 := Below.trans b5 (h6.mono b5.size)
  have y6 : w5.heap.size ≤ w6.heap.size := h6.size
  have z6 : W1.heap.size ≤ w6.heap.size := b6.size
  have Xl_6 := Lib.hid (Xl_5.out.below h6)
  clear Xl_5
  have Xll_6 := Lib.hid hx6
  clear hx6
  clear h6
  obtain ⟨dr0, dr1, dr2⟩ := HCr.out _ b6
  go_wp2_with fail
  refine (toRc_any r _).mono ?_
  rintro e w7 ⟨rfl, h7⟩
  have b7 : Below W1.heap.size W1 w7 := Below.trans b6 (h7.mono b6.size)
  have y7 : w6.heap.size ≤ w7.heap.size := h7.size
  have z7 : W1.heap.size ≤ w7.heap.size := b7.size
  have Xl_7 := Lib.hid (Xl_6.out.below h7)
  clear Xl_6
  have Xll_7 := Lib.hid (Xll_6.out.below h7)
  clear Xll_6
  clear h7
  go_wp2_with fail
  refine (iDOk_is w7 l x5 (Xl_7.out.is) ll x6 (Xll_7.out.is) r k m _ rfl _ (Below.refl _ _)).mono ?_
  rintro e w8 ⟨rfl, h8⟩
  have b8 : Below W1.heap.size W1 w8 := Below.trans b7 (h8.mono b7.size)
  have y8 : w7.heap.size ≤ w8.heap.size := h8.size
  have z8 : W1.heap.size ≤ w8.heap.size := b8.size
  have Xl_8 := Lib.hid (Xl_7.out.below h8)
  clear Xl_7
  have Xll_8 := Lib.hid (Xll_7.out.below h8)
  clear Xll_7
  clear h8
  clear dr0 dr1 dr2
  go_wp2_with fail
  refine (toP_is l lv HNl.out _ (Hl.out.below b8)).mono ?_
  rintro e w9 ⟨x9, rfl, hx9, h9⟩
  have b9 : Below W1.heap.size W1 w9 := Below.trans b8 (h9.mono b8.size)
  have y9 : w8.heap.size ≤ w9.heap.size := h9.size
  have z9 : W1.heap.size ≤ w9.heap.size := b9.size
  have Xl_9 := Lib.hid (Xl_8.out.below h9)
  clear Xl_8
  have Xll_9 := Lib.hid (Xll_8.out.below h9)
  clear Xll_8
  have Y9 := Lib.hid hx9
  clear hx9
  clear h9
  go_wp2_with fail
  refine (eqP_arg l x5 x9 HNl.out _ Xl_9.out.is Y9.out.is).mono ?_
  rintro e w10 ⟨rfl, h10⟩
  have b10 : Below W1.heap.size W1 w10 := Below.trans b9 (h10.mono b9.size)
  have y10 : w9.heap.size ≤ w10.heap.size := h10.size
  have z10 : W1.heap.size ≤ w10.heap.size := b10.size
  have Xl_10 := Lib.hid (Xl_9.out.below h10)
  clear Xl_9
  have Xll_10 := Lib.hid (Xll_9.out.below h10)
  clear Xll_9
  clear h10
  clear Y9
  go_wp2_with fail
  refine (toR_is ll llv HNll.out _ (Hll.out.below b10)).mono ?_
  rintro e w11 ⟨x11, rfl, hx11, h11⟩
  have b11 : Below W1.heap.size W1 w11 := Below.trans b10 (h11.mono b10.size)
  have y11 : w10.heap.size ≤ w11.heap.size := h11.size
  have z11 : W1.heap.size ≤ w11.heap.size := b11.size
  have Xl_11 := Lib.hid (Xl_10.out.below h11)
  clear Xl_10
  have Xll_11 := Lib.hid (Xll_10.out.below h11)
  clear Xll_10
  have Y11 := Lib.hid hx11
  clear hx11
  clear h11
  go_wp2_with fail
  refine (eqR_arg ll x6 x11 HNll.out _ Xll_11.out.is Y11.out.is).mono ?_
  rintro e w12 ⟨rfl, h12⟩
  have b12 : Below W1.heap.size W1 w12 := Below.trans b11 (h12.mono b11.size)
  have y12 : w11.heap.size ≤ w12.heap.size := h12.size
  have z12 : W1.heap.size ≤ w12.heap.size := b12.size
  have Xl_12 := Lib.hid (Xl_11.out.below h12)
  clear Xl_11
  have Xll_12 := Lib.hid (Xll_11.out.below h12)
  clear Xll_11
  clear h12
  clear Y11
  go_wp2
  go_ret
  exact ⟨by first | rfl | exact retb (by simp), HB.out.trans (b12.mono HB.out.size)⟩
set_option maxHeartbeats 2000000 in
theorem w_ExactDiverseFar (l : List Pn) (lv : Value) (ll : List (List Int)) (llv : Value) (r : Rc) (k : Int) (W : World) (hl : IsP W lv l) (hll : IsR W llv ll) :
    Calls Try.prog 9 #[lv, llv, r.val, .int .i64 k] W fun e w' => e = .returned (.bool true) ∧ Below W.heap.size W w' := by
  obtain ⟨W1, hW⟩ : ∃ W1, W1 = (W.alloc (.cells #[.int .i64 r.area, .int .i64 r.job, .int .i64 r.sex] 35)) := ⟨_, rfl⟩
  have hb1 : Below W.heap.size W W1 := by rw [hW]; exact ((Below.refl _ _).alloc (Nat.le_refl _) _)
  have hzr : W.heap.size < W1.heap.size := by rw [hW]; simp
  have er0 : W1.cell? ⟨W.heap.size, 0, none⟩ = some (.int .i64 r.area) := by rw [hW]; simp [go_sem]
  have er1 : W1.cell? ⟨W.heap.size, 1, none⟩ = some (.int .i64 r.job) := by rw [hW]; simp [go_sem]
  have er2 : W1.cell? ⟨W.heap.size, 2, none⟩ = some (.int .i64 r.sex) := by rw [hW]; simp [go_sem]
  have HCr := Lib.hid (show ∀ w', Below W1.heap.size W1 w' → w'.cell? ⟨W.heap.size, 0, none⟩ = some (.int .i64 r.area) ∧ w'.cell? ⟨W.heap.size, 1, none⟩ = some (.int .i64 r.job) ∧ w'.cell? ⟨W.heap.size, 2, none⟩ = some (.int .i64 r.sex) from fun w' h => ⟨(h.cell (p := ⟨W.heap.size, 0, none⟩) hzr).trans er0, (h.cell (p := ⟨W.heap.size, 1, none⟩) hzr).trans er1, (h.cell (p := ⟨W.heap.size, 2, none⟩) hzr).trans er2⟩)
  have HF := Lib.hid (show ∀ w', Below W1.heap.size W1 w' → (Below W1.heap.size W1 w' ∧ w'.cell? ⟨W.heap.size, 0, none⟩ = some (.int .i64 r.area) ∧ w'.cell? ⟨W.heap.size, 1, none⟩ = some (.int .i64 r.job) ∧ w'.cell? ⟨W.heap.size, 2, none⟩ = some (.int .i64 r.sex)) from fun w' h => ⟨h, (HCr.out w' h).1, (HCr.out w' h).2.1, (HCr.out w' h).2.2⟩)
  clear er0 er1 er2
  have Hl := Lib.hid (hl.below hb1)
  clear hl
  have Hll := Lib.hid (hll.below hb1)
  clear hll
  have HB := Lib.hid hb1
  have b0 := Below.refl W1.heap.size W1
  clear hb1
  go_enter Try.func9, Try.ntmps9
  go_wp2_with fail
  rw [← hW]
  clear hW
  refine (szP_is l lv 1048576 (by omega) (by omega) _ Hl.out).mono ?_
  rintro e w' ⟨rfl, rfl⟩
  rcases szL_cases l.length (left := 1048576) (by omega) (by omega) with hz | ⟨l1, m1, hn⟩
  · rw [hz]; go_wp2; go_ret; exact ⟨rfl, HB.out⟩
  obtain ⟨s1, hs⟩ : ∃ z, szL l.length 1048576 = z := ⟨_, rfl⟩
  rw [hs] at l1 m1 ⊢
  have HNl := Lib.hid hn; clear hn hs
  go_wp2_with fail
  refine (szR_is ll llv s1 l1 m1 _ Hll.out).mono ?_
  rintro e w' ⟨rfl, rfl⟩
  rcases szL_cases (ll.length + tot ll) (left := s1) l1 m1 with hz | ⟨l2, m2, hn⟩
  · rw [hz]; go_wp2; go_ret; exact ⟨rfl, HB.out⟩
  obtain ⟨s2, hs⟩ : ∃ z, szL (ll.length + tot ll) s1 = z := ⟨_, rfl⟩
  rw [hs] at l2 m2 ⊢
  have HNll := Lib.hid hn; clear hn hs
  have bd : Below W1.heap.size W1 W1.drew := b0.drew
  have yd : W1.heap.size ≤ W1.drew.heap.size := Nat.le_refl _
  go_wp2
  go_region_held3 (fun w' => Below W1.heap.size W1 w' ∧ w'.cell? ⟨W.heap.size, 0, none⟩ = some (.int .i64 r.area) ∧ w'.cell? ⟨W.heap.size, 1, none⟩ = some (.int .i64 r.job) ∧ w'.cell? ⟨W.heap.size, 2, none⟩ = some (.int .i64 r.sex))
    (first | exact HF.out _ (by assumption) | exact HF.out _ bd)
    (first
      | (go_at_call 18
         refine (toP_is l lv HNl.out _ (Hl.out.below bd)).mono ?_
         rintro e w1 ⟨x1, rfl, hx1, h1⟩
         have b1 : Below W1.heap.size W1 w1 := Below.trans bd (h1.mono bd.size)
         have y1 : W1.drew.heap.size ≤ w1.heap.size := h1.size
         have z1 : W1.heap.size ≤ w1.heap.size := b1.size
         have Xl_1 := Lib.hid hx1
         clear hx1
         clear h1)
      | (go_at_call 19
         refine (toR_is ll llv HNll.out _ (Hll.out.below b1)).mono ?_
         rintro e w2 ⟨x2, rfl, hx2, h2⟩
         have b2 : Below W1.heap.size W1 w2 := Below.trans b1 (h2.mono b1.size)
         have y2 : w1.heap.size ≤ w2.heap.size := h2.size
         have z2 : W1.heap.size ≤ w2.heap.size := b2.size
         have Xl_2 := Lib.hid (Xl_1.out.below h2)
         clear Xl_1
         have Xll_2 := Lib.hid hx2
         clear hx2
         clear h2)
      | (go_at_call 20
         with_reducible refine (toRc_any r _).mono ?_
         rintro e w3 ⟨rfl, h3⟩
         have b3 : Below W1.heap.size W1 w3 := Below.trans b2 (h3.mono b2.size)
         have y3 : w2.heap.size ≤ w3.heap.size := h3.size
         have z3 : W1.heap.size ≤ w3.heap.size := b3.size
         have Xl_3 := Lib.hid (Xl_2.out.below h3)
         clear Xl_2
         have Xll_3 := Lib.hid (Xll_2.out.below h3)
         clear Xll_2
         clear h3)
      | (go_at_call 25
         refine (sDFar_is w3 l x1 (Xl_3.out.is) ll x2 (Xll_3.out.is) r k _ rfl _ (Below.refl _ _)).mono ?_
         rintro e w4 ⟨rfl, h4⟩
         have b4 : Below W1.heap.size W1 w4 := Below.trans b3 (h4.mono b3.size)
         have y4 : w3.heap.size ≤ w4.heap.size := h4.size
         have z4 : W1.heap.size ≤ w4.heap.size := b4.size
         have Xl_4 := Lib.hid (Xl_3.out.below h4)
         clear Xl_3
         have Xll_4 := Lib.hid (Xll_3.out.below h4)
         clear Xll_3
         clear h4))
  clear Xl_4
  clear Xll_4
  go_wp2_with fail
  refine (toP_is l lv HNl.out _ (Hl.out.below b4)).mono ?_
  rintro e w5 ⟨x5, rfl, hx5, h5⟩
  have b5 : Below W1.heap.size W1 w5 := Below.trans b4 (h5.mono b4.size)
  have y5 : w4.heap.size ≤ w5.heap.size := h5.size
  have z5 : W1.heap.size ≤ w5.heap.size := b5.size
  have Xl_5 := Lib.hid hx5
  clear hx5
  clear h5
  go_wp2_with fail
  refine (toR_is ll llv HNll.out _ (Hll.out.below b5)).mono ?_
  rintro e w6 ⟨x6, rfl, hx6, h6⟩
  have b6 : Below W1.heap.size W1 w6 := Below.trans b5 (h6.mono b5.size)
  have y6 : w5.heap.size ≤ w6.heap.size := h6.size
  have z6 : W1.heap.size ≤ w6.heap.size := b6.size
  have Xl_6 := Lib.hid (Xl_5.out.below h6)
  clear Xl_5
  have Xll_6 := Lib.hid hx6
  clear hx6
  clear h6
  obtain ⟨dr0, dr1, dr2⟩ := HCr.out _ b6
  go_wp2_with fail
  refine (toRc_any r _).mono ?_
  rintro e w7 ⟨rfl, h7⟩
  have b7 : Below W1.heap.size W1 w7 := Below.trans b6 (h7.mono b6.size)
  have y7 : w6.heap.size ≤ w7.heap.size := h7.size
  have z7 : W1.heap.size ≤ w7.heap.size := b7.size
  have Xl_7 := Lib.hid (Xl_6.out.below h7)
  clear Xl_6
  have Xll_7 := Lib.hid (Xll_6.out.below h7)
  clear Xll_6
  clear h7
  go_wp2_with fail
  refine (iDFar_is w7 l x5 (Xl_7.out.is) ll x6 (Xll_7.out.is) r k _ rfl _ (Below.refl _ _)).mono ?_
  rintro e w8 ⟨rfl, h8⟩
  have b8 : Below W1.heap.size W1 w8 := Below.trans b7 (h8.mono b7.size)
  have y8 : w7.heap.size ≤ w8.heap.size := h8.size
  have z8 : W1.heap.size ≤ w8.heap.size := b8.size
  have Xl_8 := Lib.hid (Xl_7.out.below h8)
  clear Xl_7
  have Xll_8 := Lib.hid (Xll_7.out.below h8)
  clear Xll_7
  clear h8
  clear dr0 dr1 dr2
  go_wp2_with fail
  refine (toP_is l lv HNl.out _ (Hl.out.below b8)).mono ?_
  rintro e w9 ⟨x9, rfl, hx9, h9⟩
  have b9 : Below W1.heap.size W1 w9 := Below.trans b8 (h9.mono b8.size)
  have y9 : w8.heap.size ≤ w9.heap.size := h9.size
  have z9 : W1.heap.size ≤ w9.heap.size := b9.size
  have Xl_9 := Lib.hid (Xl_8.out.below h9)
  clear Xl_8
  have Xll_9 := Lib.hid (Xll_8.out.below h9)
  clear Xll_8
  have Y9 := Lib.hid hx9
  clear hx9
  clear h9
  go_wp2_with fail
  refine (eqP_arg l x5 x9 HNl.out _ Xl_9.out.is Y9.out.is).mono ?_
  rintro e w10 ⟨rfl, h10⟩
  have b10 : Below W1.heap.size W1 w10 := Below.trans b9 (h10.mono b9.size)
  have y10 : w9.heap.size ≤ w10.heap.size := h10.size
  have z10 : W1.heap.size ≤ w10.heap.size := b10.size
  have Xl_10 := Lib.hid (Xl_9.out.below h10)
  clear Xl_9
  have Xll_10 := Lib.hid (Xll_9.out.below h10)
  clear Xll_9
  clear h10
  clear Y9
  go_wp2_with fail
  refine (toR_is ll llv HNll.out _ (Hll.out.below b10)).mono ?_
  rintro e w11 ⟨x11, rfl, hx11, h11⟩
  have b11 : Below W1.heap.size W1 w11 := Below.trans b10 (h11.mono b10.size)
  have y11 : w10.heap.size ≤ w11.heap.size := h11.size
  have z11 : W1.heap.size ≤ w11.heap.size := b11.size
  have Xl_11 := Lib.hid (Xl_10.out.below h11)
  clear Xl_10
  have Xll_11 := Lib.hid (Xll_10.out.below h11)
  clear Xll_10
  have Y11 := Lib.hid hx11
  clear hx11
  clear h11
  go_wp2_with fail
  refine (eqR_arg ll x6 x11 HNll.out _ Xll_11.out.is Y11.out.is).mono ?_
  rintro e w12 ⟨rfl, h12⟩
  have b12 : Below W1.heap.size W1 w12 := Below.trans b11 (h12.mono b11.size)
  have y12 : w11.heap.size ≤ w12.heap.size := h12.size
  have z12 : W1.heap.size ≤ w12.heap.size := b12.size
  have Xl_12 := Lib.hid (Xl_11.out.below h12)
  clear Xl_11
  have Xll_12 := Lib.hid (Xll_11.out.below h12)
  clear Xll_11
  clear h12
  clear Y11
  go_wp2
  go_ret
  exact ⟨by first | rfl | exact retb (by simp), HB.out.trans (b12.mono HB.out.size)⟩
end Go.Proofs.Ytodiadipbpchpaa
