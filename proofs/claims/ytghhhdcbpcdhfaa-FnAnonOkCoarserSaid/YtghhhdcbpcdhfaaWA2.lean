/- Laws of chapter 4 on the best recoding. -/
import Derived.Test.YtghhhdcbpcdhfaaAB3
namespace Go.Proofs.Ytghhhdcbpcdhfaa
open Go.RowKit
set_option maxHeartbeats 4000000 in
theorem w_BestTop (A : Option Addr) (n c : Nat) (hnc : n ≤ c) (hn : n ≤ maxLen) (w : World) (hb : Bytes w w.heap.size A n) :
    Calls Try.prog 5 #[.slice A n c] w fun e w' => e = .returned (.bool true) ∧ Below w.heap.size w w' := by
  have hn2 := hn
  unfold maxLen at hn2
  rcases (show 1048576 < n ∨ ¬ 1048576 < n by omega) with hbig | hbig
  · go_enter Try.func5, Try.ntmps5
    go_wp2
    go_ret
    exact ⟨rfl, Below.refl _ _⟩
  · go_enter Try.func5, Try.ntmps5
    go_wp2_with fail
    refine (dAnonBest_any A n c hnc hn _ hb).mono ?_
    rintro e W ⟨l, v, ll, u, k, d, rfl, hv, hu, hl, hll, _, k0, k1, d0, d1, hbW⟩
    have HV0 := Lib.hid hv; have HU0 := Lib.hid hu; have HBW := Lib.hid hbW
    obtain ⟨Au, cu, hu2, _, _, _⟩ := hu
    subst hu2
    obtain ⟨Av, cv, hv2, _, _, _⟩ := hv
    subst hv2
    clear hbW hb
    cases hbest : abest l ll k d with
    | none =>
      have HG := Lib.hid hbest
      clear hbest
      go_wp2_with fail
      refine (iBest_none W l _ HV0.out ll _ HU0.out k d HG.out _ (Below.refl _ _)).mono ?_
      rintro e wa ⟨rfl, ba⟩
      obtain ⟨Wa, hWa⟩ : ∃ Wa, Wa = wa.alloc (.cells #[.int .i64 0, .int .i64 0, .int .i64 0] TRc) := ⟨_, rfl⟩
      have bWa : Below W.heap.size W Wa := by rw [hWa]; exact ba.alloc ba.size _
      have kA := heap_alloc_new wa (.cells #[.int .i64 0, .int .i64 0, .int .i64 0] TRc)
      rw [← hWa] at kA
      have zA : wa.heap.size < Wa.heap.size := (Array.getElem?_eq_some_iff.1 kA).1
      have HVa := Lib.hid (HV0.out.below bWa); have HUa := Lib.hid (HU0.out.below bWa)
      go_wp2_with fail
      rw [← hWa]
      clear hWa
      refine (sBest_none Wa l _ HVa.out ll _ HUa.out k d HG.out _ (Below.refl _ _)).mono ?_
      rintro e wb ⟨rfl, bb⟩
      obtain ⟨W1, hW⟩ : ∃ W1, W1 = wb.alloc (.cells #[.int .i64 0, .int .i64 0, .int .i64 0] TRc) := ⟨_, rfl⟩
      have b1 : Below Wa.heap.size Wa W1 := by rw [hW]; exact bb.alloc bb.size _
      have kB := (b1.block _ zA).trans kA
      have zB : wa.heap.size < W1.heap.size := Nat.lt_of_lt_of_le zA b1.size
      obtain ⟨q0, q1, q2, _, _, _⟩ := blkS kB
      have kC := heap_alloc_new wb (.cells #[.int .i64 0, .int .i64 0, .int .i64 0] TRc)
      rw [← hW] at kC
      obtain ⟨p0, p1, p2, _, _, _⟩ := blkS kC
      have HC := Lib.hid (show ∀ y, Below W1.heap.size W1 y → y.cell? ⟨wa.heap.size, 0, none⟩ = some (.int .i64 0) ∧ y.cell? ⟨wa.heap.size, 1, none⟩ = some (.int .i64 0) ∧ y.cell? ⟨wa.heap.size, 2, none⟩ = some (.int .i64 0) from fun y h => ⟨(h.cell (p := ⟨wa.heap.size, 0, none⟩) zB).trans q0, (h.cell (p := ⟨wa.heap.size, 1, none⟩) zB).trans q1, (h.cell (p := ⟨wa.heap.size, 2, none⟩) zB).trans q2⟩)
      have HV := Lib.hid (HVa.out.below b1); have HU := Lib.hid (HUa.out.below b1)
      have HB := Lib.hid (HBW.out.trans ((bWa.trans (b1.mono bWa.size)).mono HBW.out.size))
      have b0 := Below.refl W1.heap.size W1
      rw [hW] at q0 q1 q2 p0 p1 p2
      clear ba bb bWa b1 kA kB kC zA zB HVa HUa
      go_wp2
      rw [← hW]
      go_ret
      exact ⟨by first | rfl | exact retb (by simp) | exact retb (by simp; omega), HB.out.trans (b0.mono HB.out.size)⟩
    | some r =>
      obtain ⟨t0, t1, t2⟩ := m_bestTop hbest
      obtain ⟨T, hT⟩ : ∃ T, adrop l ll (rtop ll) k = T := ⟨_, rfl⟩
      rw [hT] at t0 t1
      have HT := Lib.hid hT; have HRC := Lib.hid t2
      clear hT t2
      have HG := Lib.hid hbest
      clear hbest
      go_wp2_with fail
      refine (iBest_some W l _ HV0.out ll _ HU0.out k d r HG.out _ (Below.refl _ _)).mono ?_
      rintro e wa ⟨rfl, ba⟩
      obtain ⟨Wa, hWa⟩ : ∃ Wa, Wa = wa.alloc (.cells #[.int .i64 r.area, .int .i64 r.job, .int .i64 r.sex] TRc) := ⟨_, rfl⟩
      have bWa : Below W.heap.size W Wa := by rw [hWa]; exact ba.alloc ba.size _
      have kA := heap_alloc_new wa (.cells #[.int .i64 r.area, .int .i64 r.job, .int .i64 r.sex] TRc)
      rw [← hWa] at kA
      have zA : wa.heap.size < Wa.heap.size := (Array.getElem?_eq_some_iff.1 kA).1
      have HVa := Lib.hid (HV0.out.below bWa); have HUa := Lib.hid (HU0.out.below bWa)
      go_wp2_with fail
      rw [← hWa]
      clear hWa
      refine (sBest_some Wa l _ HVa.out ll _ HUa.out k d r HG.out _ (Below.refl _ _)).mono ?_
      rintro e wb ⟨rfl, bb⟩
      obtain ⟨W1, hW⟩ : ∃ W1, W1 = wb.alloc (.cells #[.int .i64 r.area, .int .i64 r.job, .int .i64 r.sex] TRc) := ⟨_, rfl⟩
      have b1 : Below Wa.heap.size Wa W1 := by rw [hW]; exact bb.alloc bb.size _
      have kB := (b1.block _ zA).trans kA
      have zB : wa.heap.size < W1.heap.size := Nat.lt_of_lt_of_le zA b1.size
      obtain ⟨q0, q1, q2, _, _, _⟩ := blkS kB
      have kC := heap_alloc_new wb (.cells #[.int .i64 r.area, .int .i64 r.job, .int .i64 r.sex] TRc)
      rw [← hW] at kC
      obtain ⟨p0, p1, p2, _, _, _⟩ := blkS kC
      have HC := Lib.hid (show ∀ y, Below W1.heap.size W1 y → y.cell? ⟨wa.heap.size, 0, none⟩ = some (.int .i64 r.area) ∧ y.cell? ⟨wa.heap.size, 1, none⟩ = some (.int .i64 r.job) ∧ y.cell? ⟨wa.heap.size, 2, none⟩ = some (.int .i64 r.sex) from fun y h => ⟨(h.cell (p := ⟨wa.heap.size, 0, none⟩) zB).trans q0, (h.cell (p := ⟨wa.heap.size, 1, none⟩) zB).trans q1, (h.cell (p := ⟨wa.heap.size, 2, none⟩) zB).trans q2⟩)
      have HV := Lib.hid (HVa.out.below b1); have HU := Lib.hid (HUa.out.below b1)
      have HB := Lib.hid (HBW.out.trans ((bWa.trans (b1.mono bWa.size)).mono HBW.out.size))
      have b0 := Below.refl W1.heap.size W1
      rw [hW] at q0 q1 q2 p0 p1 p2
      clear ba bb bWa b1 kA kB kC zA zB HVa HUa
      obtain ⟨c_o_0_0, c_o_0_1, c_o_0_2⟩ := HC.out _ b0
      rw [hW] at c_o_0_0 c_o_0_1 c_o_0_2
      go_wp2_with fail
      rw [← hW]
      clear hW
      clear q0 q1 q2 p0 p1 p2 c_o_0_0 c_o_0_1 c_o_0_2
      refine (iADrop_is W1 l _ HV.out ll _ HU.out (rtop ll) k T HT.out _ (Below.refl _ _)).mono ?_
      rintro e w1 ⟨rfl, h1⟩
      have b_o_1 := b0.trans (h1.mono b0.size)
      obtain ⟨c_o_1_0, c_o_1_1, c_o_1_2⟩ := HC.out _ b_o_1
      go_wp2_with fail
      clear c_o_1_0 c_o_1_1 c_o_1_2
      refine (iRcValid_is w1 ll _ (HU.out.below b_o_1) r true HRC.out _ (Below.refl _ _)).mono ?_
      rintro e w2 ⟨rfl, h2⟩
      have b_o_2 := b_o_1.trans (h2.mono b_o_1.size)
      go_wp2
      go_ret
      exact ⟨by first | rfl | exact retb (by simp) | exact retb (by simp; omega), HB.out.trans (b_o_2.mono HB.out.size)⟩
set_option maxHeartbeats 4000000 in
theorem w_BestNone (A : Option Addr) (n c : Nat) (hnc : n ≤ c) (hn : n ≤ maxLen) (w : World) (hb : Bytes w w.heap.size A n) :
    Calls Try.prog 6 #[.slice A n c] w fun e w' => e = .returned (.bool true) ∧ Below w.heap.size w w' := by
  have hn2 := hn
  unfold maxLen at hn2
  rcases (show 1048576 < n ∨ ¬ 1048576 < n by omega) with hbig | hbig
  · go_enter Try.func6, Try.ntmps6
    go_wp2
    go_ret
    exact ⟨rfl, Below.refl _ _⟩
  · go_enter Try.func6, Try.ntmps6
    go_wp2_with fail
    refine (dAnonBest_any A n c hnc hn _ hb).mono ?_
    rintro e W ⟨l, v, ll, u, k, d, rfl, hv, hu, hl, hll, _, k0, k1, d0, d1, hbW⟩
    have HV0 := Lib.hid hv; have HU0 := Lib.hid hu; have HBW := Lib.hid hbW
    obtain ⟨Au, cu, hu2, _, _, _⟩ := hu
    subst hu2
    obtain ⟨Av, cv, hv2, _, _, _⟩ := hv
    subst hv2
    clear hbW hb
    cases hbest : abest l ll k d with
    | none =>
      have HG := Lib.hid hbest
      clear hbest
      go_wp2_with fail
      refine (iBest_none W l _ HV0.out ll _ HU0.out k d HG.out _ (Below.refl _ _)).mono ?_
      rintro e wa ⟨rfl, ba⟩
      obtain ⟨Wa, hWa⟩ : ∃ Wa, Wa = wa.alloc (.cells #[.int .i64 0, .int .i64 0, .int .i64 0] TRc) := ⟨_, rfl⟩
      have bWa : Below W.heap.size W Wa := by rw [hWa]; exact ba.alloc ba.size _
      have kA := heap_alloc_new wa (.cells #[.int .i64 0, .int .i64 0, .int .i64 0] TRc)
      rw [← hWa] at kA
      have zA : wa.heap.size < Wa.heap.size := (Array.getElem?_eq_some_iff.1 kA).1
      have HVa := Lib.hid (HV0.out.below bWa); have HUa := Lib.hid (HU0.out.below bWa)
      go_wp2_with fail
      rw [← hWa]
      clear hWa
      refine (sBest_none Wa l _ HVa.out ll _ HUa.out k d HG.out _ (Below.refl _ _)).mono ?_
      rintro e wb ⟨rfl, bb⟩
      obtain ⟨W1, hW⟩ : ∃ W1, W1 = wb.alloc (.cells #[.int .i64 0, .int .i64 0, .int .i64 0] TRc) := ⟨_, rfl⟩
      have b1 : Below Wa.heap.size Wa W1 := by rw [hW]; exact bb.alloc bb.size _
      have kB := (b1.block _ zA).trans kA
      have zB : wa.heap.size < W1.heap.size := Nat.lt_of_lt_of_le zA b1.size
      obtain ⟨q0, q1, q2, _, _, _⟩ := blkS kB
      have kC := heap_alloc_new wb (.cells #[.int .i64 0, .int .i64 0, .int .i64 0] TRc)
      rw [← hW] at kC
      obtain ⟨p0, p1, p2, _, _, _⟩ := blkS kC
      have HC := Lib.hid (show ∀ y, Below W1.heap.size W1 y → y.cell? ⟨wa.heap.size, 0, none⟩ = some (.int .i64 0) ∧ y.cell? ⟨wa.heap.size, 1, none⟩ = some (.int .i64 0) ∧ y.cell? ⟨wa.heap.size, 2, none⟩ = some (.int .i64 0) from fun y h => ⟨(h.cell (p := ⟨wa.heap.size, 0, none⟩) zB).trans q0, (h.cell (p := ⟨wa.heap.size, 1, none⟩) zB).trans q1, (h.cell (p := ⟨wa.heap.size, 2, none⟩) zB).trans q2⟩)
      have HV := Lib.hid (HVa.out.below b1); have HU := Lib.hid (HUa.out.below b1)
      have HB := Lib.hid (HBW.out.trans ((bWa.trans (b1.mono bWa.size)).mono HBW.out.size))
      have b0 := Below.refl W1.heap.size W1
      rw [hW] at q0 q1 q2 p0 p1 p2
      clear ba bb bWa b1 kA kB kC zA zB HVa HUa
      go_wp2
      rw [← hW]
      go_ret
      exact ⟨by first | rfl | exact retb (by simp) | exact retb (by simp; omega), HB.out.trans (b0.mono HB.out.size)⟩
    | some r =>
      obtain ⟨t0, t1, t2⟩ := m_bestNone hbest
      have HE1 := Lib.hid t0; have HE2 := Lib.hid t1; have HRC := Lib.hid t2
      clear t0 t1 t2
      have HG := Lib.hid hbest
      clear hbest
      go_wp2_with fail
      refine (iBest_some W l _ HV0.out ll _ HU0.out k d r HG.out _ (Below.refl _ _)).mono ?_
      rintro e wa ⟨rfl, ba⟩
      obtain ⟨Wa, hWa⟩ : ∃ Wa, Wa = wa.alloc (.cells #[.int .i64 r.area, .int .i64 r.job, .int .i64 r.sex] TRc) := ⟨_, rfl⟩
      have bWa : Below W.heap.size W Wa := by rw [hWa]; exact ba.alloc ba.size _
      have kA := heap_alloc_new wa (.cells #[.int .i64 r.area, .int .i64 r.job, .int .i64 r.sex] TRc)
      rw [← hWa] at kA
      have zA : wa.heap.size < Wa.heap.size := (Array.getElem?_eq_some_iff.1 kA).1
      have HVa := Lib.hid (HV0.out.below bWa); have HUa := Lib.hid (HU0.out.below bWa)
      go_wp2_with fail
      rw [← hWa]
      clear hWa
      refine (sBest_some Wa l _ HVa.out ll _ HUa.out k d r HG.out _ (Below.refl _ _)).mono ?_
      rintro e wb ⟨rfl, bb⟩
      obtain ⟨W1, hW⟩ : ∃ W1, W1 = wb.alloc (.cells #[.int .i64 r.area, .int .i64 r.job, .int .i64 r.sex] TRc) := ⟨_, rfl⟩
      have b1 : Below Wa.heap.size Wa W1 := by rw [hW]; exact bb.alloc bb.size _
      have kB := (b1.block _ zA).trans kA
      have zB : wa.heap.size < W1.heap.size := Nat.lt_of_lt_of_le zA b1.size
      obtain ⟨q0, q1, q2, _, _, _⟩ := blkS kB
      have kC := heap_alloc_new wb (.cells #[.int .i64 r.area, .int .i64 r.job, .int .i64 r.sex] TRc)
      rw [← hW] at kC
      obtain ⟨p0, p1, p2, _, _, _⟩ := blkS kC
      have HC := Lib.hid (show ∀ y, Below W1.heap.size W1 y → y.cell? ⟨wa.heap.size, 0, none⟩ = some (.int .i64 r.area) ∧ y.cell? ⟨wa.heap.size, 1, none⟩ = some (.int .i64 r.job) ∧ y.cell? ⟨wa.heap.size, 2, none⟩ = some (.int .i64 r.sex) from fun y h => ⟨(h.cell (p := ⟨wa.heap.size, 0, none⟩) zB).trans q0, (h.cell (p := ⟨wa.heap.size, 1, none⟩) zB).trans q1, (h.cell (p := ⟨wa.heap.size, 2, none⟩) zB).trans q2⟩)
      have HV := Lib.hid (HVa.out.below b1); have HU := Lib.hid (HUa.out.below b1)
      have HB := Lib.hid (HBW.out.trans ((bWa.trans (b1.mono bWa.size)).mono HBW.out.size))
      have b0 := Below.refl W1.heap.size W1
      rw [hW] at q0 q1 q2 p0 p1 p2
      clear ba bb bWa b1 kA kB kC zA zB HVa HUa
      go_wp2_with fail
      rw [← hW]
      clear hW
      clear q0 q1 q2 p0 p1 p2
      refine (iBest_low W1 l _ HV.out ll _ HU.out 1 0 HE1.out _ (Below.refl _ _)).mono ?_
      rintro e w1 ⟨rfl, h1⟩
      have b_o_1 := b0.trans (h1.mono b0.size)
      obtain ⟨V1, hV1⟩ : ∃ V1, V1 = w1.alloc (.cells #[.int .i64 0, .int .i64 0, .int .i64 0] TRc) := ⟨_, rfl⟩
      have g1 : Below w1.heap.size w1 V1 := by rw [hV1]; exact (Below.refl _ _).alloc (Nat.le_refl _) _
      have k1 := heap_alloc_new w1 (.cells #[.int .i64 0, .int .i64 0, .int .i64 0] TRc)
      rw [← hV1] at k1
      have z1 : w1.heap.size < V1.heap.size := (Array.getElem?_eq_some_iff.1 k1).1
      have HC_x := Lib.hid (show ∀ y, Below V1.heap.size V1 y → y.cell? ⟨w1.heap.size, 0, none⟩ = some (.int .i64 0) ∧ y.cell? ⟨w1.heap.size, 1, none⟩ = some (.int .i64 0) ∧ y.cell? ⟨w1.heap.size, 2, none⟩ = some (.int .i64 0) from fun y h => by obtain ⟨a, b, c, _⟩ := blkS k1; exact ⟨(h.cell (p := ⟨w1.heap.size, 0, none⟩) z1).trans a, (h.cell (p := ⟨w1.heap.size, 1, none⟩) z1).trans b, (h.cell (p := ⟨w1.heap.size, 2, none⟩) z1).trans c⟩)
      have e_o_1 := b_o_1.trans (g1.mono b_o_1.size)
      have r_x_1 := Below.refl V1.heap.size V1
      clear k1 z1 g1
      go_wp2_with fail
      rw [← hV1]
      clear hV1
      refine (iBest_low V1 l _ (HV.out.below e_o_1) ll _ (HU.out.below e_o_1) k (l.length : Int) HE2.out _ (Below.refl _ _)).mono ?_
      rintro e w2 ⟨rfl, h2⟩
      have b_o_2 := e_o_1.trans (h2.mono e_o_1.size)
      have b_x_2 := r_x_1.trans (h2.mono r_x_1.size)
      obtain ⟨V2, hV2⟩ : ∃ V2, V2 = w2.alloc (.cells #[.int .i64 0, .int .i64 0, .int .i64 0] TRc) := ⟨_, rfl⟩
      have g2 : Below w2.heap.size w2 V2 := by rw [hV2]; exact (Below.refl _ _).alloc (Nat.le_refl _) _
      have k2 := heap_alloc_new w2 (.cells #[.int .i64 0, .int .i64 0, .int .i64 0] TRc)
      rw [← hV2] at k2
      have z2 : w2.heap.size < V2.heap.size := (Array.getElem?_eq_some_iff.1 k2).1
      have HC_y := Lib.hid (show ∀ y, Below V2.heap.size V2 y → y.cell? ⟨w2.heap.size, 0, none⟩ = some (.int .i64 0) ∧ y.cell? ⟨w2.heap.size, 1, none⟩ = some (.int .i64 0) ∧ y.cell? ⟨w2.heap.size, 2, none⟩ = some (.int .i64 0) from fun y h => by obtain ⟨a, b, c, _⟩ := blkS k2; exact ⟨(h.cell (p := ⟨w2.heap.size, 0, none⟩) z2).trans a, (h.cell (p := ⟨w2.heap.size, 1, none⟩) z2).trans b, (h.cell (p := ⟨w2.heap.size, 2, none⟩) z2).trans c⟩)
      have e_o_2 := b_o_2.trans (g2.mono b_o_2.size)
      have e_x_2 := b_x_2.trans (g2.mono b_x_2.size)
      have r_y_2 := Below.refl V2.heap.size V2
      clear k2 z2 g2
      obtain ⟨c_o_2_0, c_o_2_1, c_o_2_2⟩ := HC.out _ e_o_2
      rw [hV2] at c_o_2_0 c_o_2_1 c_o_2_2
      obtain ⟨c_x_2_0, c_x_2_1, c_x_2_2⟩ := HC_x.out _ e_x_2
      rw [hV2] at c_x_2_0 c_x_2_1 c_x_2_2
      obtain ⟨c_y_2_0, c_y_2_1, c_y_2_2⟩ := HC_y.out _ r_y_2
      rw [hV2] at c_y_2_0 c_y_2_1 c_y_2_2
      go_wp2_with fail
      rw [← hV2]
      clear hV2
      clear c_o_2_0 c_o_2_1 c_o_2_2 c_x_2_0 c_x_2_1 c_x_2_2 c_y_2_0 c_y_2_1 c_y_2_2
      refine (iRcValid_is V2 ll _ (HU.out.below e_o_2) r true HRC.out _ (Below.refl _ _)).mono ?_
      rintro e w3 ⟨rfl, h3⟩
      have b_o_3 := e_o_2.trans (h3.mono e_o_2.size)
      have b_x_3 := e_x_2.trans (h3.mono e_x_2.size)
      have b_y_3 := r_y_2.trans (h3.mono r_y_2.size)
      go_wp2
      go_ret
      exact ⟨by first | rfl | exact retb (by simp) | exact retb (by simp; omega), HB.out.trans (b_o_3.mono HB.out.size)⟩
set_option maxHeartbeats 4000000 in
theorem w_BestAgain (A : Option Addr) (n c : Nat) (hnc : n ≤ c) (hn : n ≤ maxLen) (w : World) (hb : Bytes w w.heap.size A n) :
    Calls Try.prog 7 #[.slice A n c] w fun e w' => e = .returned (.bool true) ∧ Below w.heap.size w w' := by
  have hn2 := hn
  unfold maxLen at hn2
  rcases (show 1048576 < n ∨ ¬ 1048576 < n by omega) with hbig | hbig
  · go_enter Try.func7, Try.ntmps7
    go_wp2
    go_ret
    exact ⟨rfl, Below.refl _ _⟩
  · go_enter Try.func7, Try.ntmps7
    go_wp2_with fail
    refine (dAnonBest_any A n c hnc hn _ hb).mono ?_
    rintro e W ⟨l, v, ll, u, k, d, rfl, hv, hu, hl, hll, _, k0, k1, d0, d1, hbW⟩
    have HV0 := Lib.hid hv; have HU0 := Lib.hid hu; have HBW := Lib.hid hbW
    obtain ⟨Au, cu, hu2, _, _, _⟩ := hu
    subst hu2
    obtain ⟨Av, cv, hv2, _, _, _⟩ := hv
    subst hv2
    clear hbW hb
    cases hbest : abest l ll k d with
    | none =>
      have HG := Lib.hid hbest
      clear hbest
      go_wp2_with fail
      refine (iBest_none W l _ HV0.out ll _ HU0.out k d HG.out _ (Below.refl _ _)).mono ?_
      rintro e wa ⟨rfl, ba⟩
      obtain ⟨Wa, hWa⟩ : ∃ Wa, Wa = wa.alloc (.cells #[.int .i64 0, .int .i64 0, .int .i64 0] TRc) := ⟨_, rfl⟩
      have bWa : Below W.heap.size W Wa := by rw [hWa]; exact ba.alloc ba.size _
      have kA := heap_alloc_new wa (.cells #[.int .i64 0, .int .i64 0, .int .i64 0] TRc)
      rw [← hWa] at kA
      have zA : wa.heap.size < Wa.heap.size := (Array.getElem?_eq_some_iff.1 kA).1
      have HVa := Lib.hid (HV0.out.below bWa); have HUa := Lib.hid (HU0.out.below bWa)
      go_wp2_with fail
      rw [← hWa]
      clear hWa
      refine (sBest_none Wa l _ HVa.out ll _ HUa.out k d HG.out _ (Below.refl _ _)).mono ?_
      rintro e wb ⟨rfl, bb⟩
      obtain ⟨W1, hW⟩ : ∃ W1, W1 = wb.alloc (.cells #[.int .i64 0, .int .i64 0, .int .i64 0] TRc) := ⟨_, rfl⟩
      have b1 : Below Wa.heap.size Wa W1 := by rw [hW]; exact bb.alloc bb.size _
      have kB := (b1.block _ zA).trans kA
      have zB : wa.heap.size < W1.heap.size := Nat.lt_of_lt_of_le zA b1.size
      obtain ⟨q0, q1, q2, _, _, _⟩ := blkS kB
      have kC := heap_alloc_new wb (.cells #[.int .i64 0, .int .i64 0, .int .i64 0] TRc)
      rw [← hW] at kC
      obtain ⟨p0, p1, p2, _, _, _⟩ := blkS kC
      have HC := Lib.hid (show ∀ y, Below W1.heap.size W1 y → y.cell? ⟨wa.heap.size, 0, none⟩ = some (.int .i64 0) ∧ y.cell? ⟨wa.heap.size, 1, none⟩ = some (.int .i64 0) ∧ y.cell? ⟨wa.heap.size, 2, none⟩ = some (.int .i64 0) from fun y h => ⟨(h.cell (p := ⟨wa.heap.size, 0, none⟩) zB).trans q0, (h.cell (p := ⟨wa.heap.size, 1, none⟩) zB).trans q1, (h.cell (p := ⟨wa.heap.size, 2, none⟩) zB).trans q2⟩)
      have HV := Lib.hid (HVa.out.below b1); have HU := Lib.hid (HUa.out.below b1)
      have HB := Lib.hid (HBW.out.trans ((bWa.trans (b1.mono bWa.size)).mono HBW.out.size))
      have b0 := Below.refl W1.heap.size W1
      rw [hW] at q0 q1 q2 p0 p1 p2
      clear ba bb bWa b1 kA kB kC zA zB HVa HUa
      go_wp2
      rw [← hW]
      go_ret
      exact ⟨by first | rfl | exact retb (by simp) | exact retb (by simp; omega), HB.out.trans (b0.mono HB.out.size)⟩
    | some r =>
      obtain ⟨t0, t1⟩ := m_bestAgain hbest
      have HOK := Lib.hid t0; have HE := Lib.hid t1; have HRO := Lib.hid (show recOut l ll r = recL ll r l by rw [recOut, if_pos t0])
      clear t0 t1
      have HG := Lib.hid hbest
      clear hbest
      go_wp2_with fail
      refine (iBest_some W l _ HV0.out ll _ HU0.out k d r HG.out _ (Below.refl _ _)).mono ?_
      rintro e wa ⟨rfl, ba⟩
      obtain ⟨Wa, hWa⟩ : ∃ Wa, Wa = wa.alloc (.cells #[.int .i64 r.area, .int .i64 r.job, .int .i64 r.sex] TRc) := ⟨_, rfl⟩
      have bWa : Below W.heap.size W Wa := by rw [hWa]; exact ba.alloc ba.size _
      have kA := heap_alloc_new wa (.cells #[.int .i64 r.area, .int .i64 r.job, .int .i64 r.sex] TRc)
      rw [← hWa] at kA
      have zA : wa.heap.size < Wa.heap.size := (Array.getElem?_eq_some_iff.1 kA).1
      have HVa := Lib.hid (HV0.out.below bWa); have HUa := Lib.hid (HU0.out.below bWa)
      go_wp2_with fail
      rw [← hWa]
      clear hWa
      refine (sBest_some Wa l _ HVa.out ll _ HUa.out k d r HG.out _ (Below.refl _ _)).mono ?_
      rintro e wb ⟨rfl, bb⟩
      obtain ⟨W1, hW⟩ : ∃ W1, W1 = wb.alloc (.cells #[.int .i64 r.area, .int .i64 r.job, .int .i64 r.sex] TRc) := ⟨_, rfl⟩
      have b1 : Below Wa.heap.size Wa W1 := by rw [hW]; exact bb.alloc bb.size _
      have kB := (b1.block _ zA).trans kA
      have zB : wa.heap.size < W1.heap.size := Nat.lt_of_lt_of_le zA b1.size
      obtain ⟨q0, q1, q2, _, _, _⟩ := blkS kB
      have kC := heap_alloc_new wb (.cells #[.int .i64 r.area, .int .i64 r.job, .int .i64 r.sex] TRc)
      rw [← hW] at kC
      obtain ⟨p0, p1, p2, _, _, _⟩ := blkS kC
      have HC := Lib.hid (show ∀ y, Below W1.heap.size W1 y → y.cell? ⟨wa.heap.size, 0, none⟩ = some (.int .i64 r.area) ∧ y.cell? ⟨wa.heap.size, 1, none⟩ = some (.int .i64 r.job) ∧ y.cell? ⟨wa.heap.size, 2, none⟩ = some (.int .i64 r.sex) from fun y h => ⟨(h.cell (p := ⟨wa.heap.size, 0, none⟩) zB).trans q0, (h.cell (p := ⟨wa.heap.size, 1, none⟩) zB).trans q1, (h.cell (p := ⟨wa.heap.size, 2, none⟩) zB).trans q2⟩)
      have HV := Lib.hid (HVa.out.below b1); have HU := Lib.hid (HUa.out.below b1)
      have HB := Lib.hid (HBW.out.trans ((bWa.trans (b1.mono bWa.size)).mono HBW.out.size))
      have b0 := Below.refl W1.heap.size W1
      rw [hW] at q0 q1 q2 p0 p1 p2
      clear ba bb bWa b1 kA kB kC zA zB HVa HUa
      obtain ⟨c_o_0_0, c_o_0_1, c_o_0_2⟩ := HC.out _ b0
      rw [hW] at c_o_0_0 c_o_0_1 c_o_0_2
      go_wp2_with fail
      rw [← hW]
      clear hW
      clear q0 q1 q2 p0 p1 p2 c_o_0_0 c_o_0_1 c_o_0_2
      refine (iRecP_is W1 l _ HV.out ll _ HU.out r (recL ll r l) true HRO.out HOK.out _ (Below.refl _ _)).mono ?_
      rintro e w1 ⟨yy, rfl, hy, h1⟩
      have HY := Lib.hid hy.is
      have b_o_1 := b0.trans (h1.mono b0.size)
      clear hy
      go_wp2_with fail
      refine (iBest_low w1 _ yy HY.out ll _ (HU.out.below b_o_1) k d HE.out _ (Below.refl _ _)).mono ?_
      rintro e w2 ⟨rfl, h2⟩
      have b_o_2 := b_o_1.trans (h2.mono b_o_1.size)
      obtain ⟨V2, hV2⟩ : ∃ V2, V2 = w2.alloc (.cells #[.int .i64 0, .int .i64 0, .int .i64 0] TRc) := ⟨_, rfl⟩
      have g2 : Below w2.heap.size w2 V2 := by rw [hV2]; exact (Below.refl _ _).alloc (Nat.le_refl _) _
      have k2 := heap_alloc_new w2 (.cells #[.int .i64 0, .int .i64 0, .int .i64 0] TRc)
      rw [← hV2] at k2
      have z2 : w2.heap.size < V2.heap.size := (Array.getElem?_eq_some_iff.1 k2).1
      have HC_z := Lib.hid (show ∀ y, Below V2.heap.size V2 y → y.cell? ⟨w2.heap.size, 0, none⟩ = some (.int .i64 0) ∧ y.cell? ⟨w2.heap.size, 1, none⟩ = some (.int .i64 0) ∧ y.cell? ⟨w2.heap.size, 2, none⟩ = some (.int .i64 0) from fun y h => by obtain ⟨a, b, c, _⟩ := blkS k2; exact ⟨(h.cell (p := ⟨w2.heap.size, 0, none⟩) z2).trans a, (h.cell (p := ⟨w2.heap.size, 1, none⟩) z2).trans b, (h.cell (p := ⟨w2.heap.size, 2, none⟩) z2).trans c⟩)
      have e_o_2 := b_o_2.trans (g2.mono b_o_2.size)
      have r_z_2 := Below.refl V2.heap.size V2
      clear k2 z2 g2
      obtain ⟨c_z_2_0, c_z_2_1, c_z_2_2⟩ := HC_z.out _ r_z_2
      rw [hV2] at c_z_2_0 c_z_2_1 c_z_2_2
      go_wp2
      rw [← hV2]
      go_ret
      exact ⟨by first | rfl | exact retb (by simp) | exact retb (by simp; omega), HB.out.trans (e_o_2.mono HB.out.size)⟩
set_option maxHeartbeats 8000000 in
theorem w_BestMore (A : Option Addr) (n c : Nat) (hnc : n ≤ c) (hn : n ≤ maxLen) (w : World) (hb : Bytes w w.heap.size A n) :
    Calls Try.prog 4 #[.slice A n c] w fun e w' => e = .returned (.bool true) ∧ Below w.heap.size w w' := by
  have hn2 := hn
  unfold maxLen at hn2
  rcases (show 1048576 < n ∨ ¬ 1048576 < n by omega) with hbig | hbig
  · go_enter Try.func4, Try.ntmps4
    go_wp2
    go_ret
    exact ⟨rfl, Below.refl _ _⟩
  · go_enter Try.func4, Try.ntmps4
    go_wp2_with fail
    refine (dAnonBest_any A n c hnc hn _ hb).mono ?_
    rintro e W ⟨l, v, ll, u, k, d, rfl, hv, hu, hl, hll, _, k0, k1, d0, d1, hbW⟩
    have HV0 := Lib.hid hv; have HU0 := Lib.hid hu; have HBW := Lib.hid hbW
    obtain ⟨Au, cu, hu2, _, _, _⟩ := hu
    subst hu2
    obtain ⟨Av, cv, hv2, _, _, _⟩ := hv
    subst hv2
    clear hbW hb
    cases hbest : abest l ll k d with
    | none =>
      have HG := Lib.hid hbest
      clear hbest
      go_wp2_with fail
      refine (iBest_none W l _ HV0.out ll _ HU0.out k d HG.out _ (Below.refl _ _)).mono ?_
      rintro e wa ⟨rfl, ba⟩
      obtain ⟨Wa, hWa⟩ : ∃ Wa, Wa = wa.alloc (.cells #[.int .i64 0, .int .i64 0, .int .i64 0] TRc) := ⟨_, rfl⟩
      have bWa : Below W.heap.size W Wa := by rw [hWa]; exact ba.alloc ba.size _
      have kA := heap_alloc_new wa (.cells #[.int .i64 0, .int .i64 0, .int .i64 0] TRc)
      rw [← hWa] at kA
      have zA : wa.heap.size < Wa.heap.size := (Array.getElem?_eq_some_iff.1 kA).1
      have HVa := Lib.hid (HV0.out.below bWa); have HUa := Lib.hid (HU0.out.below bWa)
      go_wp2_with fail
      rw [← hWa]
      clear hWa
      refine (sBest_none Wa l _ HVa.out ll _ HUa.out k d HG.out _ (Below.refl _ _)).mono ?_
      rintro e wb ⟨rfl, bb⟩
      obtain ⟨W1, hW⟩ : ∃ W1, W1 = wb.alloc (.cells #[.int .i64 0, .int .i64 0, .int .i64 0] TRc) := ⟨_, rfl⟩
      have b1 : Below Wa.heap.size Wa W1 := by rw [hW]; exact bb.alloc bb.size _
      have kB := (b1.block _ zA).trans kA
      have zB : wa.heap.size < W1.heap.size := Nat.lt_of_lt_of_le zA b1.size
      obtain ⟨q0, q1, q2, _, _, _⟩ := blkS kB
      have kC := heap_alloc_new wb (.cells #[.int .i64 0, .int .i64 0, .int .i64 0] TRc)
      rw [← hW] at kC
      obtain ⟨p0, p1, p2, _, _, _⟩ := blkS kC
      have HC := Lib.hid (show ∀ y, Below W1.heap.size W1 y → y.cell? ⟨wa.heap.size, 0, none⟩ = some (.int .i64 0) ∧ y.cell? ⟨wa.heap.size, 1, none⟩ = some (.int .i64 0) ∧ y.cell? ⟨wa.heap.size, 2, none⟩ = some (.int .i64 0) from fun y h => ⟨(h.cell (p := ⟨wa.heap.size, 0, none⟩) zB).trans q0, (h.cell (p := ⟨wa.heap.size, 1, none⟩) zB).trans q1, (h.cell (p := ⟨wa.heap.size, 2, none⟩) zB).trans q2⟩)
      have HV := Lib.hid (HVa.out.below b1); have HU := Lib.hid (HUa.out.below b1)
      have HB := Lib.hid (HBW.out.trans ((bWa.trans (b1.mono bWa.size)).mono HBW.out.size))
      have b0 := Below.refl W1.heap.size W1
      rw [hW] at q0 q1 q2 p0 p1 p2
      clear ba bb bWa b1 kA kB kC zA zB HVa HUa
      go_wp2
      rw [← hW]
      go_ret
      exact ⟨by first | rfl | exact retb (by simp) | exact retb (by simp; omega), HB.out.trans (b0.mono HB.out.size)⟩
    | some r =>
      obtain ⟨⟨x, hx, hcx⟩, hcase⟩ := m_bestMore hbest
      have HE1 := Lib.hid hx
      obtain ⟨cr, hcr⟩ : ∃ cr, acost ll r = cr := ⟨_, rfl⟩
      obtain ⟨cx, hcx2⟩ : ∃ cx, acost ll x = cx := ⟨_, rfl⟩
      rw [hcr, hcx2] at hcx
      have HCR := Lib.hid hcr; have HCX := Lib.hid hcx2
      clear hx hcr hcx2
      have HG := Lib.hid hbest
      clear hbest
      go_wp2_with fail
      refine (iBest_some W l _ HV0.out ll _ HU0.out k d r HG.out _ (Below.refl _ _)).mono ?_
      rintro e wa ⟨rfl, ba⟩
      obtain ⟨Wa, hWa⟩ : ∃ Wa, Wa = wa.alloc (.cells #[.int .i64 r.area, .int .i64 r.job, .int .i64 r.sex] TRc) := ⟨_, rfl⟩
      have bWa : Below W.heap.size W Wa := by rw [hWa]; exact ba.alloc ba.size _
      have kA := heap_alloc_new wa (.cells #[.int .i64 r.area, .int .i64 r.job, .int .i64 r.sex] TRc)
      rw [← hWa] at kA
      have zA : wa.heap.size < Wa.heap.size := (Array.getElem?_eq_some_iff.1 kA).1
      have HVa := Lib.hid (HV0.out.below bWa); have HUa := Lib.hid (HU0.out.below bWa)
      go_wp2_with fail
      rw [← hWa]
      clear hWa
      refine (sBest_some Wa l _ HVa.out ll _ HUa.out k d r HG.out _ (Below.refl _ _)).mono ?_
      rintro e wb ⟨rfl, bb⟩
      obtain ⟨W1, hW⟩ : ∃ W1, W1 = wb.alloc (.cells #[.int .i64 r.area, .int .i64 r.job, .int .i64 r.sex] TRc) := ⟨_, rfl⟩
      have b1 : Below Wa.heap.size Wa W1 := by rw [hW]; exact bb.alloc bb.size _
      have kB := (b1.block _ zA).trans kA
      have zB : wa.heap.size < W1.heap.size := Nat.lt_of_lt_of_le zA b1.size
      obtain ⟨q0, q1, q2, _, _, _⟩ := blkS kB
      have kC := heap_alloc_new wb (.cells #[.int .i64 r.area, .int .i64 r.job, .int .i64 r.sex] TRc)
      rw [← hW] at kC
      obtain ⟨p0, p1, p2, _, _, _⟩ := blkS kC
      have HC := Lib.hid (show ∀ y, Below W1.heap.size W1 y → y.cell? ⟨wa.heap.size, 0, none⟩ = some (.int .i64 r.area) ∧ y.cell? ⟨wa.heap.size, 1, none⟩ = some (.int .i64 r.job) ∧ y.cell? ⟨wa.heap.size, 2, none⟩ = some (.int .i64 r.sex) from fun y h => ⟨(h.cell (p := ⟨wa.heap.size, 0, none⟩) zB).trans q0, (h.cell (p := ⟨wa.heap.size, 1, none⟩) zB).trans q1, (h.cell (p := ⟨wa.heap.size, 2, none⟩) zB).trans q2⟩)
      have HV := Lib.hid (HVa.out.below b1); have HU := Lib.hid (HUa.out.below b1)
      have HB := Lib.hid (HBW.out.trans ((bWa.trans (b1.mono bWa.size)).mono HBW.out.size))
      have b0 := Below.refl W1.heap.size W1
      rw [hW] at q0 q1 q2 p0 p1 p2
      clear ba bb bWa b1 kA kB kC zA zB HVa HUa
      go_wp2_with fail
      rw [← hW]
      clear hW
      clear q0 q1 q2 p0 p1 p2
      refine (iBest_some W1 l _ HV.out ll _ HU.out k (d + 1) x HE1.out _ (Below.refl _ _)).mono ?_
      rintro e w1 ⟨rfl, h1⟩
      have b_o_1 := b0.trans (h1.mono b0.size)
      obtain ⟨V1, hV1⟩ : ∃ V1, V1 = w1.alloc (.cells #[.int .i64 x.area, .int .i64 x.job, .int .i64 x.sex] TRc) := ⟨_, rfl⟩
      have g1 : Below w1.heap.size w1 V1 := by rw [hV1]; exact (Below.refl _ _).alloc (Nat.le_refl _) _
      have k1 := heap_alloc_new w1 (.cells #[.int .i64 x.area, .int .i64 x.job, .int .i64 x.sex] TRc)
      rw [← hV1] at k1
      have z1 : w1.heap.size < V1.heap.size := (Array.getElem?_eq_some_iff.1 k1).1
      have HC_x := Lib.hid (show ∀ y, Below V1.heap.size V1 y → y.cell? ⟨w1.heap.size, 0, none⟩ = some (.int .i64 x.area) ∧ y.cell? ⟨w1.heap.size, 1, none⟩ = some (.int .i64 x.job) ∧ y.cell? ⟨w1.heap.size, 2, none⟩ = some (.int .i64 x.sex) from fun y h => by obtain ⟨a, b, c, _⟩ := blkS k1; exact ⟨(h.cell (p := ⟨w1.heap.size, 0, none⟩) z1).trans a, (h.cell (p := ⟨w1.heap.size, 1, none⟩) z1).trans b, (h.cell (p := ⟨w1.heap.size, 2, none⟩) z1).trans c⟩)
      have e_o_1 := b_o_1.trans (g1.mono b_o_1.size)
      have r_x_1 := Below.refl V1.heap.size V1
      clear k1 z1 g1
      go_wp2_with fail
      rw [← hV1]
      clear hV1
      rcases hcase with ⟨hk1, hn⟩ | ⟨hk1, z, hz, hcz⟩
      · have HZ := Lib.hid hn
        subst hk1
        clear hn
        refine (iBest_none V1 l _ (HV.out.below e_o_1) ll _ (HU.out.below e_o_1) _ d HZ.out _ (Below.refl _ _)).mono ?_
        rintro e w2 ⟨rfl, h2⟩
        have b_o_2 := e_o_1.trans (h2.mono e_o_1.size)
        have b_x_2 := r_x_1.trans (h2.mono r_x_1.size)
        obtain ⟨V2, hV2⟩ : ∃ V2, V2 = w2.alloc (.cells #[.int .i64 0, .int .i64 0, .int .i64 0] TRc) := ⟨_, rfl⟩
        have g2 : Below w2.heap.size w2 V2 := by rw [hV2]; exact (Below.refl _ _).alloc (Nat.le_refl _) _
        have k2 := heap_alloc_new w2 (.cells #[.int .i64 0, .int .i64 0, .int .i64 0] TRc)
        rw [← hV2] at k2
        have z2 : w2.heap.size < V2.heap.size := (Array.getElem?_eq_some_iff.1 k2).1
        have HC_z := Lib.hid (show ∀ y, Below V2.heap.size V2 y → y.cell? ⟨w2.heap.size, 0, none⟩ = some (.int .i64 0) ∧ y.cell? ⟨w2.heap.size, 1, none⟩ = some (.int .i64 0) ∧ y.cell? ⟨w2.heap.size, 2, none⟩ = some (.int .i64 0) from fun y h => by obtain ⟨a, b, c, _⟩ := blkS k2; exact ⟨(h.cell (p := ⟨w2.heap.size, 0, none⟩) z2).trans a, (h.cell (p := ⟨w2.heap.size, 1, none⟩) z2).trans b, (h.cell (p := ⟨w2.heap.size, 2, none⟩) z2).trans c⟩)
        have e_o_2 := b_o_2.trans (g2.mono b_o_2.size)
        have e_x_2 := b_x_2.trans (g2.mono b_x_2.size)
        have r_z_2 := Below.refl V2.heap.size V2
        clear k2 z2 g2
        obtain ⟨c_o_2_0, c_o_2_1, c_o_2_2⟩ := HC.out _ e_o_2
        rw [hV2] at c_o_2_0 c_o_2_1 c_o_2_2
        go_wp2_with fail
        rw [← hV2]
        clear hV2
        clear c_o_2_0 c_o_2_1 c_o_2_2
        refine (iACost_is V2 ll _ (HU.out.below e_o_2) r cr HCR.out _ (Below.refl _ _)).mono ?_
        rintro e w3 ⟨rfl, h3⟩
        have b_o_3 := e_o_2.trans (h3.mono e_o_2.size)
        have b_x_3 := e_x_2.trans (h3.mono e_x_2.size)
        have b_z_3 := r_z_2.trans (h3.mono r_z_2.size)
        obtain ⟨c_x_3_0, c_x_3_1, c_x_3_2⟩ := HC_x.out _ b_x_3
        go_wp2_with fail
        clear c_x_3_0 c_x_3_1 c_x_3_2
        refine (iACost_is w3 ll _ (HU.out.below b_o_3) x cx HCX.out _ (Below.refl _ _)).mono ?_
        rintro e w4 ⟨rfl, h4⟩
        have b_o_4 := b_o_3.trans (h4.mono b_o_3.size)
        have b_x_4 := b_x_3.trans (h4.mono b_x_3.size)
        have b_z_4 := b_z_3.trans (h4.mono b_z_3.size)
        obtain ⟨c_z_4_0, c_z_4_1, c_z_4_2⟩ := HC_z.out _ b_z_4
        go_wp2
        go_ret
        exact ⟨by first | rfl | exact retb (by simp) | exact retb (by simp; omega), HB.out.trans (b_o_4.mono HB.out.size)⟩
      · have HZ := Lib.hid hz
        obtain ⟨cz, hcz2⟩ : ∃ cz, acost ll z = cz := ⟨_, rfl⟩
        rw [hcz2, HCR.out] at hcz
        have HCZ := Lib.hid hcz2
        have hk1b : (k == 1) = false := by rw [beq_eq_false_iff_ne]; exact hk1
        clear hz hcz2
        refine (iBest_some V1 l _ (HV.out.below e_o_1) ll _ (HU.out.below e_o_1) _ d z HZ.out _ (Below.refl _ _)).mono ?_
        rintro e w2 ⟨rfl, h2⟩
        have b_o_2 := e_o_1.trans (h2.mono e_o_1.size)
        have b_x_2 := r_x_1.trans (h2.mono r_x_1.size)
        obtain ⟨V2, hV2⟩ : ∃ V2, V2 = w2.alloc (.cells #[.int .i64 z.area, .int .i64 z.job, .int .i64 z.sex] TRc) := ⟨_, rfl⟩
        have g2 : Below w2.heap.size w2 V2 := by rw [hV2]; exact (Below.refl _ _).alloc (Nat.le_refl _) _
        have k2 := heap_alloc_new w2 (.cells #[.int .i64 z.area, .int .i64 z.job, .int .i64 z.sex] TRc)
        rw [← hV2] at k2
        have z2 : w2.heap.size < V2.heap.size := (Array.getElem?_eq_some_iff.1 k2).1
        have HC_z := Lib.hid (show ∀ y, Below V2.heap.size V2 y → y.cell? ⟨w2.heap.size, 0, none⟩ = some (.int .i64 z.area) ∧ y.cell? ⟨w2.heap.size, 1, none⟩ = some (.int .i64 z.job) ∧ y.cell? ⟨w2.heap.size, 2, none⟩ = some (.int .i64 z.sex) from fun y h => by obtain ⟨a, b, c, _⟩ := blkS k2; exact ⟨(h.cell (p := ⟨w2.heap.size, 0, none⟩) z2).trans a, (h.cell (p := ⟨w2.heap.size, 1, none⟩) z2).trans b, (h.cell (p := ⟨w2.heap.size, 2, none⟩) z2).trans c⟩)
        have e_o_2 := b_o_2.trans (g2.mono b_o_2.size)
        have e_x_2 := b_x_2.trans (g2.mono b_x_2.size)
        have r_z_2 := Below.refl V2.heap.size V2
        clear k2 z2 g2
        obtain ⟨c_o_2_0, c_o_2_1, c_o_2_2⟩ := HC.out _ e_o_2
        rw [hV2] at c_o_2_0 c_o_2_1 c_o_2_2
        go_wp2_with fail
        rw [← hV2]
        clear hV2
        clear c_o_2_0 c_o_2_1 c_o_2_2
        refine (iACost_is V2 ll _ (HU.out.below e_o_2) r cr HCR.out _ (Below.refl _ _)).mono ?_
        rintro e w3 ⟨rfl, h3⟩
        have b_o_3 := e_o_2.trans (h3.mono e_o_2.size)
        have b_x_3 := e_x_2.trans (h3.mono e_x_2.size)
        have b_z_3 := r_z_2.trans (h3.mono r_z_2.size)
        obtain ⟨c_x_3_0, c_x_3_1, c_x_3_2⟩ := HC_x.out _ b_x_3
        go_wp2_with fail
        clear c_x_3_0 c_x_3_1 c_x_3_2
        refine (iACost_is w3 ll _ (HU.out.below b_o_3) x cx HCX.out _ (Below.refl _ _)).mono ?_
        rintro e w4 ⟨rfl, h4⟩
        have b_o_4 := b_o_3.trans (h4.mono b_o_3.size)
        have b_x_4 := b_x_3.trans (h4.mono b_x_3.size)
        have b_z_4 := b_z_3.trans (h4.mono b_z_3.size)
        obtain ⟨c_z_4_0, c_z_4_1, c_z_4_2⟩ := HC_z.out _ b_z_4
        go_wp2_with fail
        clear c_z_4_0 c_z_4_1 c_z_4_2
        refine (iACost_is w4 ll _ (HU.out.below b_o_4) z cz HCZ.out _ (Below.refl _ _)).mono ?_
        rintro e w5 ⟨rfl, h5⟩
        have b_o_5 := b_o_4.trans (h5.mono b_o_4.size)
        have b_x_5 := b_x_4.trans (h5.mono b_x_4.size)
        have b_z_5 := b_z_4.trans (h5.mono b_z_4.size)
        go_wp2
        go_ret
        exact ⟨by first | rfl | exact retb (by simp) | exact retb (by simp; omega), HB.out.trans (b_o_5.mono HB.out.size)⟩
set_option maxHeartbeats 8000000 in
theorem w_BestOk (A : Option Addr) (n c : Nat) (hnc : n ≤ c) (hn : n ≤ maxLen) (w : World) (hb : Bytes w w.heap.size A n) :
    Calls Try.prog 8 #[.slice A n c] w fun e w' => e = .returned (.bool true) ∧ Below w.heap.size w w' := by
  have hn2 := hn
  unfold maxLen at hn2
  rcases (show 1048576 < n ∨ ¬ 1048576 < n by omega) with hbig | hbig
  · go_enter Try.func8, Try.ntmps8
    go_wp2
    go_ret
    exact ⟨rfl, Below.refl _ _⟩
  · go_enter Try.func8, Try.ntmps8
    go_wp2_with fail
    refine (dAnonBest_any A n c hnc hn _ hb).mono ?_
    rintro e W ⟨l, v, ll, u, k, d, rfl, hv, hu, hl, hll, _, k0, k1, d0, d1, hbW⟩
    have HV0 := Lib.hid hv; have HU0 := Lib.hid hu; have HBW := Lib.hid hbW
    obtain ⟨Au, cu, hu2, _, _, _⟩ := hu
    subst hu2
    obtain ⟨Av, cv, hv2, _, _, _⟩ := hv
    subst hv2
    clear hbW hb
    cases hbest : abest l ll k d with
    | none =>
      have HG := Lib.hid hbest
      clear hbest
      go_wp2_with fail
      refine (iBest_none W l _ HV0.out ll _ HU0.out k d HG.out _ (Below.refl _ _)).mono ?_
      rintro e wa ⟨rfl, ba⟩
      obtain ⟨Wa, hWa⟩ : ∃ Wa, Wa = wa.alloc (.cells #[.int .i64 0, .int .i64 0, .int .i64 0] TRc) := ⟨_, rfl⟩
      have bWa : Below W.heap.size W Wa := by rw [hWa]; exact ba.alloc ba.size _
      have kA := heap_alloc_new wa (.cells #[.int .i64 0, .int .i64 0, .int .i64 0] TRc)
      rw [← hWa] at kA
      have zA : wa.heap.size < Wa.heap.size := (Array.getElem?_eq_some_iff.1 kA).1
      have HVa := Lib.hid (HV0.out.below bWa); have HUa := Lib.hid (HU0.out.below bWa)
      go_wp2_with fail
      rw [← hWa]
      clear hWa
      refine (sBest_none Wa l _ HVa.out ll _ HUa.out k d HG.out _ (Below.refl _ _)).mono ?_
      rintro e wb ⟨rfl, bb⟩
      obtain ⟨W1, hW⟩ : ∃ W1, W1 = wb.alloc (.cells #[.int .i64 0, .int .i64 0, .int .i64 0] TRc) := ⟨_, rfl⟩
      have b1 : Below Wa.heap.size Wa W1 := by rw [hW]; exact bb.alloc bb.size _
      have kB := (b1.block _ zA).trans kA
      have zB : wa.heap.size < W1.heap.size := Nat.lt_of_lt_of_le zA b1.size
      obtain ⟨q0, q1, q2, _, _, _⟩ := blkS kB
      have kC := heap_alloc_new wb (.cells #[.int .i64 0, .int .i64 0, .int .i64 0] TRc)
      rw [← hW] at kC
      obtain ⟨p0, p1, p2, _, _, _⟩ := blkS kC
      have HC := Lib.hid (show ∀ y, Below W1.heap.size W1 y → y.cell? ⟨wa.heap.size, 0, none⟩ = some (.int .i64 0) ∧ y.cell? ⟨wa.heap.size, 1, none⟩ = some (.int .i64 0) ∧ y.cell? ⟨wa.heap.size, 2, none⟩ = some (.int .i64 0) from fun y h => ⟨(h.cell (p := ⟨wa.heap.size, 0, none⟩) zB).trans q0, (h.cell (p := ⟨wa.heap.size, 1, none⟩) zB).trans q1, (h.cell (p := ⟨wa.heap.size, 2, none⟩) zB).trans q2⟩)
      have HV := Lib.hid (HVa.out.below b1); have HU := Lib.hid (HUa.out.below b1)
      have HB := Lib.hid (HBW.out.trans ((bWa.trans (b1.mono bWa.size)).mono HBW.out.size))
      have b0 := Below.refl W1.heap.size W1
      rw [hW] at q0 q1 q2 p0 p1 p2
      clear ba bb bWa b1 kA kB kC zA zB HVa HUa
      go_wp2
      rw [← hW]
      go_ret
      exact ⟨by first | rfl | exact retb (by simp) | exact retb (by simp; omega), HB.out.trans (b0.mono HB.out.size)⟩
    | some r =>
      have hcase := m_bestOk hbest
      have HG := Lib.hid hbest
      clear hbest
      go_wp2_with fail
      refine (iBest_some W l _ HV0.out ll _ HU0.out k d r HG.out _ (Below.refl _ _)).mono ?_
      rintro e wa ⟨rfl, ba⟩
      obtain ⟨Wa, hWa⟩ : ∃ Wa, Wa = wa.alloc (.cells #[.int .i64 r.area, .int .i64 r.job, .int .i64 r.sex] TRc) := ⟨_, rfl⟩
      have bWa : Below W.heap.size W Wa := by rw [hWa]; exact ba.alloc ba.size _
      have kA := heap_alloc_new wa (.cells #[.int .i64 r.area, .int .i64 r.job, .int .i64 r.sex] TRc)
      rw [← hWa] at kA
      have zA : wa.heap.size < Wa.heap.size := (Array.getElem?_eq_some_iff.1 kA).1
      have HVa := Lib.hid (HV0.out.below bWa); have HUa := Lib.hid (HU0.out.below bWa)
      go_wp2_with fail
      rw [← hWa]
      clear hWa
      refine (sBest_some Wa l _ HVa.out ll _ HUa.out k d r HG.out _ (Below.refl _ _)).mono ?_
      rintro e wb ⟨rfl, bb⟩
      obtain ⟨W1, hW⟩ : ∃ W1, W1 = wb.alloc (.cells #[.int .i64 r.area, .int .i64 r.job, .int .i64 r.sex] TRc) := ⟨_, rfl⟩
      have b1 : Below Wa.heap.size Wa W1 := by rw [hW]; exact bb.alloc bb.size _
      have kB := (b1.block _ zA).trans kA
      have zB : wa.heap.size < W1.heap.size := Nat.lt_of_lt_of_le zA b1.size
      obtain ⟨q0, q1, q2, _, _, _⟩ := blkS kB
      have kC := heap_alloc_new wb (.cells #[.int .i64 r.area, .int .i64 r.job, .int .i64 r.sex] TRc)
      rw [← hW] at kC
      obtain ⟨p0, p1, p2, _, _, _⟩ := blkS kC
      have HC := Lib.hid (show ∀ y, Below W1.heap.size W1 y → y.cell? ⟨wa.heap.size, 0, none⟩ = some (.int .i64 r.area) ∧ y.cell? ⟨wa.heap.size, 1, none⟩ = some (.int .i64 r.job) ∧ y.cell? ⟨wa.heap.size, 2, none⟩ = some (.int .i64 r.sex) from fun y h => ⟨(h.cell (p := ⟨wa.heap.size, 0, none⟩) zB).trans q0, (h.cell (p := ⟨wa.heap.size, 1, none⟩) zB).trans q1, (h.cell (p := ⟨wa.heap.size, 2, none⟩) zB).trans q2⟩)
      have HV := Lib.hid (HVa.out.below b1); have HU := Lib.hid (HUa.out.below b1)
      have HB := Lib.hid (HBW.out.trans ((bWa.trans (b1.mono bWa.size)).mono HBW.out.size))
      have b0 := Below.refl W1.heap.size W1
      rw [hW] at q0 q1 q2 p0 p1 p2
      clear ba bb bWa b1 kA kB kC zA zB HVa HUa
      rcases hcase with hn | ⟨x, hx, hao, hcx⟩
      · have HZ := Lib.hid hn
        clear hn
        go_wp2_with fail
        rw [← hW]
        clear hW
        clear q0 q1 q2 p0 p1 p2
        refine (iBest_none W1 l _ HV.out ll _ HU.out k 0 HZ.out _ (Below.refl _ _)).mono ?_
        rintro e w1 ⟨rfl, h1⟩
        have b_o_1 := b0.trans (h1.mono b0.size)
        obtain ⟨V1, hV1⟩ : ∃ V1, V1 = w1.alloc (.cells #[.int .i64 0, .int .i64 0, .int .i64 0] TRc) := ⟨_, rfl⟩
        have g1 : Below w1.heap.size w1 V1 := by rw [hV1]; exact (Below.refl _ _).alloc (Nat.le_refl _) _
        have k1 := heap_alloc_new w1 (.cells #[.int .i64 0, .int .i64 0, .int .i64 0] TRc)
        rw [← hV1] at k1
        have z1 : w1.heap.size < V1.heap.size := (Array.getElem?_eq_some_iff.1 k1).1
        have HC_x := Lib.hid (show ∀ y, Below V1.heap.size V1 y → y.cell? ⟨w1.heap.size, 0, none⟩ = some (.int .i64 0) ∧ y.cell? ⟨w1.heap.size, 1, none⟩ = some (.int .i64 0) ∧ y.cell? ⟨w1.heap.size, 2, none⟩ = some (.int .i64 0) from fun y h => by obtain ⟨a, b, c, _⟩ := blkS k1; exact ⟨(h.cell (p := ⟨w1.heap.size, 0, none⟩) z1).trans a, (h.cell (p := ⟨w1.heap.size, 1, none⟩) z1).trans b, (h.cell (p := ⟨w1.heap.size, 2, none⟩) z1).trans c⟩)
        have e_o_1 := b_o_1.trans (g1.mono b_o_1.size)
        have r_x_1 := Below.refl V1.heap.size V1
        clear k1 z1 g1
        go_wp2
        rw [← hV1]
        clear hV1
        go_quiet (fail)
        go_wp2
        go_ret
        exact ⟨by first | rfl | exact retb (by simp), HB.out.trans ((below_draws e_o_1 _).mono HB.out.size)⟩
      · obtain ⟨cr, hcr⟩ : ∃ cr, acost ll r = cr := ⟨_, rfl⟩
        obtain ⟨cx, hcx2⟩ : ∃ cx, acost ll x = cx := ⟨_, rfl⟩
        rw [hcr, hcx2] at hcx
        have HCR := Lib.hid hcr; have HCX := Lib.hid hcx2; have HA := Lib.hid hao; have HZ := Lib.hid hx
        clear hcr hcx2 hao hx
        go_wp2_with fail
        rw [← hW]
        clear hW
        clear q0 q1 q2 p0 p1 p2
        refine (iBest_some W1 l _ HV.out ll _ HU.out k 0 x HZ.out _ (Below.refl _ _)).mono ?_
        rintro e w1 ⟨rfl, h1⟩
        have b_o_1 := b0.trans (h1.mono b0.size)
        obtain ⟨V1, hV1⟩ : ∃ V1, V1 = w1.alloc (.cells #[.int .i64 x.area, .int .i64 x.job, .int .i64 x.sex] TRc) := ⟨_, rfl⟩
        have g1 : Below w1.heap.size w1 V1 := by rw [hV1]; exact (Below.refl _ _).alloc (Nat.le_refl _) _
        have k1 := heap_alloc_new w1 (.cells #[.int .i64 x.area, .int .i64 x.job, .int .i64 x.sex] TRc)
        rw [← hV1] at k1
        have z1 : w1.heap.size < V1.heap.size := (Array.getElem?_eq_some_iff.1 k1).1
        have HC_x := Lib.hid (show ∀ y, Below V1.heap.size V1 y → y.cell? ⟨w1.heap.size, 0, none⟩ = some (.int .i64 x.area) ∧ y.cell? ⟨w1.heap.size, 1, none⟩ = some (.int .i64 x.job) ∧ y.cell? ⟨w1.heap.size, 2, none⟩ = some (.int .i64 x.sex) from fun y h => by obtain ⟨a, b, c, _⟩ := blkS k1; exact ⟨(h.cell (p := ⟨w1.heap.size, 0, none⟩) z1).trans a, (h.cell (p := ⟨w1.heap.size, 1, none⟩) z1).trans b, (h.cell (p := ⟨w1.heap.size, 2, none⟩) z1).trans c⟩)
        have e_o_1 := b_o_1.trans (g1.mono b_o_1.size)
        have r_x_1 := Below.refl V1.heap.size V1
        clear k1 z1 g1
        have HF := Lib.hid (show ∀ y : World, Below V1.heap.size V1 y → (Below V1.heap.size V1 y ∧ (y.cell? ⟨wa.heap.size, 0, none⟩ = some (.int .i64 r.area) ∧ y.cell? ⟨wa.heap.size, 1, none⟩ = some (.int .i64 r.job) ∧ y.cell? ⟨wa.heap.size, 2, none⟩ = some (.int .i64 r.sex)) ∧ y.cell? ⟨w1.heap.size, 0, none⟩ = some (.int .i64 x.area) ∧ y.cell? ⟨w1.heap.size, 1, none⟩ = some (.int .i64 x.job) ∧ y.cell? ⟨w1.heap.size, 2, none⟩ = some (.int .i64 x.sex)) from fun y h => ⟨h, HC.out _ (e_o_1.trans (h.mono e_o_1.size)), HC_x.out _ h⟩)
        have bd : Below V1.heap.size V1 V1.drew := (Below.refl _ _).drew
        have HV1 := Lib.hid (HV.out.below e_o_1); have HU1 := Lib.hid (HU.out.below e_o_1); have HB1 := Lib.hid e_o_1
        clear e_o_1 r_x_1
        go_wp2
        rw [← hV1]
        clear hV1
        go_region_held3 (fun y => Below V1.heap.size V1 y ∧ (y.cell? ⟨wa.heap.size, 0, none⟩ = some (.int .i64 r.area) ∧ y.cell? ⟨wa.heap.size, 1, none⟩ = some (.int .i64 r.job) ∧ y.cell? ⟨wa.heap.size, 2, none⟩ = some (.int .i64 r.sex)) ∧ y.cell? ⟨w1.heap.size, 0, none⟩ = some (.int .i64 x.area) ∧ y.cell? ⟨w1.heap.size, 1, none⟩ = some (.int .i64 x.job) ∧ y.cell? ⟨w1.heap.size, 2, none⟩ = some (.int .i64 x.sex))
          (first | exact HF.out _ (by assumption) | exact HF.out _ bd)
          (first
            | (go_at_call 18
               with_reducible refine (iAOk_is V1 l _ HV1.out ll _ HU1.out x k true HA.out _ bd).mono ?_
               rintro e w5 ⟨rfl, b5⟩)
            | (go_at_call 14
               with_reducible refine (iACost_is V1 ll _ HU1.out x cx HCX.out _ b5).mono ?_
               rintro e w6 ⟨rfl, b6⟩)
            | (go_at_call 14
               with_reducible refine (iACost_is V1 ll _ HU1.out r cr HCR.out _ b6).mono ?_
               rintro e w7 ⟨rfl, b7⟩))
        go_wp2
        go_ret
        exact ⟨by first | rfl | exact retb (by simp) | exact retb (by simp; omega), HB.out.trans ((HB1.out.trans (b7.mono HB1.out.size)).mono HB.out.size)⟩
set_option maxHeartbeats 8000000 in
theorem w_Best (A : Option Addr) (n c : Nat) (hnc : n ≤ c) (hn : n ≤ maxLen) (w : World) (hb : Bytes w w.heap.size A n) :
    Calls Try.prog 3 #[.slice A n c] w fun e w' => e = .returned (.bool true) ∧ Below w.heap.size w w' := by
  have hn2 := hn
  unfold maxLen at hn2
  rcases (show 1048576 < n ∨ ¬ 1048576 < n by omega) with hbig | hbig
  · go_enter Try.func3, Try.ntmps3
    go_wp2
    go_ret
    exact ⟨rfl, Below.refl _ _⟩
  · go_enter Try.func3, Try.ntmps3
    go_wp2_with fail
    refine (dAnonBest_any A n c hnc hn _ hb).mono ?_
    rintro e W ⟨l, v, ll, u, k, d, rfl, hv, hu, hl, hll, _, k0, k1, d0, d1, hbW⟩
    have HV0 := Lib.hid hv; have HU0 := Lib.hid hu; have HBW := Lib.hid hbW
    obtain ⟨Au, cu, hu2, _, _, _⟩ := hu
    subst hu2
    obtain ⟨Av, cv, hv2, _, _, _⟩ := hv
    subst hv2
    clear hbW hb
    cases hbest : abest l ll k d with
    | none =>
      have HG := Lib.hid hbest
      clear hbest
      go_wp2_with fail
      refine (iBest_none W l _ HV0.out ll _ HU0.out k d HG.out _ (Below.refl _ _)).mono ?_
      rintro e wa ⟨rfl, ba⟩
      obtain ⟨Wa, hWa⟩ : ∃ Wa, Wa = wa.alloc (.cells #[.int .i64 0, .int .i64 0, .int .i64 0] TRc) := ⟨_, rfl⟩
      have bWa : Below W.heap.size W Wa := by rw [hWa]; exact ba.alloc ba.size _
      have kA := heap_alloc_new wa (.cells #[.int .i64 0, .int .i64 0, .int .i64 0] TRc)
      rw [← hWa] at kA
      have zA : wa.heap.size < Wa.heap.size := (Array.getElem?_eq_some_iff.1 kA).1
      have HVa := Lib.hid (HV0.out.below bWa); have HUa := Lib.hid (HU0.out.below bWa)
      go_wp2_with fail
      rw [← hWa]
      clear hWa
      refine (sBest_none Wa l _ HVa.out ll _ HUa.out k d HG.out _ (Below.refl _ _)).mono ?_
      rintro e wb ⟨rfl, bb⟩
      obtain ⟨W1, hW⟩ : ∃ W1, W1 = wb.alloc (.cells #[.int .i64 0, .int .i64 0, .int .i64 0] TRc) := ⟨_, rfl⟩
      have b1 : Below Wa.heap.size Wa W1 := by rw [hW]; exact bb.alloc bb.size _
      have kB := (b1.block _ zA).trans kA
      have zB : wa.heap.size < W1.heap.size := Nat.lt_of_lt_of_le zA b1.size
      obtain ⟨q0, q1, q2, _, _, _⟩ := blkS kB
      have kC := heap_alloc_new wb (.cells #[.int .i64 0, .int .i64 0, .int .i64 0] TRc)
      rw [← hW] at kC
      obtain ⟨p0, p1, p2, _, _, _⟩ := blkS kC
      have HC := Lib.hid (show ∀ y, Below W1.heap.size W1 y → y.cell? ⟨wa.heap.size, 0, none⟩ = some (.int .i64 0) ∧ y.cell? ⟨wa.heap.size, 1, none⟩ = some (.int .i64 0) ∧ y.cell? ⟨wa.heap.size, 2, none⟩ = some (.int .i64 0) from fun y h => ⟨(h.cell (p := ⟨wa.heap.size, 0, none⟩) zB).trans q0, (h.cell (p := ⟨wa.heap.size, 1, none⟩) zB).trans q1, (h.cell (p := ⟨wa.heap.size, 2, none⟩) zB).trans q2⟩)
      have HV := Lib.hid (HVa.out.below b1); have HU := Lib.hid (HUa.out.below b1)
      have HB := Lib.hid (HBW.out.trans ((bWa.trans (b1.mono bWa.size)).mono HBW.out.size))
      have b0 := Below.refl W1.heap.size W1
      rw [hW] at q0 q1 q2 p0 p1 p2
      clear ba bb bWa b1 kA kB kC zA zB HVa HUa
      go_wp2
      rw [← hW]
      go_ret
      exact ⟨by first | rfl | exact retb (by simp) | exact retb (by simp; omega), HB.out.trans (b0.mono HB.out.size)⟩
    | some r =>
      obtain ⟨t0, t1, t2⟩ := m_best hbest
      obtain ⟨cr, hcr⟩ : ∃ cr, acost ll r = cr := ⟨_, rfl⟩
      obtain ⟨dr, hdr⟩ : ∃ dr, adrop l ll r k = dr := ⟨_, rfl⟩
      rw [hcr] at t0 t2
      rw [hdr] at t1
      have HCR := Lib.hid hcr; have HDR := Lib.hid hdr; have HNO := Lib.hid t2
      have HLAD := Lib.hid (abest_some hbest).2.1
      obtain ⟨m, hm⟩ : ∃ m, ll.length = m := ⟨_, rfl⟩
      have HM := Lib.hid hm
      rw [hm] at HU0 hll ⊢
      clear hcr hdr t2 hm
      have HG := Lib.hid hbest
      clear hbest
      go_wp2_with fail
      refine (iBest_some W l _ HV0.out ll _ HU0.out k d r HG.out _ (Below.refl _ _)).mono ?_
      rintro e wa ⟨rfl, ba⟩
      obtain ⟨Wa, hWa⟩ : ∃ Wa, Wa = wa.alloc (.cells #[.int .i64 r.area, .int .i64 r.job, .int .i64 r.sex] TRc) := ⟨_, rfl⟩
      have bWa : Below W.heap.size W Wa := by rw [hWa]; exact ba.alloc ba.size _
      have kA := heap_alloc_new wa (.cells #[.int .i64 r.area, .int .i64 r.job, .int .i64 r.sex] TRc)
      rw [← hWa] at kA
      have zA : wa.heap.size < Wa.heap.size := (Array.getElem?_eq_some_iff.1 kA).1
      have HVa := Lib.hid (HV0.out.below bWa); have HUa := Lib.hid (HU0.out.below bWa)
      go_wp2_with fail
      rw [← hWa]
      clear hWa
      refine (sBest_some Wa l _ HVa.out ll _ HUa.out k d r HG.out _ (Below.refl _ _)).mono ?_
      rintro e wb ⟨rfl, bb⟩
      obtain ⟨W1, hW⟩ : ∃ W1, W1 = wb.alloc (.cells #[.int .i64 r.area, .int .i64 r.job, .int .i64 r.sex] TRc) := ⟨_, rfl⟩
      have b1 : Below Wa.heap.size Wa W1 := by rw [hW]; exact bb.alloc bb.size _
      have kB := (b1.block _ zA).trans kA
      have zB : wa.heap.size < W1.heap.size := Nat.lt_of_lt_of_le zA b1.size
      obtain ⟨q0, q1, q2, _, _, _⟩ := blkS kB
      have kC := heap_alloc_new wb (.cells #[.int .i64 r.area, .int .i64 r.job, .int .i64 r.sex] TRc)
      rw [← hW] at kC
      obtain ⟨p0, p1, p2, _, _, _⟩ := blkS kC
      have HC := Lib.hid (show ∀ y, Below W1.heap.size W1 y → y.cell? ⟨wa.heap.size, 0, none⟩ = some (.int .i64 r.area) ∧ y.cell? ⟨wa.heap.size, 1, none⟩ = some (.int .i64 r.job) ∧ y.cell? ⟨wa.heap.size, 2, none⟩ = some (.int .i64 r.sex) from fun y h => ⟨(h.cell (p := ⟨wa.heap.size, 0, none⟩) zB).trans q0, (h.cell (p := ⟨wa.heap.size, 1, none⟩) zB).trans q1, (h.cell (p := ⟨wa.heap.size, 2, none⟩) zB).trans q2⟩)
      have HV := Lib.hid (HVa.out.below b1); have HU := Lib.hid (HUa.out.below b1)
      have HB := Lib.hid (HBW.out.trans ((bWa.trans (b1.mono bWa.size)).mono HBW.out.size))
      have b0 := Below.refl W1.heap.size W1
      rw [hW] at q0 q1 q2 p0 p1 p2
      clear ba bb bWa b1 kA kB kC zA zB HVa HUa
      obtain ⟨c_o_0_0, c_o_0_1, c_o_0_2⟩ := HC.out _ b0
      rw [hW] at c_o_0_0 c_o_0_1 c_o_0_2
      go_wp2_with fail
      rw [← hW]
      clear hW
      clear q0 q1 q2 p0 p1 p2 c_o_0_0 c_o_0_1 c_o_0_2
      refine (iACost_is W1 ll _ HU.out r cr HCR.out _ (Below.refl _ _)).mono ?_
      rintro e w1 ⟨rfl, h1⟩
      have b_o_1 := b0.trans (h1.mono b0.size)
      have HBO := Lib.hid b_o_1
      clear b_o_1
      go_wp2
      go_loopw [12] (fun i wr => ∃ a : Nat, a ≤ m + 1 ∧ i = .int .i64 a ∧ Below w1.heap.size w1 wr) (fun i _ => m + 1 - (intOf i).toNat)
      case atStart => exact ⟨0, Nat.zero_le _, rfl, Below.refl _ _⟩
      case round =>
        obtain ⟨a, ha, rfl, hb⟩ := hrel
        by_cases hla : a < m + 1
        · have hai : (a : Int) ≤ (m : Int) := by omega
          have HB1 := Lib.hid hb
          clear hb
          go_wp2
          go_loopw [13] (fun i wr => ∃ n : Nat, n ≤ 4 ∧ i = .int .i64 n ∧ Below w1.heap.size w1 wr) (fun i _ => 4 - (intOf i).toNat)
          case atStart => exact ⟨0, Nat.zero_le _, rfl, HB1.out⟩
          case round =>
            clear HB1
            obtain ⟨n, hn4, rfl, hb⟩ := hrel
            by_cases hln : n < 4
            · have hni : (n : Int) < 4 := by omega
              have hrok := pr_ok HLAD.out (a := a) (by rw [HM.out]; omega) hln
              obtain ⟨j, hj⟩ : ∃ j : Int, (n : Int) / 2 = j := ⟨_, rfl⟩
              obtain ⟨s, hs⟩ : ∃ s : Int, (n : Int) % 2 = s := ⟨_, rfl⟩
              rw [hj, hs] at hrok
              obtain ⟨dd, hdd⟩ : ∃ dd, adrop l ll ⟨a, j, s⟩ k = dd := ⟨_, rfl⟩
              obtain ⟨cc, hcc⟩ : ∃ cc, acost ll ⟨a, j, s⟩ = cc := ⟨_, rfl⟩
              have hno := HNO.out _ hrok
              rw [hdd, hcc] at hno
              have HD := Lib.hid hdd; have HCC := Lib.hid hcc; have HNO2 := Lib.hid hno
              obtain ⟨W4, hW4⟩ : ∃ W4, W4 = wr.alloc (.cells #[.int .i64 (a : Int), .int .i64 j, .int .i64 s] TRc) := ⟨_, rfl⟩
              have hb4 : Below wr.heap.size wr W4 := by rw [hW4]; exact (Below.refl _ _).alloc (Nat.le_refl _) _
              have hX4 : W4.heap[wr.heap.size]? = some (.cells #[.int .i64 (a : Int), .int .i64 j, .int .i64 s] TRc) := by rw [hW4]; exact heap_alloc_new _ _
              have hlt4 : wr.heap.size < W4.heap.size := (Array.getElem?_eq_some_iff.1 hX4).1
              have HB4 := Lib.hid (hb.trans (hb4.mono hb.size))
              have HBO4 := Lib.hid (HBO.out.trans (HB4.out.mono HBO.out.size))
              have HV4 := Lib.hid (HV.out.below HBO4.out); have HU4 := Lib.hid (HU.out.below HBO4.out)
              have HX4 := Lib.hid hX4
              clear hb hb4 hX4 hrok hdd hcc hno
              go_wp2_with fail
              rw [← hW4]
              clear hW4 hj hs
              refine (iADrop_is W4 l _ HV4.out ll _ HU4.out ⟨a, j, s⟩ k dd HD.out _ (Below.refl _ _)).mono ?_
              rintro e w5 ⟨rfl, h5⟩
              obtain ⟨x0, x1, x2, _, _, _⟩ := blkS ((h5.block _ hlt4).trans HX4.out)
              have HB5 := Lib.hid (HB4.out.trans (h5.mono HB4.out.size))
              have HU5 := Lib.hid (HU4.out.below h5)
              clear h5
              by_cases hdl : dd ≤ d
              · have hcl : ¬ cc < cr := fun h => HNO2.out ⟨hdl, h⟩
                go_wp2_with fail
                refine (iACost_is w5 ll _ HU5.out ⟨a, j, s⟩ cc HCC.out _ (Below.refl _ _)).mono ?_
                rintro e w6 ⟨rfl, h6⟩
                have HB6 := Lib.hid (HB5.out.trans (h6.mono HB5.out.size))
                clear h6
                go_wp2
                go_roundw
                case rel => exact ⟨n + 1, by omega, by go_num, HB6.out⟩
                case measure => simp [intOf]; omega
              · go_wp2
                go_roundw
                case rel => exact ⟨n + 1, by omega, by go_num, HB5.out⟩
                case measure => simp [intOf]; omega
            · obtain rfl : n = 4 := by omega
              go_wp2
              go_roundw
              case rel => exact ⟨a + 1, by omega, by go_num, hb⟩
              case measure => simp [intOf]; omega
        · have hai : ¬ (a : Int) ≤ (m : Int) := by omega
          have hbo := HBO.out.trans (hb.mono HBO.out.size)
          obtain ⟨c0, c1, c2⟩ := HC.out _ hbo
          go_wp2_with fail
          refine (iADrop_is W1 l _ HV.out ll _ HU.out r k dr HDR.out _ hbo).mono ?_
          rintro e w5 ⟨rfl, h5⟩
          go_wp2
          go_ret
          exact ⟨by first | rfl | exact retb (by simp) | exact retb (by simp; omega), HB.out.trans (h5.mono HB.out.size)⟩
set_option maxHeartbeats 4000000 in
theorem w_Cost (A : Option Addr) (n c : Nat) (hnc : n ≤ c) (hn : n ≤ maxLen) (w : World) (hb : Bytes w w.heap.size A n) :
    Calls Try.prog 9 #[.slice A n c] w fun e w' => e = .returned (.bool true) ∧ Below w.heap.size w w' := by
  have hn2 := hn
  unfold maxLen at hn2
  rcases (show 1048576 < n ∨ ¬ 1048576 < n by omega) with hbig | hbig
  · go_enter Try.func9, Try.ntmps9
    go_wp2
    go_ret
    exact ⟨rfl, Below.refl _ _⟩
  · go_enter Try.func9, Try.ntmps9
    go_wp2_with fail
    refine (dAnonCost_any A n c hnc hn _ hb).mono ?_
    rintro e W ⟨ll, u, r, rfl, hu, hll, hbW⟩
    obtain ⟨W1, hW⟩ : ∃ W1, W1 = W.alloc (.cells #[.int .i64 r.area, .int .i64 r.job, .int .i64 r.sex] TRc) := ⟨_, rfl⟩
    have hb1 : Below W.heap.size W W1 := by rw [hW]; exact (Below.refl _ _).alloc (Nat.le_refl _) _
    have hX := heap_alloc_new W (.cells #[.int .i64 r.area, .int .i64 r.job, .int .i64 r.sex] TRc)
    rw [← hW] at hX
    have hz1 : W.heap.size < W1.heap.size := (Array.getElem?_eq_some_iff.1 hX).1
    have HU := Lib.hid (hu.below hb1); have HB := Lib.hid (hbW.trans (hb1.mono hbW.size)); have HX := Lib.hid hX
    obtain ⟨Au, cu, hu2, _, _, _⟩ := hu
    subst hu2
    clear hbW hb hb1 hX
    rcases (show acost ll r < 0 ∨ 0 ≤ acost ll r by omega) with hneg | hg0
    · have HG := Lib.hid (acost_neg hneg)
      clear hneg
      go_wp2_with fail
      rw [← hW]
      clear hW
      refine (iACost_is W1 ll _ HU.out r (-1) HG.out _ (Below.refl _ _)).mono ?_
      rintro e w1 ⟨rfl, b1⟩
      obtain ⟨c0, c1, c2, _, _, _⟩ := blkS ((b1.block _ hz1).trans HX.out)
      go_wp2_with fail
      refine (sACost_is W1 ll _ HU.out r (-1) HG.out _ b1).mono ?_
      rintro e w2 ⟨rfl, b2⟩
      go_wp2
      go_ret
      exact ⟨by first | rfl | exact retb (by simp), HB.out.trans (b2.mono HB.out.size)⟩
    · obtain ⟨hrok, f1, f2, f3, f4⟩ := m_cost hg0
      obtain ⟨h0, a0, a1, j0, j1, s0, s1⟩ := rc_parts hrok
      have hsum := acost_at hrok
      obtain ⟨ra, rj, rs⟩ := r
      obtain ⟨g, hg⟩ : ∃ g, acost ll ⟨ra, rj, rs⟩ = g := ⟨_, rfl⟩
      obtain ⟨y, hy⟩ : ∃ y, acost ll ⟨ra, 1, rs⟩ = y := ⟨_, rfl⟩
      simp only at f3 f4 hsum a0 a1 j0 j1 s0 s1
      rw [hg] at f1 f3 f4 hg0 hsum
      rw [hy] at f3 f4
      have HG := Lib.hid hg; have HY := Lib.hid hy
      obtain ⟨m, hm⟩ : ∃ m, ll.length = m := ⟨_, rfl⟩
      rw [hm] at HU f1 a1 hll ⊢
      have hcase : (ra = 0 ∧ rj = 0 ∧ rs = 0 ∧ g = 0) ∨ ((g == 0) = false ∧ (ra == 0) = false) ∨ ((g == 0) = false ∧ ra = 0 ∧ (rj == 0) = false) ∨ ((g == 0) = false ∧ ra = 0 ∧ rj = 0 ∧ (rs == 0) = false) := by
        by_cases h1 : ra = 0
        · by_cases h2 : rj = 0
          · by_cases h3 : rs = 0
            · left; omega
            · right; right; right; simp only [beq_eq_false_iff_ne]; omega
          · right; right; left; simp only [beq_eq_false_iff_ne]; omega
        · right; left; simp only [beq_eq_false_iff_ne]; omega
      clear hg hy hm f2 hrok h0 hsum
      simp only at hW HX
      go_wp2_with fail
      rw [← hW]
      clear hW
      refine (iACost_is W1 ll _ HU.out ⟨ra, rj, rs⟩ g HG.out _ (Below.refl _ _)).mono ?_
      rintro e w1 ⟨rfl, b1⟩
      obtain ⟨c0, c1, c2, _, _, _⟩ := blkS ((b1.block _ hz1).trans HX.out)
      go_wp2_with fail
      refine (sACost_is W1 ll _ HU.out ⟨ra, rj, rs⟩ g HG.out _ b1).mono ?_
      rintro e w2 ⟨rfl, b2⟩
      have hX2 := (b2.block _ hz1).trans HX.out
      have hz2 : W.heap.size < w2.heap.size := (Array.getElem?_eq_some_iff.1 hX2).1
      clear c0 c1 c2
      obtain ⟨c0, c1, c2, _, _, _⟩ := blkS hX2
      obtain ⟨V, hV⟩ : ∃ V, V = w2.alloc (.cells #[.int .i64 ra, .int .i64 1, .int .i64 rs] TRc) := ⟨_, rfl⟩
      have kV : V.heap[w2.heap.size]? = some (.cells #[.int .i64 ra, .int .i64 1, .int .i64 rs] TRc) := by rw [hV]; exact heap_alloc_new w2 _
      have bV : Below w2.heap.size w2 V := by rw [hV]; exact (Below.refl _ _).alloc (Nat.le_refl _) _
      have zV : w2.heap.size < V.heap.size := (Array.getElem?_eq_some_iff.1 kV).1
      have xV := (bV.block _ hz2).trans hX2
      obtain ⟨d0, d1, d2, _, _, _⟩ := blkS xV
      obtain ⟨e0, e1, e2, _, _, _⟩ := blkS kV
      rw [hV] at d0 d1 d2 e0 e1 e2
      have HV := Lib.hid hV; have HKV := Lib.hid kV; have HXV := Lib.hid xV
      have HB2 := Lib.hid (b2.trans (bV.mono b2.size))
      have HU2 := Lib.hid (HU.out.below (b2.trans (bV.mono b2.size)))
      have hne : ¬ W.heap.size = w2.heap.size := by omega
      have hne2 : ¬ w2.heap.size = W.heap.size := by omega
      clear hX2 bV kV xV b1 hV
      rcases hcase with ⟨rfl, rfl, rfl, rfl⟩ | ⟨k1, k2⟩ | ⟨k1, rfl, k2⟩ | ⟨k1, rfl, rfl, k2⟩
      all_goals
        try simp only [Int.zero_add] at f4
        go_wp2_with fail
        rw [← HV.out]
        refine (iACost_is V ll _ HU2.out ⟨_, 1, _⟩ y HY.out _ (Below.refl _ _)).mono ?_
        rintro e w3 ⟨rfl, b3⟩
        obtain ⟨h0, h1, h2, _, _, _⟩ := blkS ((b3.block _ zV).trans HKV.out)
        clear d0 d1 d2 e0 e1 e2
        go_wp2_with fail
        refine (iACost_is V ll _ HU2.out ⟨_, 1, _⟩ y HY.out _ b3).mono ?_
        rintro e w4 ⟨rfl, b4⟩
        go_wp2
        go_ret
        exact ⟨by first | rfl | exact retb (by simp) | exact retb (by simp; omega), HB.out.trans ((HB2.out.trans (b4.mono HB2.out.size)).mono HB.out.size)⟩
set_option maxHeartbeats 8000000 in
theorem w_AnonOkCoarser (A : Option Addr) (n c : Nat) (hnc : n ≤ c) (hn : n ≤ maxLen) (w : World) (hb : Bytes w w.heap.size A n) :
    Calls Try.prog 10 #[.slice A n c] w fun e w' => e = .returned (.bool true) ∧ Below w.heap.size w w' := by
  have hn2 := hn
  unfold maxLen at hn2
  rcases (show 1048576 < n ∨ ¬ 1048576 < n by omega) with hbig | hbig
  · go_enter Try.func10, Try.ntmps10
    go_wp2
    go_ret
    exact ⟨rfl, Below.refl _ _⟩
  · go_enter Try.func10, Try.ntmps10
    go_wp2_with fail
    refine (dAnonOk_any A n c hnc hn _ hb).mono ?_
    rintro e W ⟨l, v, ll, u, r, k, rfl, hv, hu, hl, hll, _, k0, k1, hbW⟩
    obtain ⟨W1, hW⟩ : ∃ W1, W1 = W.alloc (.cells #[.int .i64 r.area, .int .i64 r.job, .int .i64 r.sex] TRc) := ⟨_, rfl⟩
    have hb1 : Below W.heap.size W W1 := by rw [hW]; exact (Below.refl _ _).alloc (Nat.le_refl _) _
    have hzW : W.heap.size < W1.heap.size := by rw [hW]; simp
    have e0 : W1.cell? ⟨W.heap.size, 0, none⟩ = some (.int .i64 r.area) := by rw [hW]; simp [go_sem]
    have e1 : W1.cell? ⟨W.heap.size, 1, none⟩ = some (.int .i64 r.job) := by rw [hW]; simp [go_sem]
    have e2 : W1.cell? ⟨W.heap.size, 2, none⟩ = some (.int .i64 r.sex) := by rw [hW]; simp [go_sem]
    have HC := Lib.hid (show ∀ w', Below W1.heap.size W1 w' → w'.cell? ⟨W.heap.size, 0, none⟩ = some (.int .i64 r.area) ∧ w'.cell? ⟨W.heap.size, 1, none⟩ = some (.int .i64 r.job) ∧ w'.cell? ⟨W.heap.size, 2, none⟩ = some (.int .i64 r.sex) from
      fun w' h => ⟨(h.cell (p := ⟨W.heap.size, 0, none⟩) hzW).trans e0, (h.cell (p := ⟨W.heap.size, 1, none⟩) hzW).trans e1, (h.cell (p := ⟨W.heap.size, 2, none⟩) hzW).trans e2⟩)
    have HV := Lib.hid (hv.below hb1)
    have HU := Lib.hid (hu.below hb1)
    have HB := Lib.hid (hbW.trans (hb1.mono hbW.size))
    have b0 := Below.refl W1.heap.size W1
    clear e0 e1 e2 hv hu hbW hb hb1
    cases hok : aok l ll r k
    · have HG := Lib.hid hok
      clear hok
      go_wp2_with fail
      rw [← hW]
      clear hW
      refine (iAOk_is W1 l _ HV.out ll _ HU.out r k false HG.out _ b0).mono ?_
      rintro e w1 ⟨rfl, b1⟩
      obtain ⟨c0, c1, c2⟩ := HC.out _ b1
      go_wp2_with fail
      refine (sAOk_is W1 l _ HV.out ll _ HU.out r k false HG.out _ b1).mono ?_
      rintro e w2 ⟨rfl, b2⟩
      go_wp2
      go_ret
      exact ⟨by first | rfl | exact retb (by simp) | exact retb (by simp; omega), HB.out.trans (b2.mono HB.out.size)⟩
    · have HG := Lib.hid hok
      obtain ⟨hrok, h0, a0, a1, j0, j1, s0, s1⟩ : rcOk ll r = true ∧ ladOk ll = true ∧ 0 ≤ r.area ∧ r.area ≤ ll.length ∧ 0 ≤ r.job ∧ r.job ≤ 1 ∧ 0 ≤ r.sex ∧ r.sex ≤ 1 := by
        have h := (gr_parts.1 (ad_parts.1 (aok_iff.1 hok).1).1).2
        exact ⟨h, rc_parts h⟩
      have HK := Lib.hid (show ∀ s t, rcOk ll s = t → t = true → r.area ≤ s.area → r.job ≤ s.job → r.sex ≤ s.sex → aok l ll s k = true from fun s t h1 h2 h3 h4 h5 => m_anonCoarser hok (h1.trans h2) ⟨h3, h4, h5⟩)
      obtain ⟨t0, ht0⟩ : ∃ t, rcOk ll ⟨r.area + 1, r.job, r.sex⟩ = t := ⟨_, rfl⟩
      obtain ⟨t1, ht1⟩ : ∃ t, rcOk ll ⟨r.area, r.job + 1, r.sex⟩ = t := ⟨_, rfl⟩
      obtain ⟨t2, ht2⟩ : ∃ t, rcOk ll ⟨r.area, r.job, r.sex + 1⟩ = t := ⟨_, rfl⟩
      obtain ⟨t3, ht3⟩ : ∃ t, rcOk ll ⟨(ll.length : Int), 1, 1⟩ = t := ⟨_, rfl⟩
      have K0 := Lib.hid (fun h => HK.out _ _ ht0 h (by simp only; omega) (by simp) (by simp)); have K1 := Lib.hid (fun h => HK.out _ _ ht1 h (by simp) (by simp only; omega) (by simp)); have K2 := Lib.hid (fun h => HK.out _ _ ht2 h (by simp) (by simp) (by simp only; omega)); have K3 := Lib.hid (fun h => HK.out _ _ ht3 h (by simp only; omega) (by simp only; omega) (by simp only; omega))
      have T0 := Lib.hid ht0; have T1 := Lib.hid ht1; have T2 := Lib.hid ht2; have T3 := Lib.hid ht3
      have hl3 := lad_len h0
      obtain ⟨Au, cu, hu2, _, _, _⟩ := HU.out
      subst hu2
      clear ht0 ht1 ht2 ht3 hrok h0 hok
      go_wp2_with fail
      rw [← hW]
      clear hW
      refine (iAOk_is W1 l _ HV.out ll _ HU.out r k true HG.out _ b0).mono ?_
      rintro e w1 ⟨rfl, b1⟩
      obtain ⟨c0, c1, c2⟩ := HC.out _ b1
      go_wp2_with fail
      refine (sAOk_is W1 l _ HV.out ll _ HU.out r k true HG.out _ b1).mono ?_
      rintro e w2 ⟨rfl, b2⟩
      clear c0 c1 c2
      obtain ⟨c0, c1, c2⟩ := HC.out _ b2
      obtain ⟨V, hV⟩ : ∃ V, V = w2.alloc (.cells #[.int .i64 (r.area + 1), .int .i64 r.job, .int .i64 r.sex, .int .i64 r.area, .int .i64 (r.job + 1), .int .i64 r.sex, .int .i64 r.area, .int .i64 r.job, .int .i64 (r.sex + 1), .int .i64 (ll.length : Int), .int .i64 1, .int .i64 1] TRc) := ⟨_, rfl⟩
      have kV := heap_alloc_new w2 (.cells #[.int .i64 (r.area + 1), .int .i64 r.job, .int .i64 r.sex, .int .i64 r.area, .int .i64 (r.job + 1), .int .i64 r.sex, .int .i64 r.area, .int .i64 r.job, .int .i64 (r.sex + 1), .int .i64 (ll.length : Int), .int .i64 1, .int .i64 1] TRc)
      rw [← hV] at kV
      have bV : Below w2.heap.size w2 V := by rw [hV]; exact (Below.refl _ _).alloc (Nat.le_refl _) _
      have zV : w2.heap.size < V.heap.size := (Array.getElem?_eq_some_iff.1 kV).1
      have HKV := Lib.hid (show ∀ y, Below V.heap.size V y → y.heap[w2.heap.size]? = some (.cells #[.int .i64 (r.area + 1), .int .i64 r.job, .int .i64 r.sex, .int .i64 r.area, .int .i64 (r.job + 1), .int .i64 r.sex, .int .i64 r.area, .int .i64 r.job, .int .i64 (r.sex + 1), .int .i64 (ll.length : Int), .int .i64 1, .int .i64 1] TRc (0, 0)) from fun y h => (h.block _ zV).trans kV)
      have HBV := Lib.hid (b2.trans (bV.mono b2.size))
      have HVV := Lib.hid (HV.out.below HBV.out); have HUV := Lib.hid (HU.out.below HBV.out)
      clear kV bV zV
      go_wp2
      rw [← hV]
      clear hV c0 c1 c2
      go_loopw [10] (fun i wr => ∃ n : Nat, n ≤ 4 ∧ i = .int .i64 n ∧ Below V.heap.size V wr) (fun i _ => 4 - (intOf i).toNat)
      case atStart => exact ⟨0, Nat.zero_le _, rfl, Below.refl _ _⟩
      case round =>
        obtain ⟨n, hn4, rfl, hb⟩ := hrel
        have hX := HKV.out _ hb
        have HBB := Lib.hid hb
        clear hb
        rcases (show n = 0 ∨ n = 1 ∨ n = 2 ∨ n = 3 ∨ n = 4 by omega) with rfl | rfl | rfl | rfl | rfl
        · have x0 : wr.cell? ⟨w2.heap.size, 0, none⟩ = some (.int .i64 (r.area + 1)) := cell_of_row wr _ 0 _ _ _ hX
          have x1 : wr.cell? ⟨w2.heap.size, 1, none⟩ = some (.int .i64 (r.job)) := cell_of_row wr _ 1 _ _ _ hX
          have x2 : wr.cell? ⟨w2.heap.size, 2, none⟩ = some (.int .i64 (r.sex)) := cell_of_row wr _ 2 _ _ _ hX
          clear hX
          go_wp2_with fail
          refine (iRcValid_is V ll _ HUV.out ⟨r.area + 1, r.job, r.sex⟩ t0 T0.out _ HBB.out).mono ?_
          rintro e w5 ⟨rfl, b5⟩
          have hX := HKV.out _ b5
          clear x0 x1 x2
          have x0 : w5.cell? ⟨w2.heap.size, 0, none⟩ = some (.int .i64 (r.area + 1)) := cell_of_row w5 _ 0 _ _ _ hX
          have x1 : w5.cell? ⟨w2.heap.size, 1, none⟩ = some (.int .i64 (r.job)) := cell_of_row w5 _ 1 _ _ _ hX
          have x2 : w5.cell? ⟨w2.heap.size, 2, none⟩ = some (.int .i64 (r.sex)) := cell_of_row w5 _ 2 _ _ _ hX
          clear hX
          cases t0
          · go_wp2
            go_roundw
            case rel => exact ⟨1, by omega, by go_num, b5⟩
            case measure => simp [intOf]
          · go_wp2_with fail
            refine (iAOk_is V l _ HVV.out ll _ HUV.out ⟨r.area + 1, r.job, r.sex⟩ k true (K0.out (by simp)) _ b5).mono ?_
            rintro e w6 ⟨rfl, b6⟩
            go_wp2
            go_roundw
            case rel => exact ⟨1, by omega, by go_num, b6⟩
            case measure => simp [intOf]
        · have x0 : wr.cell? ⟨w2.heap.size, 3, none⟩ = some (.int .i64 (r.area)) := cell_of_row wr _ 3 _ _ _ hX
          have x1 : wr.cell? ⟨w2.heap.size, 4, none⟩ = some (.int .i64 (r.job + 1)) := cell_of_row wr _ 4 _ _ _ hX
          have x2 : wr.cell? ⟨w2.heap.size, 5, none⟩ = some (.int .i64 (r.sex)) := cell_of_row wr _ 5 _ _ _ hX
          clear hX
          go_wp2_with fail
          refine (iRcValid_is V ll _ HUV.out ⟨r.area, r.job + 1, r.sex⟩ t1 T1.out _ HBB.out).mono ?_
          rintro e w5 ⟨rfl, b5⟩
          have hX := HKV.out _ b5
          clear x0 x1 x2
          have x0 : w5.cell? ⟨w2.heap.size, 3, none⟩ = some (.int .i64 (r.area)) := cell_of_row w5 _ 3 _ _ _ hX
          have x1 : w5.cell? ⟨w2.heap.size, 4, none⟩ = some (.int .i64 (r.job + 1)) := cell_of_row w5 _ 4 _ _ _ hX
          have x2 : w5.cell? ⟨w2.heap.size, 5, none⟩ = some (.int .i64 (r.sex)) := cell_of_row w5 _ 5 _ _ _ hX
          clear hX
          cases t1
          · go_wp2
            go_roundw
            case rel => exact ⟨2, by omega, by go_num, b5⟩
            case measure => simp [intOf]
          · go_wp2_with fail
            refine (iAOk_is V l _ HVV.out ll _ HUV.out ⟨r.area, r.job + 1, r.sex⟩ k true (K1.out (by simp)) _ b5).mono ?_
            rintro e w6 ⟨rfl, b6⟩
            go_wp2
            go_roundw
            case rel => exact ⟨2, by omega, by go_num, b6⟩
            case measure => simp [intOf]
        · have x0 : wr.cell? ⟨w2.heap.size, 6, none⟩ = some (.int .i64 (r.area)) := cell_of_row wr _ 6 _ _ _ hX
          have x1 : wr.cell? ⟨w2.heap.size, 7, none⟩ = some (.int .i64 (r.job)) := cell_of_row wr _ 7 _ _ _ hX
          have x2 : wr.cell? ⟨w2.heap.size, 8, none⟩ = some (.int .i64 (r.sex + 1)) := cell_of_row wr _ 8 _ _ _ hX
          clear hX
          go_wp2_with fail
          refine (iRcValid_is V ll _ HUV.out ⟨r.area, r.job, r.sex + 1⟩ t2 T2.out _ HBB.out).mono ?_
          rintro e w5 ⟨rfl, b5⟩
          have hX := HKV.out _ b5
          clear x0 x1 x2
          have x0 : w5.cell? ⟨w2.heap.size, 6, none⟩ = some (.int .i64 (r.area)) := cell_of_row w5 _ 6 _ _ _ hX
          have x1 : w5.cell? ⟨w2.heap.size, 7, none⟩ = some (.int .i64 (r.job)) := cell_of_row w5 _ 7 _ _ _ hX
          have x2 : w5.cell? ⟨w2.heap.size, 8, none⟩ = some (.int .i64 (r.sex + 1)) := cell_of_row w5 _ 8 _ _ _ hX
          clear hX
          cases t2
          · go_wp2
            go_roundw
            case rel => exact ⟨3, by omega, by go_num, b5⟩
            case measure => simp [intOf]
          · go_wp2_with fail
            refine (iAOk_is V l _ HVV.out ll _ HUV.out ⟨r.area, r.job, r.sex + 1⟩ k true (K2.out (by simp)) _ b5).mono ?_
            rintro e w6 ⟨rfl, b6⟩
            go_wp2
            go_roundw
            case rel => exact ⟨3, by omega, by go_num, b6⟩
            case measure => simp [intOf]
        · have x0 : wr.cell? ⟨w2.heap.size, 9, none⟩ = some (.int .i64 ((ll.length : Int))) := cell_of_row wr _ 9 _ _ _ hX
          have x1 : wr.cell? ⟨w2.heap.size, 10, none⟩ = some (.int .i64 (1)) := cell_of_row wr _ 10 _ _ _ hX
          have x2 : wr.cell? ⟨w2.heap.size, 11, none⟩ = some (.int .i64 (1)) := cell_of_row wr _ 11 _ _ _ hX
          clear hX
          go_wp2_with fail
          refine (iRcValid_is V ll _ HUV.out ⟨(ll.length : Int), 1, 1⟩ t3 T3.out _ HBB.out).mono ?_
          rintro e w5 ⟨rfl, b5⟩
          have hX := HKV.out _ b5
          clear x0 x1 x2
          have x0 : w5.cell? ⟨w2.heap.size, 9, none⟩ = some (.int .i64 ((ll.length : Int))) := cell_of_row w5 _ 9 _ _ _ hX
          have x1 : w5.cell? ⟨w2.heap.size, 10, none⟩ = some (.int .i64 (1)) := cell_of_row w5 _ 10 _ _ _ hX
          have x2 : w5.cell? ⟨w2.heap.size, 11, none⟩ = some (.int .i64 (1)) := cell_of_row w5 _ 11 _ _ _ hX
          clear hX
          cases t3
          · go_wp2
            go_roundw
            case rel => exact ⟨4, by omega, by go_num, b5⟩
            case measure => simp [intOf]
          · go_wp2_with fail
            refine (iAOk_is V l _ HVV.out ll _ HUV.out ⟨(ll.length : Int), 1, 1⟩ k true (K3.out (by simp)) _ b5).mono ?_
            rintro e w6 ⟨rfl, b6⟩
            go_wp2
            go_roundw
            case rel => exact ⟨4, by omega, by go_num, b6⟩
            case measure => simp [intOf]
        · clear hX
          go_wp2
          go_ret
          exact ⟨by first | rfl | exact retb (by simp), HB.out.trans ((HBV.out.trans (HBB.out.mono HBV.out.size)).mono HB.out.size)⟩
end Go.Proofs.Ytghhhdcbpcdhfaa
