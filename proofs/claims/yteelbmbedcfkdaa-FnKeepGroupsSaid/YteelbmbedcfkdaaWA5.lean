/- Laws of chapter 4 on kept groups. -/
import Derived.Test.YteelbmbedcfkdaaAI2
import Derived.Test.YteelbmbedcfkdaaAS
import Derived.Test.YteelbmbedcfkdaaAD
import Derived.Test.YteelbmbedcfkdaaA2
import Derived.Test.YteelbmbedcfkdaaA4
import Derived.Deep.RegionHeld3
namespace Go.Proofs.Yteelbmbedcfkdaa
open Go.RowKit
set_option maxHeartbeats 4000000 in
theorem w_KeepGroups (A : Option Addr) (n c : Nat) (hnc : n ≤ c) (hn : n ≤ maxLen) (w : World) (hb : Bytes w w.heap.size A n) :
    Calls Try.prog 11 #[.slice A n c] w fun e w' => e = .returned (.bool true) ∧ Below w.heap.size w w' := by
  have hn2 := hn
  unfold maxLen at hn2
  rcases (show 1048576 < n ∨ ¬ 1048576 < n by omega) with hbig | hbig
  · go_enter Try.func11, Try.ntmps11
    go_wp2
    go_ret
    exact ⟨rfl, Below.refl _ _⟩
  · go_enter Try.func11, Try.ntmps11
    go_wp2_with fail
    refine (dAnonKeep_any A n c hnc hn _ hb).mono ?_
    rintro e W ⟨l, v, ll, u, r, k, rfl, hv, hu, hl, hll, _, k0, k1, hbW⟩
    obtain ⟨W1, hW⟩ : ∃ W1, W1 = W.alloc (.cells #[.int .i64 r.area, .int .i64 r.job, .int .i64 r.sex] TRc) := ⟨_, rfl⟩
    have hb1 : Below W.heap.size W W1 := by rw [hW]; exact (Below.refl _ _).alloc (Nat.le_refl _) _
    have hzW : W.heap.size < W1.heap.size := by rw [hW]; simp
    have e0 : W1.cell? ⟨W.heap.size, 0, none⟩ = some (.int .i64 r.area) := by rw [hW]; simp [go_sem]
    have e1 : W1.cell? ⟨W.heap.size, 1, none⟩ = some (.int .i64 r.job) := by rw [hW]; simp [go_sem]
    have e2 : W1.cell? ⟨W.heap.size, 2, none⟩ = some (.int .i64 r.sex) := by rw [hW]; simp [go_sem]
    have HC := Lib.hid (show ∀ w', Below W1.heap.size W1 w' → w'.cell? ⟨W.heap.size, 0, none⟩ = some (.int .i64 r.area) ∧ w'.cell? ⟨W.heap.size, 1, none⟩ = some (.int .i64 r.job) ∧ w'.cell? ⟨W.heap.size, 2, none⟩ = some (.int .i64 r.sex) from
      fun w' h => ⟨(h.cell (p := ⟨W.heap.size, 0, none⟩) hzW).trans e0, (h.cell (p := ⟨W.heap.size, 1, none⟩) hzW).trans e1, (h.cell (p := ⟨W.heap.size, 2, none⟩) hzW).trans e2⟩)
    have HV := Lib.hid (hv.below hb1)
    have HU := Lib.hid (hu.below hb1)
    have HB := Lib.hid (hbW.trans (hb1.mono hbW.size))
    have b0 := Below.refl W1.heap.size W1
    clear e0 e1 e2 hv hu hbW hb hb1
    cases hok : adOk l ll r k
    · have HR := Lib.hid (akeep_no hok)
      have HOK := Lib.hid hok; clear hok
      go_wp2_with fail
      rw [← hW]
      clear hW
      refine (iAKeep_is W1 l _ HV.out ll _ (HU.out.below b0) r k ([]) false HR.out HOK.out _ (Below.refl _ _)).mono ?_
      rintro e w1 ⟨out, rfl, hy, h1⟩
      have b1 := b0.trans (h1.mono b0.size)
      have Lout_1 := Lib.hid hy.is
      clear hy h1
      obtain ⟨c0, c1, c2⟩ := HC.out _ b1
      go_wp2_with fail
      refine (sAKeep_is w1 l _ (HV.out.below b1) ll _ (HU.out.below b1) r k ([]) false HR.out HOK.out _ (Below.refl _ _)).mono ?_
      rintro e w2 ⟨want, rfl, hy, h2⟩
      have b2 := b1.trans (h2.mono b1.size)
      have Lout_2 := Lib.hid (Lout_1.out.below h2)
      clear Lout_1
      have Lwant_2 := Lib.hid hy.is
      clear hy h2
      go_wp2_with fail
      refine (sameP_is w2 ([]) out want (by simp) Lout_2.out Lwant_2.out _ (Below.refl _ _)).mono ?_
      rintro e w3 ⟨rfl, h3⟩
      have b3 := b2.trans (h3.mono b2.size)
      have Lout_3 := Lib.hid (Lout_2.out.below h3)
      clear Lout_2
      have Lwant_3 := Lib.hid (Lwant_2.out.below h3)
      clear Lwant_2
      clear h3
      go_wp2_with fail
      refine (sameP_is w3 ([]) out want (by simp) Lout_3.out Lwant_3.out _ (Below.refl _ _)).mono ?_
      rintro e w4 ⟨rfl, h4⟩
      have b4 := b3.trans (h4.mono b3.size)
      have Lout_4 := Lib.hid (Lout_3.out.below h4)
      clear Lout_3
      have Lwant_4 := Lib.hid (Lwant_3.out.below h4)
      clear Lwant_3
      clear h4
      go_wp2
      go_ret
      exact ⟨by first | rfl | exact retb (by simp) | exact retb (by simp; omega), HB.out.trans (b4.mono HB.out.size)⟩
    · have HOK := Lib.hid hok
      obtain ⟨m1, m2⟩ := m_keepGroups hok
      have hxl := akeep_len l ll r k
      obtain ⟨x, hx⟩ : ∃ x, akeep l ll r k = x := ⟨_, rfl⟩
      rw [hx] at m1 m2 hxl
      obtain ⟨A1, hA1⟩ : ∃ z, gmany x ll rlow = z := ⟨_, rfl⟩
      obtain ⟨A2, hA2⟩ : ∃ z, gmany l ll r = z := ⟨_, rfl⟩
      obtain ⟨A3, hA3⟩ : ∃ z, guniq x ll rlow = z := ⟨_, rfl⟩
      rw [hA1, hA2] at m1
      rw [hA3] at m2
      have HR := Lib.hid hx; have G1 := Lib.hid (show gmany x ll ⟨0, 0, 0⟩ = A1 from hA1); have G2 := Lib.hid hA2; have G3 := Lib.hid (show guniq x ll ⟨0, 0, 0⟩ = A3 from hA3)
      have HLN := Lib.hid (show x.length ≤ 1000000 by omega)
      have hcase : (k = 1) ∨ (((k == 1) = false ∧ decide (k = 1) = false ∧ ¬ k = 1) ∧ A3 = 0) := by
        by_cases h : k = 1
        · exact .inl h
        · right; exact ⟨⟨by rw [beq_eq_false_iff_ne]; exact h, decide_eq_false h, h⟩, m2.resolve_left h⟩
      clear hx hA1 hA2 hA3 m2
      clear hok
      go_wp2_with fail
      rw [← hW]
      clear hW
      refine (iAKeep_is W1 l _ HV.out ll _ (HU.out.below b0) r k (x) true HR.out HOK.out _ (Below.refl _ _)).mono ?_
      rintro e w1 ⟨out, rfl, hy, h1⟩
      have b1 := b0.trans (h1.mono b0.size)
      have Lout_1 := Lib.hid hy.is
      clear hy h1
      obtain ⟨c0, c1, c2⟩ := HC.out _ b1
      go_wp2_with fail
      refine (sAKeep_is w1 l _ (HV.out.below b1) ll _ (HU.out.below b1) r k (x) true HR.out HOK.out _ (Below.refl _ _)).mono ?_
      rintro e w2 ⟨want, rfl, hy, h2⟩
      have b2 := b1.trans (h2.mono b1.size)
      have Lout_2 := Lib.hid (Lout_1.out.below h2)
      clear Lout_1
      have Lwant_2 := Lib.hid hy.is
      clear hy h2
      clear c0 c1 c2
      obtain ⟨c0, c1, c2⟩ := HC.out _ b2
      go_wp2_with fail
      refine (sameP_is w2 (x) out want HLN.out Lout_2.out Lwant_2.out _ (Below.refl _ _)).mono ?_
      rintro e w3 ⟨rfl, h3⟩
      have b3 := b2.trans (h3.mono b2.size)
      have Lout_3 := Lib.hid (Lout_2.out.below h3)
      clear Lout_2
      have Lwant_3 := Lib.hid (Lwant_2.out.below h3)
      clear Lwant_2
      clear h3
      clear Lwant_3
      obtain ⟨V, hV⟩ : ∃ V, V = w3.alloc (.cells #[.int .i64 0, .int .i64 0, .int .i64 0] TRc) := ⟨_, rfl⟩
      have kV := heap_alloc_new w3 (.cells #[.int .i64 0, .int .i64 0, .int .i64 0] TRc)
      rw [← hV] at kV
      have bV : Below w3.heap.size w3 V := by rw [hV]; exact (Below.refl _ _).alloc (Nat.le_refl _) _
      have hzV : w3.heap.size < V.heap.size := (Array.getElem?_eq_some_iff.1 kV).1
      have bWV := b3.trans (bV.mono b3.size)
      have hzW2 : W.heap.size < V.heap.size := by have := bWV.size; omega
      have q0 := cell_of_row V _ 0 _ _ _ kV
      have q1 := cell_of_row V _ 1 _ _ _ kV
      have q2 := cell_of_row V _ 2 _ _ _ kV
      have HLV := Lib.hid (Lout_3.out.below bV); have HVV := Lib.hid (HV.out.below bWV); have HUV := Lib.hid (HU.out.below bWV); have HBV := Lib.hid bWV
      clear c0 c1 c2
      obtain ⟨c0, c1, c2⟩ := HC.out _ bWV
      have HF := Lib.hid (show ∀ y : World, Below V.heap.size V y → (Below V.heap.size V y ∧ (y.cell? ⟨W.heap.size, 0, none⟩ = some (.int .i64 r.area) ∧ y.cell? ⟨W.heap.size, 1, none⟩ = some (.int .i64 r.job) ∧ y.cell? ⟨W.heap.size, 2, none⟩ = some (.int .i64 r.sex)) ∧ y.cell? ⟨w3.heap.size, 0, none⟩ = some (.int .i64 0) ∧ y.cell? ⟨w3.heap.size, 1, none⟩ = some (.int .i64 0) ∧ y.cell? ⟨w3.heap.size, 2, none⟩ = some (.int .i64 0)) from
        fun y h => ⟨h, ⟨(h.cell (p := ⟨W.heap.size, 0, none⟩) hzW2).trans c0, (h.cell (p := ⟨W.heap.size, 1, none⟩) hzW2).trans c1, (h.cell (p := ⟨W.heap.size, 2, none⟩) hzW2).trans c2⟩, (h.cell (p := ⟨w3.heap.size, 0, none⟩) hzV).trans q0, (h.cell (p := ⟨w3.heap.size, 1, none⟩) hzV).trans q1, (h.cell (p := ⟨w3.heap.size, 2, none⟩) hzV).trans q2⟩)
      have bd : Below V.heap.size V V.drew := (Below.refl _ _).drew
      clear kV bV bWV c0 c1 c2 q0 q1 q2
      go_wp2
      rw [← hV]
      clear hV
      rcases hcase with rfl | ⟨⟨hkb, hkd, hkn⟩, rfl⟩
      · refine wp_region_held (S := (fun y : World => Below V.heap.size V y ∧ (y.cell? ⟨W.heap.size, 0, none⟩ = some (.int .i64 r.area) ∧ y.cell? ⟨W.heap.size, 1, none⟩ = some (.int .i64 r.job) ∧ y.cell? ⟨W.heap.size, 2, none⟩ = some (.int .i64 r.sex)) ∧ y.cell? ⟨w3.heap.size, 0, none⟩ = some (.int .i64 0) ∧ y.cell? ⟨w3.heap.size, 1, none⟩ = some (.int .i64 0) ∧ y.cell? ⟨w3.heap.size, 2, none⟩ = some (.int .i64 0))) (by kernel_rfl) ?_
        change wpAnyH _ _ _ _ _ _ _ _ V.drew
        refine wpAnyH_take (i := 0) (v := out) rfl (by kernel_rfl) (by kernel_rfl) (by kernel_rfl) (fun _ _ _ h => h) (Or.inl ⟨by rfl, ?_⟩) (HF.out _ bd) ?_
        · (intro y hy; obtain ⟨_, ⟨y0, y1, y2⟩, y3, y4, y5⟩ := hy; go_simp)
        try simp only [Act.put, List.getElem_toArray, List.getElem_cons_zero, List.getElem_cons_succ, List.setIfInBounds_toArray, List.set_cons_zero, List.set_cons_succ]
        refine wpAnyH_take (i := 1) (v := u) rfl (by kernel_rfl) (by kernel_rfl) (by kernel_rfl) (fun _ _ _ h => h) (Or.inl ⟨by rfl, ?_⟩) (HF.out _ bd) ?_
        · (intro y hy; obtain ⟨_, ⟨y0, y1, y2⟩, y3, y4, y5⟩ := hy; go_simp)
        try simp only [Act.put, List.getElem_toArray, List.getElem_cons_zero, List.getElem_cons_succ, List.setIfInBounds_toArray, List.set_cons_zero, List.set_cons_succ]
        refine wpAnyH_take (i := 2) (v := .agg #[.int .i64 0, .int .i64 0, .int .i64 0]) rfl (by kernel_rfl) (by kernel_rfl) (by kernel_rfl) (fun _ _ _ h => h) (Or.inl ⟨by rfl, ?_⟩) (HF.out _ bd) ?_
        · (intro y hy; obtain ⟨_, ⟨y0, y1, y2⟩, y3, y4, y5⟩ := hy; go_simp)
        try simp only [Act.put, List.getElem_toArray, List.getElem_cons_zero, List.getElem_cons_succ, List.setIfInBounds_toArray, List.set_cons_zero, List.set_cons_succ]
        refine wpAnyH_take (i := 4) (v := v) rfl (by kernel_rfl) (by kernel_rfl) (by kernel_rfl) (fun _ _ _ h => h) (Or.inl ⟨by rfl, ?_⟩) (HF.out _ bd) ?_
        · (intro y hy; obtain ⟨_, ⟨y0, y1, y2⟩, y3, y4, y5⟩ := hy; go_simp)
        try simp only [Act.put, List.getElem_toArray, List.getElem_cons_zero, List.getElem_cons_succ, List.setIfInBounds_toArray, List.set_cons_zero, List.set_cons_succ]
        refine wpAnyH_take (i := 5) (v := u) rfl (by kernel_rfl) (by kernel_rfl) (by kernel_rfl) (fun _ _ _ h => h) (Or.inl ⟨by rfl, ?_⟩) (HF.out _ bd) ?_
        · (intro y hy; obtain ⟨_, ⟨y0, y1, y2⟩, y3, y4, y5⟩ := hy; go_simp)
        try simp only [Act.put, List.getElem_toArray, List.getElem_cons_zero, List.getElem_cons_succ, List.setIfInBounds_toArray, List.set_cons_zero, List.set_cons_succ]
        refine wpAnyH_take (i := 6) (v := .agg #[.int .i64 r.area, .int .i64 r.job, .int .i64 r.sex]) rfl (by kernel_rfl) (by kernel_rfl) (by kernel_rfl) (fun _ _ _ h => h) (Or.inl ⟨by rfl, ?_⟩) (HF.out _ bd) ?_
        · (intro y hy; obtain ⟨_, ⟨y0, y1, y2⟩, y3, y4, y5⟩ := hy; go_simp)
        try simp only [Act.put, List.getElem_toArray, List.getElem_cons_zero, List.getElem_cons_succ, List.setIfInBounds_toArray, List.set_cons_zero, List.set_cons_succ]
        refine wpAnyH_all (rs := [3]) (by kernel_rfl) (by simp) (fun i hi => ?_)
        obtain rfl : i = 3 := by simpa using hi
        clear hi
        unfold wpOp
        simp only [List.getElem?_toArray, List.getElem?_cons_succ, List.getElem?_cons_zero]
        rw [if_pos (by rfl)]
        left
        unfold Oper.wp
        go_simp
        refine (iGMany_is V x out HLV.out ll _ HUV.out ⟨0, 0, 0⟩ A1 G1.out _ bd).mono ?_
        rintro e w5 ⟨rfl, b5⟩
        refine ⟨HF.out _ b5, ?_⟩
        try simp only [Act.put, List.getElem_toArray, List.getElem_cons_zero, List.getElem_cons_succ, List.setIfInBounds_toArray, List.set_cons_zero, List.set_cons_succ]
        refine wpAnyH_all (rs := [7]) (by kernel_rfl) (by simp) (fun i hi => ?_)
        obtain rfl : i = 7 := by simpa using hi
        clear hi
        unfold wpOp
        simp only [List.getElem?_toArray, List.getElem?_cons_succ, List.getElem?_cons_zero]
        rw [if_pos (by rfl)]
        left
        unfold Oper.wp
        go_simp
        refine (iGMany_is V l _ HVV.out ll _ HUV.out r A2 G2.out _ b5).mono ?_
        rintro e w6 ⟨rfl, b6⟩
        refine ⟨HF.out _ b6, ?_⟩
        try simp only [Act.put, List.getElem_toArray, List.getElem_cons_zero, List.getElem_cons_succ, List.setIfInBounds_toArray, List.set_cons_zero, List.set_cons_succ]
        refine wpAnyH_take (i := 8) (v := .bool true) rfl (by kernel_rfl) (by kernel_rfl) (by kernel_rfl) (fun _ _ _ h => h) (Or.inl ⟨by rfl, ?_⟩) (HF.out _ b6) ?_
        · (intro y hy; obtain ⟨_, ⟨y0, y1, y2⟩, y3, y4, y5⟩ := hy; go_simp)
        try simp only [Act.put, List.getElem_toArray, List.getElem_cons_zero, List.getElem_cons_succ, List.setIfInBounds_toArray, List.set_cons_zero, List.set_cons_succ]
        refine wpAnyH_take (i := 9) (v := .bool true) rfl (by kernel_rfl) (by kernel_rfl) (by kernel_rfl) (fun _ _ _ h => h) (Or.inl ⟨by rfl, ?_⟩) (HF.out _ b6) ?_
        · (intro y hy; obtain ⟨_, ⟨y0, y1, y2⟩, y3, y4, y5⟩ := hy; go_simp)
        try simp only [Act.put, List.getElem_toArray, List.getElem_cons_zero, List.getElem_cons_succ, List.setIfInBounds_toArray, List.set_cons_zero, List.set_cons_succ]
        refine wpAnyH_take (i := 10) (v := .int .i64 1) rfl (by kernel_rfl) (by kernel_rfl) (by kernel_rfl) (fun _ _ _ h => h) (Or.inl ⟨by rfl, ?_⟩) (HF.out _ b6) ?_
        · (intro y hy; obtain ⟨_, ⟨y0, y1, y2⟩, y3, y4, y5⟩ := hy; go_simp)
        try simp only [Act.put, List.getElem_toArray, List.getElem_cons_zero, List.getElem_cons_succ, List.setIfInBounds_toArray, List.set_cons_zero, List.set_cons_succ]
        refine wpAnyH_take (i := 11) (v := .bool true) rfl (by kernel_rfl) (by kernel_rfl) (by kernel_rfl) (fun _ _ _ h => h) (Or.inl ⟨by rfl, ?_⟩) (HF.out _ b6) ?_
        · (intro y hy; obtain ⟨_, ⟨y0, y1, y2⟩, y3, y4, y5⟩ := hy; go_simp)
        try simp only [Act.put, List.getElem_toArray, List.getElem_cons_zero, List.getElem_cons_succ, List.setIfInBounds_toArray, List.set_cons_zero, List.set_cons_succ]
        refine wpAnyH_take (i := 12) (v := .bool true) rfl (by kernel_rfl) (by kernel_rfl) (by kernel_rfl) (fun _ _ _ h => h) (Or.inl ⟨by rfl, ?_⟩) (HF.out _ b6) ?_
        · (intro y hy; obtain ⟨_, ⟨y0, y1, y2⟩, y3, y4, y5⟩ := hy; go_simp)
        try simp only [Act.put, List.getElem_toArray, List.getElem_cons_zero, List.getElem_cons_succ, List.setIfInBounds_toArray, List.set_cons_zero, List.set_cons_succ]
        refine wpAnyH_take (i := 13) (v := undef) rfl (by kernel_rfl) (by kernel_rfl) (by kernel_rfl) (fun _ _ _ h => h) (Or.inr ⟨by rfl, rfl⟩) (HF.out _ b6) ?_
        try simp only [Act.put, List.getElem_toArray, List.getElem_cons_zero, List.getElem_cons_succ, List.setIfInBounds_toArray, List.set_cons_zero, List.set_cons_succ]
        refine wpAnyH_take (i := 14) (v := undef) rfl (by kernel_rfl) (by kernel_rfl) (by kernel_rfl) (fun _ _ _ h => h) (Or.inr ⟨by rfl, rfl⟩) (HF.out _ b6) ?_
        try simp only [Act.put, List.getElem_toArray, List.getElem_cons_zero, List.getElem_cons_succ, List.setIfInBounds_toArray, List.set_cons_zero, List.set_cons_succ]
        refine wpAnyH_take (i := 15) (v := undef) rfl (by kernel_rfl) (by kernel_rfl) (by kernel_rfl) (fun _ _ _ h => h) (Or.inr ⟨by rfl, rfl⟩) (HF.out _ b6) ?_
        try simp only [Act.put, List.getElem_toArray, List.getElem_cons_zero, List.getElem_cons_succ, List.setIfInBounds_toArray, List.set_cons_zero, List.set_cons_succ]
        refine wpAnyH_take (i := 16) (v := undef) rfl (by kernel_rfl) (by kernel_rfl) (by kernel_rfl) (fun _ _ _ h => h) (Or.inr ⟨by rfl, rfl⟩) (HF.out _ b6) ?_
        try simp only [Act.put, List.getElem_toArray, List.getElem_cons_zero, List.getElem_cons_succ, List.setIfInBounds_toArray, List.set_cons_zero, List.set_cons_succ]
        refine wpAnyH_take (i := 17) (v := undef) rfl (by kernel_rfl) (by kernel_rfl) (by kernel_rfl) (fun _ _ _ h => h) (Or.inr ⟨by rfl, rfl⟩) (HF.out _ b6) ?_
        try simp only [Act.put, List.getElem_toArray, List.getElem_cons_zero, List.getElem_cons_succ, List.setIfInBounds_toArray, List.set_cons_zero, List.set_cons_succ]
        refine wpAnyH_take (i := 18) (v := .bool true) rfl (by kernel_rfl) (by kernel_rfl) (by kernel_rfl) (fun _ _ _ h => h) (Or.inl ⟨by rfl, ?_⟩) (HF.out _ b6) ?_
        · (intro y hy; obtain ⟨_, ⟨y0, y1, y2⟩, y3, y4, y5⟩ := hy; go_simp)
        try simp only [Act.put, List.getElem_toArray, List.getElem_cons_zero, List.getElem_cons_succ, List.setIfInBounds_toArray, List.set_cons_zero, List.set_cons_succ]
        refine wpAnyH_take (i := 19) (v := .bool true) rfl (by kernel_rfl) (by kernel_rfl) (by kernel_rfl) (fun _ _ _ h => h) (Or.inl ⟨by rfl, ?_⟩) (HF.out _ b6) ?_
        · (intro y hy; obtain ⟨_, ⟨y0, y1, y2⟩, y3, y4, y5⟩ := hy; go_simp)
        try simp only [Act.put, List.getElem_toArray, List.getElem_cons_zero, List.getElem_cons_succ, List.setIfInBounds_toArray, List.set_cons_zero, List.set_cons_succ]
        refine wpAnyH_take (i := 20) (v := .bool true) rfl (by kernel_rfl) (by kernel_rfl) (by kernel_rfl) (fun _ _ _ h => h) (Or.inl ⟨by rfl, ?_⟩) (HF.out _ b6) ?_
        · (intro y hy; obtain ⟨_, ⟨y0, y1, y2⟩, y3, y4, y5⟩ := hy; go_simp)
        try simp only [Act.put, List.getElem_toArray, List.getElem_cons_zero, List.getElem_cons_succ, List.setIfInBounds_toArray, List.set_cons_zero, List.set_cons_succ]
        refine wpAnyH_done (by kernel_rfl) ?_ _
        go_wp2
        go_ret
        exact ⟨by first | rfl | exact retb (by simp), HB.out.trans ((HBV.out.trans (b6.mono HBV.out.size)).mono HB.out.size)⟩
      · go_region_held3 (fun y => Below V.heap.size V y ∧ (y.cell? ⟨W.heap.size, 0, none⟩ = some (.int .i64 r.area) ∧ y.cell? ⟨W.heap.size, 1, none⟩ = some (.int .i64 r.job) ∧ y.cell? ⟨W.heap.size, 2, none⟩ = some (.int .i64 r.sex)) ∧ y.cell? ⟨w3.heap.size, 0, none⟩ = some (.int .i64 0) ∧ y.cell? ⟨w3.heap.size, 1, none⟩ = some (.int .i64 0) ∧ y.cell? ⟨w3.heap.size, 2, none⟩ = some (.int .i64 0))
          (first | exact HF.out _ (by assumption) | exact HF.out _ bd)
          (first
            | (go_at_call 27
               with_reducible refine (iGMany_is V x out HLV.out ll _ HUV.out ⟨0, 0, 0⟩ A1 G1.out _ bd).mono ?_
               rintro e w5 ⟨rfl, b5⟩)
            | (go_at_call 27
               with_reducible refine (iGMany_is V l _ HVV.out ll _ HUV.out r A2 G2.out _ b5).mono ?_
               rintro e w6 ⟨rfl, b6⟩)
            | (go_at_call 28
               with_reducible refine (iGUniq_is V x out HLV.out ll _ HUV.out ⟨0, 0, 0⟩ _ G3.out _ b6).mono ?_
               rintro e w7 ⟨rfl, b7⟩))
        go_wp2
        go_ret
        exact ⟨by first | rfl | exact retb (by simp), HB.out.trans ((HBV.out.trans (b7.mono HBV.out.size)).mono HB.out.size)⟩
end Go.Proofs.Yteelbmbedcfkdaa
