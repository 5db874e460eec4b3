/- Laws of chapter 4 on kept people. -/
import Derived.Test.YteelbmbedcfkdaaAI2
import Derived.Test.YteelbmbedcfkdaaAS
import Derived.Test.YteelbmbedcfkdaaAD
import Derived.Test.YteelbmbedcfkdaaA2
import Derived.Test.YteelbmbedcfkdaaA4
import Derived.Deep.RegionHeld3
namespace Go.Proofs.Yteelbmbedcfkdaa
open Go.RowKit
set_option maxHeartbeats 4000000 in
theorem w_Keep (A : Option Addr) (n c : Nat) (hnc : n ≤ c) (hn : n ≤ maxLen) (w : World) (hb : Bytes w w.heap.size A n) :
    Calls Try.prog 6 #[.slice A n c] w fun e w' => e = .returned (.bool true) ∧ Below w.heap.size w w' := by
  have hn2 := hn
  unfold maxLen at hn2
  rcases (show 1048576 < n ∨ ¬ 1048576 < n by omega) with hbig | hbig
  · go_enter Try.func6, Try.ntmps6
    go_wp2
    go_ret
    exact ⟨rfl, Below.refl _ _⟩
  · go_enter Try.func6, Try.ntmps6
    go_wp2_with fail
    refine (dAnonKeep_any A n c hnc hn _ hb).mono ?_
    rintro e W ⟨l, v, ll, u, r, k, rfl, hv, hu, hl, hll, _, k0, k1, hbW⟩
    obtain ⟨W1, hW⟩ : ∃ W1, W1 = W.alloc (.cells #[.int .i64 r.area, .int .i64 r.job, .int .i64 r.sex] TRc) := ⟨_, rfl⟩
    have hb1 : Below W.heap.size W W1 := by rw [hW]; exact (Below.refl _ _).alloc (Nat.le_refl _) _
    have hzW : W.heap.size < W1.heap.size := by rw [hW]; simp
    have e0 : W1.cell? ⟨W.heap.size, 0, none⟩ = some (.int .i64 r.area) := by rw [hW]; simp [go_sem]
    have e1 : W1.cell? ⟨W.heap.size, 1, none⟩ = some (.int .i64 r.job) := by rw [hW]; simp [go_sem]
    have e2 : W1.cell? ⟨W.heap.size, 2, none⟩ = some (.int .i64 r.sex) := by rw [hW]; simp [go_sem]
    have HC := Lib.hid (show ∀ w', Below W1.heap.size W1 w' → w'.cell? ⟨W.heap.size, 0, none⟩ = some (.int .i64 r.area) ∧ w'.cell? ⟨W.heap.size, 1, none⟩ = some (.int .i64 r.job) ∧ w'.cell? ⟨W.heap.size, 2, none⟩ = some (.int .i64 r.sex) from
      fun w' h => ⟨(h.cell (p := ⟨W.heap.size, 0, none⟩) hzW).trans e0, (h.cell (p := ⟨W.heap.size, 1, none⟩) hzW).trans e1, (h.cell (p := ⟨W.heap.size, 2, none⟩) hzW).trans e2⟩)
    have HV := Lib.hid (hv.below hb1)
    have HU := Lib.hid (hu.below hb1)
    have HB := Lib.hid (hbW.trans (hb1.mono hbW.size))
    have b0 := Below.refl W1.heap.size W1
    clear e0 e1 e2 hv hu hbW hb hb1
    cases hok : adOk l ll r k
    · have HR := Lib.hid (akeep_no hok)
      have HOK := Lib.hid hok; clear hok
      go_wp2_with fail
      rw [← hW]
      clear hW
      refine (iAKeep_is W1 l _ HV.out ll _ (HU.out.below b0) r k ([]) false HR.out HOK.out _ (Below.refl _ _)).mono ?_
      rintro e w1 ⟨out, rfl, hy, h1⟩
      have b1 := b0.trans (h1.mono b0.size)
      have Lout_1 := Lib.hid hy.is
      clear hy h1
      obtain ⟨c0, c1, c2⟩ := HC.out _ b1
      go_wp2_with fail
      refine (sAKeep_is w1 l _ (HV.out.below b1) ll _ (HU.out.below b1) r k ([]) false HR.out HOK.out _ (Below.refl _ _)).mono ?_
      rintro e w2 ⟨want, rfl, hy, h2⟩
      have b2 := b1.trans (h2.mono b1.size)
      have Lout_2 := Lib.hid (Lout_1.out.below h2)
      clear Lout_1
      have Lwant_2 := Lib.hid hy.is
      clear hy h2
      go_wp2_with fail
      refine (sameP_is w2 ([]) out want (by simp) Lout_2.out Lwant_2.out _ (Below.refl _ _)).mono ?_
      rintro e w3 ⟨rfl, h3⟩
      have b3 := b2.trans (h3.mono b2.size)
      have Lout_3 := Lib.hid (Lout_2.out.below h3)
      clear Lout_2
      have Lwant_3 := Lib.hid (Lwant_2.out.below h3)
      clear Lwant_2
      clear h3
      go_wp2_with fail
      refine (sameP_is w3 ([]) out want (by simp) Lout_3.out Lwant_3.out _ (Below.refl _ _)).mono ?_
      rintro e w4 ⟨rfl, h4⟩
      have b4 := b3.trans (h4.mono b3.size)
      have Lout_4 := Lib.hid (Lout_3.out.below h4)
      clear Lout_3
      have Lwant_4 := Lib.hid (Lwant_3.out.below h4)
      clear Lwant_3
      clear h4
      go_wp2
      go_ret
      exact ⟨by first | rfl | exact retb (by simp) | exact retb (by simp; omega), HB.out.trans (b4.mono HB.out.size)⟩
    · have HOK := Lib.hid hok
      obtain ⟨m1, m2, m3, m4⟩ := m_keep hok
      have hxl := akeep_len l ll r k
      obtain ⟨x, hx⟩ : ∃ x, akeep l ll r k = x := ⟨_, rfl⟩
      obtain ⟨D, hD⟩ : ∃ D, adrop l ll r k = D := ⟨_, rfl⟩
      rw [hx] at m1 m2 m3 m4 hxl
      rw [hD] at m3
      have HR := Lib.hid hx; have HD := Lib.hid hD; have M1 := Lib.hid m1; have M2 := Lib.hid m2; have M4 := Lib.hid m4
      have HLN := Lib.hid (show x.length ≤ 1000000 by omega)
      have hD0 : 0 ≤ D ∧ D ≤ 10 := by omega
      have hbe : ((x.length : Int) == (l.length : Int) - D) = true := by rw [beq_iff_eq]; exact m3
      have HBE := Lib.hid hbe
      clear hx hD m1 m2 m3 m4 hbe
      obtain ⟨Av, cv, hv2, _, _, _⟩ := HV.out
      subst hv2
      clear hok
      go_wp2_with fail
      rw [← hW]
      clear hW
      refine (iAKeep_is W1 l _ HV.out ll _ (HU.out.below b0) r k (x) true HR.out HOK.out _ (Below.refl _ _)).mono ?_
      rintro e w1 ⟨out, rfl, hy, h1⟩
      have b1 := b0.trans (h1.mono b0.size)
      have Lout_1 := Lib.hid hy.is
      clear hy h1
      obtain ⟨c0, c1, c2⟩ := HC.out _ b1
      go_wp2_with fail
      refine (sAKeep_is w1 l _ (HV.out.below b1) ll _ (HU.out.below b1) r k (x) true HR.out HOK.out _ (Below.refl _ _)).mono ?_
      rintro e w2 ⟨want, rfl, hy, h2⟩
      have b2 := b1.trans (h2.mono b1.size)
      have Lout_2 := Lib.hid (Lout_1.out.below h2)
      clear Lout_1
      have Lwant_2 := Lib.hid hy.is
      clear hy h2
      clear c0 c1 c2
      obtain ⟨c0, c1, c2⟩ := HC.out _ b2
      go_wp2_with fail
      refine (sameP_is w2 (x) out want HLN.out Lout_2.out Lwant_2.out _ (Below.refl _ _)).mono ?_
      rintro e w3 ⟨rfl, h3⟩
      have b3 := b2.trans (h3.mono b2.size)
      have Lout_3 := Lib.hid (Lout_2.out.below h3)
      clear Lout_2
      have Lwant_3 := Lib.hid (Lwant_2.out.below h3)
      clear Lwant_2
      clear h3
      clear Lwant_3
      obtain ⟨Ao, co, hov, _, _, _⟩ := Lout_3.out
      subst hov
      go_wp2_with fail
      refine (iAKeep_is w3 x _ Lout_3.out ll _ (HU.out.below b3) rlow k (x) true M1.out M2.out _ (Below.refl _ _)).mono ?_
      rintro e w4 ⟨yy, rfl, hy, h4⟩
      have b4 := b3.trans (h4.mono b3.size)
      have Lout_4 := Lib.hid (Lout_3.out.below h4)
      clear Lout_3
      have Lyy_4 := Lib.hid hy.is
      clear hy h4
      go_wp2_with fail
      refine (sameP_is w4 (x) yy _ HLN.out Lyy_4.out Lout_4.out _ (Below.refl _ _)).mono ?_
      rintro e w5 ⟨rfl, h5⟩
      have b5 := b4.trans (h5.mono b4.size)
      have Lout_5 := Lib.hid (Lout_4.out.below h5)
      clear Lout_4
      have Lyy_5 := Lib.hid (Lyy_4.out.below h5)
      clear Lyy_4
      clear h5
      clear c0 c1 c2
      obtain ⟨c0, c1, c2⟩ := HC.out _ b5
      go_wp2_with fail
      refine (iADrop_is w5 l _ (HV.out.below b5) ll _ (HU.out.below b5) r k D HD.out _ (Below.refl _ _)).mono ?_
      rintro e w6 ⟨rfl, h6⟩
      have b6 := b5.trans (h6.mono b5.size)
      have Lout_6 := Lib.hid (Lout_5.out.below h6)
      clear Lout_5
      have Lyy_6 := Lib.hid (Lyy_5.out.below h6)
      clear Lyy_5
      clear h6
      have hbe := HBE.out
      go_wp2_with fail
      refine (iAOk_is w6 x _ Lout_6.out ll _ (HU.out.below b6) rlow k true M4.out _ (Below.refl _ _)).mono ?_
      rintro e w7 ⟨rfl, h7⟩
      have b7 := b6.trans (h7.mono b6.size)
      have Lout_7 := Lib.hid (Lout_6.out.below h7)
      clear Lout_6
      have Lyy_7 := Lib.hid (Lyy_6.out.below h7)
      clear Lyy_6
      clear h7
      go_wp2
      go_ret
      exact ⟨by first | rfl | exact retb (by simp [hbe]), HB.out.trans (b7.mono HB.out.size)⟩
set_option maxHeartbeats 4000000 in
theorem w_KeepLess (A : Option Addr) (n c : Nat) (hnc : n ≤ c) (hn : n ≤ maxLen) (w : World) (hb : Bytes w w.heap.size A n) :
    Calls Try.prog 13 #[.slice A n c] w fun e w' => e = .returned (.bool true) ∧ Below w.heap.size w w' := by
  have hn2 := hn
  unfold maxLen at hn2
  rcases (show 1048576 < n ∨ ¬ 1048576 < n by omega) with hbig | hbig
  · go_enter Try.func13, Try.ntmps13
    go_wp2
    go_ret
    exact ⟨rfl, Below.refl _ _⟩
  · go_enter Try.func13, Try.ntmps13
    go_wp2_with fail
    refine (dAnonKeep_any A n c hnc hn _ hb).mono ?_
    rintro e W ⟨l, v, ll, u, r, k, rfl, hv, hu, hl, hll, _, k0, k1, hbW⟩
    obtain ⟨W1, hW⟩ : ∃ W1, W1 = W.alloc (.cells #[.int .i64 r.area, .int .i64 r.job, .int .i64 r.sex] TRc) := ⟨_, rfl⟩
    have hb1 : Below W.heap.size W W1 := by rw [hW]; exact (Below.refl _ _).alloc (Nat.le_refl _) _
    have hzW : W.heap.size < W1.heap.size := by rw [hW]; simp
    have e0 : W1.cell? ⟨W.heap.size, 0, none⟩ = some (.int .i64 r.area) := by rw [hW]; simp [go_sem]
    have e1 : W1.cell? ⟨W.heap.size, 1, none⟩ = some (.int .i64 r.job) := by rw [hW]; simp [go_sem]
    have e2 : W1.cell? ⟨W.heap.size, 2, none⟩ = some (.int .i64 r.sex) := by rw [hW]; simp [go_sem]
    have HC := Lib.hid (show ∀ w', Below W1.heap.size W1 w' → w'.cell? ⟨W.heap.size, 0, none⟩ = some (.int .i64 r.area) ∧ w'.cell? ⟨W.heap.size, 1, none⟩ = some (.int .i64 r.job) ∧ w'.cell? ⟨W.heap.size, 2, none⟩ = some (.int .i64 r.sex) from
      fun w' h => ⟨(h.cell (p := ⟨W.heap.size, 0, none⟩) hzW).trans e0, (h.cell (p := ⟨W.heap.size, 1, none⟩) hzW).trans e1, (h.cell (p := ⟨W.heap.size, 2, none⟩) hzW).trans e2⟩)
    have HV := Lib.hid (hv.below hb1)
    have HU := Lib.hid (hu.below hb1)
    have HB := Lib.hid (hbW.trans (hb1.mono hbW.size))
    have b0 := Below.refl W1.heap.size W1
    clear e0 e1 e2 hv hu hbW hb hb1
    cases hok : adOk l ll r k
    · have HR := Lib.hid (akeep_no hok)
      have HOK := Lib.hid hok; clear hok
      go_wp2_with fail
      rw [← hW]
      clear hW
      refine (iAKeep_is W1 l _ HV.out ll _ (HU.out.below b0) r k ([]) false HR.out HOK.out _ (Below.refl _ _)).mono ?_
      rintro e w1 ⟨out, rfl, hy, h1⟩
      have b1 := b0.trans (h1.mono b0.size)
      have Lout_1 := Lib.hid hy.is
      clear hy h1
      obtain ⟨c0, c1, c2⟩ := HC.out _ b1
      go_wp2_with fail
      refine (sAKeep_is w1 l _ (HV.out.below b1) ll _ (HU.out.below b1) r k ([]) false HR.out HOK.out _ (Below.refl _ _)).mono ?_
      rintro e w2 ⟨want, rfl, hy, h2⟩
      have b2 := b1.trans (h2.mono b1.size)
      have Lout_2 := Lib.hid (Lout_1.out.below h2)
      clear Lout_1
      have Lwant_2 := Lib.hid hy.is
      clear hy h2
      go_wp2_with fail
      refine (sameP_is w2 ([]) out want (by simp) Lout_2.out Lwant_2.out _ (Below.refl _ _)).mono ?_
      rintro e w3 ⟨rfl, h3⟩
      have b3 := b2.trans (h3.mono b2.size)
      have Lout_3 := Lib.hid (Lout_2.out.below h3)
      clear Lout_2
      have Lwant_3 := Lib.hid (Lwant_2.out.below h3)
      clear Lwant_2
      clear h3
      go_wp2_with fail
      refine (sameP_is w3 ([]) out want (by simp) Lout_3.out Lwant_3.out _ (Below.refl _ _)).mono ?_
      rintro e w4 ⟨rfl, h4⟩
      have b4 := b3.trans (h4.mono b3.size)
      have Lout_4 := Lib.hid (Lout_3.out.below h4)
      clear Lout_3
      have Lwant_4 := Lib.hid (Lwant_3.out.below h4)
      clear Lwant_3
      clear h4
      go_wp2
      go_ret
      exact ⟨by first | rfl | exact retb (by simp) | exact retb (by simp; omega), HB.out.trans (b4.mono HB.out.size)⟩
    · have HOK := Lib.hid hok
      have hxl := akeep_len l ll r k
      have hk1 := (ad_parts.1 hok).2.2
      have hm := fun h => m_keepLess hok h
      obtain ⟨x, hx⟩ : ∃ x, akeep l ll r k = x := ⟨_, rfl⟩
      rw [hx] at hxl hm
      have HR := Lib.hid hx; have HM := Lib.hid hm
      have HLN := Lib.hid (show x.length ≤ 1000000 by omega)
      clear hx hm
      obtain ⟨Av, cv, hv2, _, _, _⟩ := HV.out
      subst hv2
      clear hok
      go_wp2_with fail
      rw [← hW]
      clear hW
      refine (iAKeep_is W1 l _ HV.out ll _ (HU.out.below b0) r k (x) true HR.out HOK.out _ (Below.refl _ _)).mono ?_
      rintro e w1 ⟨out, rfl, hy, h1⟩
      have b1 := b0.trans (h1.mono b0.size)
      have Lout_1 := Lib.hid hy.is
      clear hy h1
      obtain ⟨c0, c1, c2⟩ := HC.out _ b1
      go_wp2_with fail
      refine (sAKeep_is w1 l _ (HV.out.below b1) ll _ (HU.out.below b1) r k (x) true HR.out HOK.out _ (Below.refl _ _)).mono ?_
      rintro e w2 ⟨want, rfl, hy, h2⟩
      have b2 := b1.trans (h2.mono b1.size)
      have Lout_2 := Lib.hid (Lout_1.out.below h2)
      clear Lout_1
      have Lwant_2 := Lib.hid hy.is
      clear hy h2
      clear c0 c1 c2
      obtain ⟨c0, c1, c2⟩ := HC.out _ b2
      go_wp2_with fail
      refine (sameP_is w2 (x) out want HLN.out Lout_2.out Lwant_2.out _ (Below.refl _ _)).mono ?_
      rintro e w3 ⟨rfl, h3⟩
      have b3 := b2.trans (h3.mono b2.size)
      have Lout_3 := Lib.hid (Lout_2.out.below h3)
      clear Lout_2
      have Lwant_3 := Lib.hid (Lwant_2.out.below h3)
      clear Lwant_2
      clear h3
      clear Lwant_3
      obtain ⟨Ao, co, hov, _, _, _⟩ := Lout_3.out
      subst hov
      have hkc : k = 40 ∨ ((k == 40) = false ∧ k < 40) := by
        by_cases h : k = 40
        · exact .inl h
        · right; rw [beq_eq_false_iff_ne]; omega
      rcases hkc with rfl | ⟨hkb, hkl⟩
      · go_wp2
        go_ret
        exact ⟨by first | rfl | exact retb (by simp) | exact retb (by simp; omega), HB.out.trans (b3.mono HB.out.size)⟩
      · obtain ⟨m1, m2, m3, m4⟩ := HM.out hkl
        obtain ⟨t, ht⟩ : ∃ t, akeep l ll r (k + 1) = t := ⟨_, rfl⟩
        rw [ht] at m3 m4
        have M1 := Lib.hid m1; have M2 := Lib.hid m2; have M3 := Lib.hid m3; have HT := Lib.hid ht
        have HTL := Lib.hid (show t.length ≤ 1000000 by omega)
        clear m1 m2 m3 ht
        clear c0 c1 c2
        obtain ⟨c0, c1, c2⟩ := HC.out _ b3
        go_wp2_with fail
        refine (iAKeep_is w3 l _ (HV.out.below b3) ll _ (HU.out.below b3) r (k + 1) (t) true HT.out M1.out _ (Below.refl _ _)).mono ?_
        rintro e w4 ⟨yy, rfl, hy, h4⟩
        have b4 := b3.trans (h4.mono b3.size)
        have Lout_4 := Lib.hid (Lout_3.out.below h4)
        clear Lout_3
        have Lyy_4 := Lib.hid hy.is
        clear hy h4
        obtain ⟨Ay, cy, hyv, _, _, _⟩ := Lyy_4.out
        subst hyv
        go_wp2_with fail
        refine (iAKeep_is w4 x _ Lout_4.out ll _ (HU.out.below b4) rlow (k + 1) (t) true M3.out M2.out _ (Below.refl _ _)).mono ?_
        rintro e w5 ⟨zz, rfl, hy, h5⟩
        have b5 := b4.trans (h5.mono b4.size)
        have Lout_5 := Lib.hid (Lout_4.out.below h5)
        clear Lout_4
        have Lyy_5 := Lib.hid (Lyy_4.out.below h5)
        clear Lyy_4
        have Lzz_5 := Lib.hid hy.is
        clear hy h5
        go_wp2_with fail
        refine (sameP_is w5 (t) _ zz HTL.out Lyy_5.out Lzz_5.out _ (Below.refl _ _)).mono ?_
        rintro e w6 ⟨rfl, h6⟩
        have b6 := b5.trans (h6.mono b5.size)
        have Lout_6 := Lib.hid (Lout_5.out.below h6)
        clear Lout_5
        have Lyy_6 := Lib.hid (Lyy_5.out.below h6)
        clear Lyy_5
        have Lzz_6 := Lib.hid (Lzz_5.out.below h6)
        clear Lzz_5
        clear h6
        go_wp2
        go_ret
        exact ⟨by first | rfl | exact retb (by simp) | exact retb (by simp; omega), HB.out.trans (b6.mono HB.out.size)⟩
end Go.Proofs.Yteelbmbedcfkdaa
