/- Laws of chapter 5 on diverse people. -/
import Derived.Test.YtodiadipbpchpaaDI7
import Derived.Test.YtodiadipbpchpaaDS3
import Derived.Test.YtodiadipbpchpaaDM3
import Derived.Test.YtodiadipbpchpaaDD
import Derived.Test.YtodiadipbpchpaaA2
import Derived.Test.YtodiadipbpchpaaA4
set_option maxRecDepth 100000
namespace Go.Proofs.Ytodiadipbpchpaa
open Go.RowKit
set_option maxHeartbeats 4000000 in
theorem w_DiverseOk (A : Option Addr) (n c : Nat) (hnc : n ≤ c) (hn : n ≤ maxLen) (w : World) (hb : Bytes w w.heap.size A n) :
    Calls Try.prog 3 #[.slice A n c] w fun e w' => e = .returned (.bool true) ∧ Below w.heap.size w w' := by
  have hn2 := hn
  unfold maxLen at hn2
  rcases (show 1048576 < n ∨ ¬ 1048576 < n by omega) with hbig | hbig
  · go_enter Try.func3, Try.ntmps3
    go_wp2
    go_ret
    exact ⟨rfl, Below.refl _ _⟩
  · go_enter Try.func3, Try.ntmps3
    go_wp2_with fail
    refine (dDivOk_any A n c hnc hn _ hb).mono ?_
    rintro e W ⟨l, v, ll, u, r, k, t, rfl, hv, hu, hl, hll, _, k0, k1, t0, t1, hbW⟩
    obtain ⟨W1, hW⟩ : ∃ W1, W1 = W.alloc (.cells #[.int .i64 r.area, .int .i64 r.job, .int .i64 r.sex] TRc) := ⟨_, rfl⟩
    have hb1 : Below W.heap.size W W1 := by rw [hW]; exact (Below.refl _ _).alloc (Nat.le_refl _) _
    have hzW : W.heap.size < W1.heap.size := by rw [hW]; simp
    have e0 : W1.cell? ⟨W.heap.size, 0, none⟩ = some (.int .i64 r.area) := by rw [hW]; simp [go_sem]
    have e1 : W1.cell? ⟨W.heap.size, 1, none⟩ = some (.int .i64 r.job) := by rw [hW]; simp [go_sem]
    have e2 : W1.cell? ⟨W.heap.size, 2, none⟩ = some (.int .i64 r.sex) := by rw [hW]; simp [go_sem]
    have HC := Lib.hid (show ∀ w', Below W1.heap.size W1 w' → w'.cell? ⟨W.heap.size, 0, none⟩ = some (.int .i64 r.area) ∧ w'.cell? ⟨W.heap.size, 1, none⟩ = some (.int .i64 r.job) ∧ w'.cell? ⟨W.heap.size, 2, none⟩ = some (.int .i64 r.sex) from
      fun w' h => ⟨(h.cell (p := ⟨W.heap.size, 0, none⟩) hzW).trans e0, (h.cell (p := ⟨W.heap.size, 1, none⟩) hzW).trans e1, (h.cell (p := ⟨W.heap.size, 2, none⟩) hzW).trans e2⟩)
    have HV := Lib.hid (hv.below hb1)
    have HU := Lib.hid (hu.below hb1)
    have HB := Lib.hid (hbW.trans (hb1.mono hbW.size))
    have b0 := Below.refl W1.heap.size W1
    clear e0 e1 e2 hv hu hbW hb hb1
    cases hok : dok l ll r k t
    · have HG := Lib.hid hok
      clear hok
      go_wp2_with fail
      rw [← hW]
      clear hW
      refine (iDOk_is W1 l _ HV.out ll _ HU.out r k t false HG.out _ b0).mono ?_
      rintro e w1 ⟨rfl, b1⟩
      obtain ⟨c0, c1, c2⟩ := HC.out _ b1
      go_wp2_with fail
      refine (sDOk_is W1 l _ HV.out ll _ HU.out r k t false HG.out _ b1).mono ?_
      rintro e w2 ⟨rfl, b2⟩
      go_wp2
      go_ret
      exact ⟨by first | rfl | exact retb (by simp) | exact retb (by simp; omega), HB.out.trans (b2.mono HB.out.size)⟩
    · have HG := Lib.hid hok
      obtain ⟨m1, m2, m3⟩ := m_diverseOk hok
      obtain ⟨L, hL⟩ : ∃ L, dleast l ll r = L := ⟨_, rfl⟩
      rw [hL] at m2
      have HL := Lib.hid hL; have HA := Lib.hid m1; have HT := Lib.hid m3
      clear hok hL m1 m3
      obtain ⟨Au, cu, hu2, _, _, _⟩ := HU.out
      subst hu2
      obtain ⟨Av, cv, hv2, hd1, hd2, hrow1⟩ := HV.out
      subst hv2
      have hcase : (l.length = 0) ∨ (((l.length : Int) == 0) = false ∧ t ≤ L) := by
        by_cases h : l.length = 0
        · exact .inl h
        · right; refine ⟨by rw [beq_eq_false_iff_ne]; omega, ?_⟩
          exact m2.resolve_left h
      obtain ⟨q, hq⟩ : ∃ q, l.length = q := ⟨_, rfl⟩
      rw [hq] at HV hl hcase ⊢
      clear hq m2
      go_wp2_with fail
      rw [← hW]
      clear hW
      refine (iDOk_is W1 l _ HV.out ll _ HU.out r k t true HG.out _ b0).mono ?_
      rintro e w1 ⟨rfl, b1⟩
      obtain ⟨c0, c1, c2⟩ := HC.out _ b1
      go_wp2_with fail
      refine (sDOk_is W1 l _ HV.out ll _ HU.out r k t true HG.out _ b1).mono ?_
      rintro e w2 ⟨rfl, b2⟩
      clear c0 c1 c2
      obtain ⟨c0, c1, c2⟩ := HC.out _ b2
      go_wp2_with fail
      refine (iAOk_is W1 l _ HV.out ll _ HU.out r k true HA.out _ b2).mono ?_
      rintro e w3 ⟨rfl, b3⟩
      clear c0 c1 c2
      rcases hcase with hq0 | ⟨hq0, hkL⟩
      · subst hq0
        obtain ⟨c0, c1, c2⟩ := HC.out _ b3
        go_wp2_with fail
        refine (iDOk_is W1 l _ HV.out ll _ HU.out (rtop ll) k t true HT.out _ b3).mono ?_
        rintro e w4 ⟨rfl, b4⟩
        go_wp2
        go_ret
        exact ⟨by first | rfl | exact retb (by simp) | exact retb (by simp; omega), HB.out.trans (b4.mono HB.out.size)⟩
      · obtain ⟨c0, c1, c2⟩ := HC.out _ b3
        go_wp2_with fail
        refine (iDLeast_is W1 l _ HV.out ll _ HU.out r L HL.out _ b3).mono ?_
        rintro e w4 ⟨rfl, b4⟩
        clear c0 c1 c2
        go_wp2_with fail
        refine (iDOk_is W1 l _ HV.out ll _ HU.out (rtop ll) k t true HT.out _ b4).mono ?_
        rintro e w5 ⟨rfl, b5⟩
        go_wp2
        go_ret
        exact ⟨by first | rfl | exact retb (by simp) | exact retb (by simp; omega), HB.out.trans (b5.mono HB.out.size)⟩
set_option maxHeartbeats 4000000 in
theorem w_DiverseLess (A : Option Addr) (n c : Nat) (hnc : n ≤ c) (hn : n ≤ maxLen) (A2 : Option Addr) (m c2 : Nat) (_hmc : m ≤ c2) (hm : m ≤ maxLen) (w : World) (hb : Bytes w w.heap.size A n) (_hb2 : Bytes w w.heap.size A2 m) :
    Calls Try.prog 4 #[.slice A n c, .slice A2 m c2] w fun e w' => e = .returned (.bool true) ∧ Below w.heap.size w w' := by
  have hn2 := hn
  have hm2 := hm
  unfold maxLen at hn2 hm2
  rcases (show 1048576 < n ∨ (¬ 1048576 < n ∧ 1048576 < m) ∨ ¬ 1048576 < n ∧ ¬ 1048576 < m by omega) with hbig | ⟨hbig, hbig2⟩ | ⟨hbig, hbig2⟩
  · go_enter Try.func4, Try.ntmps4
    go_wp2
    go_ret
    exact ⟨rfl, Below.refl _ _⟩
  · go_enter Try.func4, Try.ntmps4
    go_wp2
    go_ret
    exact ⟨rfl, Below.refl _ _⟩
  · go_enter Try.func4, Try.ntmps4
    go_wp2_with fail
    refine (dDivOk_any A n c hnc hn _ hb).mono ?_
    rintro e W ⟨l, v, ll, u, r, k, t, rfl, hv, hu, hl, hll, _, k0, k1, t0, t1, hbW⟩
    obtain ⟨W1, hW⟩ : ∃ W1, W1 = W.alloc (.cells #[.int .i64 r.area, .int .i64 r.job, .int .i64 r.sex] TRc) := ⟨_, rfl⟩
    have hb1 : Below W.heap.size W W1 := by rw [hW]; exact (Below.refl _ _).alloc (Nat.le_refl _) _
    have hzW : W.heap.size < W1.heap.size := by rw [hW]; simp
    have e0 : W1.cell? ⟨W.heap.size, 0, none⟩ = some (.int .i64 r.area) := by rw [hW]; simp [go_sem]
    have e1 : W1.cell? ⟨W.heap.size, 1, none⟩ = some (.int .i64 r.job) := by rw [hW]; simp [go_sem]
    have e2 : W1.cell? ⟨W.heap.size, 2, none⟩ = some (.int .i64 r.sex) := by rw [hW]; simp [go_sem]
    have HC := Lib.hid (show ∀ w', Below W1.heap.size W1 w' → w'.cell? ⟨W.heap.size, 0, none⟩ = some (.int .i64 r.area) ∧ w'.cell? ⟨W.heap.size, 1, none⟩ = some (.int .i64 r.job) ∧ w'.cell? ⟨W.heap.size, 2, none⟩ = some (.int .i64 r.sex) from
      fun w' h => ⟨(h.cell (p := ⟨W.heap.size, 0, none⟩) hzW).trans e0, (h.cell (p := ⟨W.heap.size, 1, none⟩) hzW).trans e1, (h.cell (p := ⟨W.heap.size, 2, none⟩) hzW).trans e2⟩)
    have HV := Lib.hid (hv.below hb1)
    have HU := Lib.hid (hu.below hb1)
    have HB := Lib.hid (hbW.trans (hb1.mono hbW.size))
    have b0 := Below.refl W1.heap.size W1
    clear e0 e1 e2 hv hu hbW hb hb1
    cases hok : dok l ll r k t
    · have HG := Lib.hid hok
      clear hok
      go_wp2_with fail
      rw [← hW]
      clear hW
      refine (iDOk_is W1 l _ HV.out ll _ HU.out r k t false HG.out _ b0).mono ?_
      rintro e w1 ⟨rfl, b1⟩
      obtain ⟨c0, c1, c2⟩ := HC.out _ b1
      go_wp2_with fail
      refine (sDOk_is W1 l _ HV.out ll _ HU.out r k t false HG.out _ b1).mono ?_
      rintro e w2 ⟨rfl, b2⟩
      go_wp2
      go_ret
      exact ⟨by first | rfl | exact retb (by simp) | exact retb (by simp; omega), HB.out.trans (b2.mono HB.out.size)⟩
    · have HG := Lib.hid hok
      obtain ⟨m1, m2, m3, m4, m5⟩ := m_diverseLess hok
      have hj0 := Int.emod_nonneg (m : Int) (show k ≠ 0 by omega)
      have hj1 := Int.emod_lt_of_pos (m : Int) (show 0 < k by omega)
      have hi0 := Int.emod_nonneg ((m : Int) / 7) (show t ≠ 0 by omega)
      have hi1 := Int.emod_lt_of_pos ((m : Int) / 7) (show 0 < t by omega)
      obtain ⟨j, hj⟩ : ∃ j, (m : Int) % k = j := ⟨_, rfl⟩
      obtain ⟨i, hi⟩ : ∃ i, (m : Int) / 7 % t = i := ⟨_, rfl⟩
      rw [hj] at hj0 hj1
      rw [hi] at hi0 hi1
      have HJ := Lib.hid (show wrap64 (1 + (m : Int) % k) = 1 + j by rw [hj]; exact IntWalk.wrap64_in _ (by omega))
      have HI := Lib.hid (show wrap64 (1 + (m : Int) / 7 % t) = 1 + i by rw [hi]; exact IntWalk.wrap64_in _ (by omega))
      have HA := Lib.hid (m5 (1 + j) (1 + i) (by omega) (by omega) (by omega) (by omega))
      have hkn : ¬ k = 0 := by omega
      have htn : ¬ t = 0 := by omega
      clear hok hj hi m5
      go_wp2_with fail
      rw [← hW]
      clear hW
      refine (iDOk_is W1 l _ HV.out ll _ HU.out r k t true HG.out _ b0).mono ?_
      rintro e w1 ⟨rfl, b1⟩
      obtain ⟨c0, c1, c2⟩ := HC.out _ b1
      go_wp2_with fail
      refine (sDOk_is W1 l _ HV.out ll _ HU.out r k t true HG.out _ b1).mono ?_
      rintro e w2 ⟨rfl, b2⟩
      clear c0 c1 c2
      obtain ⟨c0, c1, c2⟩ := HC.out _ b2
      go_wp2_with fail
      rw [HJ.out, HI.out]
      refine (iDOk_is W1 l _ HV.out ll _ HU.out r (1 + j) (1 + i) true HA.out _ b2).mono ?_
      rintro e w3 ⟨rfl, b3⟩
      go_wp2
      go_ret
      exact ⟨by first | rfl | exact retb (by simp) | exact retb (by simp; omega), HB.out.trans (b3.mono HB.out.size)⟩
set_option maxHeartbeats 4000000 in
theorem w_DiverseJoin (A : Option Addr) (n c : Nat) (hnc : n ≤ c) (hn : n ≤ maxLen) (w : World) (hb : Bytes w w.heap.size A n) :
    Calls Try.prog 5 #[.slice A n c] w fun e w' => e = .returned (.bool true) ∧ Below w.heap.size w w' := by
  have hn2 := hn
  unfold maxLen at hn2
  rcases (show 1048576 < n ∨ ¬ 1048576 < n by omega) with hbig | hbig
  · go_enter Try.func5, Try.ntmps5
    go_wp2
    go_ret
    exact ⟨rfl, Below.refl _ _⟩
  · go_enter Try.func5, Try.ntmps5
    go_wp2_with fail
    refine (dDivOk_any A n c hnc hn _ hb).mono ?_
    rintro e W ⟨l, v, ll, u, r, k, t, rfl, hv, hu, hl, hll, _, k0, k1, t0, t1, hbW⟩
    obtain ⟨W1, hW⟩ : ∃ W1, W1 = W.alloc (.cells #[.int .i64 r.area, .int .i64 r.job, .int .i64 r.sex] TRc) := ⟨_, rfl⟩
    have hb1 : Below W.heap.size W W1 := by rw [hW]; exact (Below.refl _ _).alloc (Nat.le_refl _) _
    have hzW : W.heap.size < W1.heap.size := by rw [hW]; simp
    have e0 : W1.cell? ⟨W.heap.size, 0, none⟩ = some (.int .i64 r.area) := by rw [hW]; simp [go_sem]
    have e1 : W1.cell? ⟨W.heap.size, 1, none⟩ = some (.int .i64 r.job) := by rw [hW]; simp [go_sem]
    have e2 : W1.cell? ⟨W.heap.size, 2, none⟩ = some (.int .i64 r.sex) := by rw [hW]; simp [go_sem]
    have HC := Lib.hid (show ∀ w', Below W1.heap.size W1 w' → w'.cell? ⟨W.heap.size, 0, none⟩ = some (.int .i64 r.area) ∧ w'.cell? ⟨W.heap.size, 1, none⟩ = some (.int .i64 r.job) ∧ w'.cell? ⟨W.heap.size, 2, none⟩ = some (.int .i64 r.sex) from
      fun w' h => ⟨(h.cell (p := ⟨W.heap.size, 0, none⟩) hzW).trans e0, (h.cell (p := ⟨W.heap.size, 1, none⟩) hzW).trans e1, (h.cell (p := ⟨W.heap.size, 2, none⟩) hzW).trans e2⟩)
    have HV := Lib.hid (hv.below hb1)
    have HU := Lib.hid (hu.below hb1)
    have HB := Lib.hid (hbW.trans (hb1.mono hbW.size))
    have b0 := Below.refl W1.heap.size W1
    clear e0 e1 e2 hv hu hbW hb hb1
    cases hok : dok l ll r k t
    · have HG := Lib.hid hok
      clear hok
      go_wp2_with fail
      rw [← hW]
      clear hW
      refine (iDOk_is W1 l _ HV.out ll _ HU.out r k t false HG.out _ b0).mono ?_
      rintro e w1 ⟨rfl, b1⟩
      obtain ⟨c0, c1, c2⟩ := HC.out _ b1
      go_wp2_with fail
      refine (sDOk_is W1 l _ HV.out ll _ HU.out r k t false HG.out _ b1).mono ?_
      rintro e w2 ⟨rfl, b2⟩
      go_wp2
      go_ret
      exact ⟨by first | rfl | exact retb (by simp) | exact retb (by simp; omega), HB.out.trans (b2.mono HB.out.size)⟩
    · have HG := Lib.hid hok
      have HA := Lib.hid (m_dJoin hok (show 2 * l.length ≤ 40 by omega))
      clear hok
      obtain ⟨Au, cu, hu2, _, _, _⟩ := HU.out
      subst hu2
      obtain ⟨Av, cv, hv2, hd1, hd2, hrow1⟩ := HV.out
      subst hv2
      have h2l : ¬ (40 : Int) < (l.length : Int) + (l.length : Int) := by omega
      go_wp2_with fail
      rw [← hW]
      clear hW
      refine (iDOk_is W1 l _ HV.out ll _ HU.out r k t true HG.out _ b0).mono ?_
      rintro e w1 ⟨rfl, b1⟩
      obtain ⟨c0, c1, c2⟩ := HC.out _ b1
      go_wp2_with fail
      refine (sDOk_is W1 l _ HV.out ll _ HU.out r k t true HG.out _ b1).mono ?_
      rintro e w2 ⟨rfl, b2⟩
      clear c0 c1 c2
      obtain ⟨c0, c1, c2⟩ := HC.out _ b2
      clear c0 c1 c2
      have hrow2 : Row w2 w2.heap.size Av (pcells l) := (hrow1.below b2 (Nat.le_refl _)).more b2.size
      have o0 : Own (w2.alloc (.cells #[] TP)) w2.heap.size (.slice (some ⟨w2.heap.size, 0, none⟩) 0 0) [] := own_new w2 w2 (Below.refl _ _)
      have b0' : Below w2.heap.size w2 (w2.alloc (.cells #[] TP)) := (Below.refl _ _).alloc (Nat.le_refl _) _
      go_wp2_with (first
        | (at_builtin
           refine appP rfl (.tmp 44) (.tmp 45) rfl w2.heap.size (.slice (some ⟨w2.heap.size, 0, none⟩) 0 0) [] rfl o0 w2.heap.size Av l.length cv l rfl rfl (hrow2.below b0' (Nat.le_refl _)) (by simp; omega) b0'.size ?_
           intro v3 w3 ho3 hg3
           have hb3 : Below w2.heap.size w2 w3 := below_own b0' o0 hg3)
        | (at_builtin
           refine appP rfl (.tmp 46) (.tmp 47) rfl w2.heap.size v3 ([] ++ l) rfl ho3 w2.heap.size Av l.length cv l rfl rfl (hrow2.below hb3 (Nat.le_refl _)) (by simp; omega) hb3.size ?_
           intro v4 w4 ho4 hg4
           have hb4 : Below w2.heap.size w2 w4 := below_own hb3 ho3 hg4
           have b4 : Below W1.heap.size W1 w4 := b2.trans (hb4.mono b2.size)
           have HV4 := Lib.hid (show IsP w4 v4 (l ++ l) by simpa using ho4.isP')
           have HVL := Lib.hid (HV.out.below b4)
           have HU4 := Lib.hid (HU.out.below b4)
           have hz4 : W.heap.size < w4.heap.size := by have := b4.size; omega
           obtain ⟨c0, c1, c2⟩ := HC.out _ b4
           obtain ⟨A4, d4, hv4, _, _, _⟩ := HV4.out
           rw [List.length_append] at hv4
           subst hv4
           clear ho3 hg3 ho4 hg4 hb3 o0 b0' hrow2))
      go_wp2_with fail
      refine (iDOk_is w4 (l ++ l) _ HV4.out ll _ HU4.out r k t true HA.out _ (Below.refl _ _)).mono ?_
      rintro e w5 ⟨rfl, b5⟩
      go_wp2
      go_ret
      exact ⟨by first | rfl | exact retb (by simp) | exact retb (by simp; omega), HB.out.trans ((b4.trans (b5.mono b4.size)).mono HB.out.size)⟩
end Go.Proofs.Ytodiadipbpchpaa
