/- Laws of chapter 5 that ask one number. -/
import Derived.Test.YtaaljmmnfgghfaaDI7
import Derived.Test.YtaaljmmnfgghfaaDS3
import Derived.Test.YtaaljmmnfgghfaaDM3
import Derived.Test.YtaaljmmnfgghfaaDD
import Derived.Test.YtaaljmmnfgghfaaA2
import Derived.Test.YtaaljmmnfgghfaaA4
namespace Go.Proofs.Ytaaljmmnfgghfaa
open Go.RowKit
set_option maxHeartbeats 2000000 in
theorem w_Diverse (A : Option Addr) (n c : Nat) (hnc : n ≤ c) (hn : n ≤ maxLen) (w : World) (hb : Bytes w w.heap.size A n) :
    Calls Try.prog 3 #[.slice A n c] w fun e w' => e = .returned (.bool true) ∧ Below w.heap.size w w' := by
  have hn2 := hn
  unfold maxLen at hn2
  rcases (show 1048576 < n ∨ ¬ 1048576 < n by omega) with hbig | hbig
  · go_enter Try.func3, Try.ntmps3
    go_wp2
    go_ret
    exact ⟨rfl, Below.refl _ _⟩
  · go_enter Try.func3, Try.ntmps3
    go_wp2_with fail
    refine (dDivSize_any A n c hnc hn _ hb).mono ?_
    rintro e W ⟨l, v, ll, u, r, k, rfl, hv, hu, hl, hll, _, _, _, _, hbW⟩
    obtain ⟨W1, hW⟩ : ∃ W1, W1 = W.alloc (.cells #[.int .i64 r.area, .int .i64 r.job, .int .i64 r.sex] TRc) := ⟨_, rfl⟩
    have hb1 : Below W.heap.size W W1 := by rw [hW]; exact (Below.refl _ _).alloc (Nat.le_refl _) _
    have hzW : W.heap.size < W1.heap.size := by rw [hW]; simp
    have e0 : W1.cell? ⟨W.heap.size, 0, none⟩ = some (.int .i64 r.area) := by rw [hW]; simp [go_sem]
    have e1 : W1.cell? ⟨W.heap.size, 1, none⟩ = some (.int .i64 r.job) := by rw [hW]; simp [go_sem]
    have e2 : W1.cell? ⟨W.heap.size, 2, none⟩ = some (.int .i64 r.sex) := by rw [hW]; simp [go_sem]
    have HC := Lib.hid (show ∀ w', Below W1.heap.size W1 w' → w'.cell? ⟨W.heap.size, 0, none⟩ = some (.int .i64 r.area) ∧ w'.cell? ⟨W.heap.size, 1, none⟩ = some (.int .i64 r.job) ∧ w'.cell? ⟨W.heap.size, 2, none⟩ = some (.int .i64 r.sex) from
      fun w' h => ⟨(h.cell (p := ⟨W.heap.size, 0, none⟩) hzW).trans e0, (h.cell (p := ⟨W.heap.size, 1, none⟩) hzW).trans e1, (h.cell (p := ⟨W.heap.size, 2, none⟩) hzW).trans e2⟩)
    have HV := Lib.hid (hv.below hb1)
    have HU := Lib.hid (hu.below hb1)
    have HB := Lib.hid (hbW.trans (hb1.mono hbW.size))
    have b0 := Below.refl W1.heap.size W1
    clear e0 e1 e2 hv hu hbW hb hb1
    rcases (show dsize l ll r k < 0 ∨ 0 ≤ dsize l ll r k by omega) with hneg | hg0
    · have HG := Lib.hid (dsize_no hneg)
      clear hneg
      go_wp2_with fail
      rw [← hW]
      clear hW
      refine (iDSize_is W1 l _ HV.out ll _ HU.out r _ (-1) HG.out _ b0).mono ?_
      rintro e w1 ⟨rfl, b1⟩
      obtain ⟨c0, c1, c2⟩ := HC.out _ b1
      go_wp2_with fail
      refine (sDSize_is W1 l _ HV.out ll _ HU.out r _ (-1) HG.out _ b1).mono ?_
      rintro e w2 ⟨rfl, b2⟩
      go_wp2
      go_ret
      exact ⟨by first | rfl | exact retb (by simp) | exact retb (by simp; omega), HB.out.trans (b2.mono HB.out.size)⟩
    · obtain ⟨g, hg⟩ : ∃ g, dsize l ll r k = g := ⟨_, rfl⟩
      obtain ⟨f1, f2, f3, f4⟩ := m_diverse hg0
      obtain ⟨T, hT⟩ : ∃ T, dsize l ll (rtop ll) k = T := ⟨_, rfl⟩
      obtain ⟨S, hS⟩ : ∃ S, gsize l ll r k = S := ⟨_, rfl⟩
      rw [hg] at f1 f2 f3 f4 hg0
      rw [hT] at f4
      rw [hS] at f3
      have HG := Lib.hid hg; have HT := Lib.hid hT; have HS := Lib.hid hS
      clear hg hT hS
      obtain ⟨Au, cu, hu2, _, _, _⟩ := HU.out
      subst hu2
      go_wp2_with fail
      rw [← hW]
      clear hW
      refine (iDSize_is W1 l _ HV.out ll _ HU.out r _ _ HG.out _ b0).mono ?_
      rintro e w1 ⟨rfl, b1⟩
      obtain ⟨c0, c1, c2⟩ := HC.out _ b1
      go_wp2_with fail
      refine (sDSize_is W1 l _ HV.out ll _ HU.out r _ _ HG.out _ b1).mono ?_
      rintro e w2 ⟨rfl, b2⟩
      clear c0 c1 c2
      obtain ⟨c0, c1, c2⟩ := HC.out _ b2
      go_wp2_with fail
      refine (iDSize_is W1 l _ HV.out ll _ HU.out (rtop ll) _ T HT.out _ b2).mono ?_
      rintro e w3 ⟨rfl, b3⟩
      clear c0 c1 c2
      obtain ⟨c0, c1, c2⟩ := HC.out _ b3
      go_wp2_with fail
      refine (iGSize_is W1 l _ HV.out ll _ HU.out r _ S HS.out _ b3).mono ?_
      rintro e w4 ⟨rfl, b4⟩
      go_wp2
      go_ret
      exact ⟨by first | rfl | exact retb (by simp) | exact retb (by simp; omega), HB.out.trans (b4.mono HB.out.size)⟩
set_option maxHeartbeats 2000000 in
theorem w_DiverseLeastTop (A : Option Addr) (n c : Nat) (hnc : n ≤ c) (hn : n ≤ maxLen) (w : World) (hb : Bytes w w.heap.size A n) :
    Calls Try.prog 12 #[.slice A n c] w fun e w' => e = .returned (.bool true) ∧ Below w.heap.size w w' := by
  have hn2 := hn
  unfold maxLen at hn2
  rcases (show 1048576 < n ∨ ¬ 1048576 < n by omega) with hbig | hbig
  · go_enter Try.func12, Try.ntmps12
    go_wp2
    go_ret
    exact ⟨rfl, Below.refl _ _⟩
  · go_enter Try.func12, Try.ntmps12
    go_wp2_with fail
    refine ((dDivLeast_any A n c hnc hn _ hb).mono fun _ _ h => h.byW).mono ?_
    rintro e W ⟨l, v, ll, u, r, rfl, hv, hu, hl, hll, _, _, hbW⟩
    obtain ⟨W1, hW⟩ : ∃ W1, W1 = W.alloc (.cells #[.int .i64 r.area, .int .i64 r.job, .int .i64 r.sex] TRc) := ⟨_, rfl⟩
    have hb1 : Below W.heap.size W W1 := by rw [hW]; exact (Below.refl _ _).alloc (Nat.le_refl _) _
    have hzW : W.heap.size < W1.heap.size := by rw [hW]; simp
    have e0 : W1.cell? ⟨W.heap.size, 0, none⟩ = some (.int .i64 r.area) := by rw [hW]; simp [go_sem]
    have e1 : W1.cell? ⟨W.heap.size, 1, none⟩ = some (.int .i64 r.job) := by rw [hW]; simp [go_sem]
    have e2 : W1.cell? ⟨W.heap.size, 2, none⟩ = some (.int .i64 r.sex) := by rw [hW]; simp [go_sem]
    have HC := Lib.hid (show ∀ w', Below W1.heap.size W1 w' → w'.cell? ⟨W.heap.size, 0, none⟩ = some (.int .i64 r.area) ∧ w'.cell? ⟨W.heap.size, 1, none⟩ = some (.int .i64 r.job) ∧ w'.cell? ⟨W.heap.size, 2, none⟩ = some (.int .i64 r.sex) from
      fun w' h => ⟨(h.cell (p := ⟨W.heap.size, 0, none⟩) hzW).trans e0, (h.cell (p := ⟨W.heap.size, 1, none⟩) hzW).trans e1, (h.cell (p := ⟨W.heap.size, 2, none⟩) hzW).trans e2⟩)
    have HV := Lib.hid (hv.below hb1)
    have HU := Lib.hid (hu.below hb1)
    have HB := Lib.hid (hbW.trans (hb1.mono hbW.size))
    have b0 := Below.refl W1.heap.size W1
    clear e0 e1 e2 hv hu hbW hb hb1
    rcases (show dleast l ll r < 0 ∨ 0 ≤ dleast l ll r by omega) with hneg | hg0
    · have HG := Lib.hid (dleast_no hneg)
      clear hneg
      go_wp2_with fail
      rw [← hW]
      clear hW
      refine (iDLeast_is W1 l _ HV.out ll _ HU.out r (-1) HG.out _ b0).mono ?_
      rintro e w1 ⟨rfl, b1⟩
      obtain ⟨c0, c1, c2⟩ := HC.out _ b1
      go_wp2_with fail
      refine (sDLeast_is W1 l _ HV.out ll _ HU.out r (-1) HG.out _ b1).mono ?_
      rintro e w2 ⟨rfl, b2⟩
      go_wp2
      go_ret
      exact ⟨by first | rfl | exact retb (by simp) | exact retb (by simp; omega), HB.out.trans (b2.mono HB.out.size)⟩
    · obtain ⟨g, hg⟩ : ∃ g, dleast l ll r = g := ⟨_, rfl⟩
      have f1 := m_dleastTop hg0
      obtain ⟨T, hT⟩ : ∃ T, dleast l ll (rtop ll) = T := ⟨_, rfl⟩
      rw [hg] at f1 hg0
      rw [hT] at f1
      have HG := Lib.hid hg; have HT := Lib.hid hT
      clear hg hT
      obtain ⟨Au, cu, hu2, _, _, _⟩ := HU.out
      subst hu2
      go_wp2_with fail
      rw [← hW]
      clear hW
      refine (iDLeast_is W1 l _ HV.out ll _ HU.out r _ HG.out _ b0).mono ?_
      rintro e w1 ⟨rfl, b1⟩
      obtain ⟨c0, c1, c2⟩ := HC.out _ b1
      go_wp2_with fail
      refine (sDLeast_is W1 l _ HV.out ll _ HU.out r _ HG.out _ b1).mono ?_
      rintro e w2 ⟨rfl, b2⟩
      clear c0 c1 c2
      obtain ⟨c0, c1, c2⟩ := HC.out _ b2
      go_wp2_with fail
      refine (iDLeast_is W1 l _ HV.out ll _ HU.out (rtop ll) T HT.out _ b2).mono ?_
      rintro e w3 ⟨rfl, b3⟩
      go_wp2
      go_ret
      exact ⟨by first | rfl | exact retb (by simp) | exact retb (by simp; omega), HB.out.trans (b3.mono HB.out.size)⟩
set_option maxHeartbeats 2000000 in
theorem w_Far (A : Option Addr) (n c : Nat) (hnc : n ≤ c) (hn : n ≤ maxLen) (w : World) (hb : Bytes w w.heap.size A n) :
    Calls Try.prog 7 #[.slice A n c] w fun e w' => e = .returned (.bool true) ∧ Below w.heap.size w w' := by
  have hn2 := hn
  unfold maxLen at hn2
  rcases (show 1048576 < n ∨ ¬ 1048576 < n by omega) with hbig | hbig
  · go_enter Try.func7, Try.ntmps7
    go_wp2
    go_ret
    exact ⟨rfl, Below.refl _ _⟩
  · go_enter Try.func7, Try.ntmps7
    go_wp2_with fail
    refine (dDivFar_any A n c hnc hn _ hb).mono ?_
    rintro e W ⟨l, v, ll, u, r, k, rfl, hv, hu, hl, hll, _, _, _, _, hbW⟩
    obtain ⟨W1, hW⟩ : ∃ W1, W1 = W.alloc (.cells #[.int .i64 r.area, .int .i64 r.job, .int .i64 r.sex] TRc) := ⟨_, rfl⟩
    have hb1 : Below W.heap.size W W1 := by rw [hW]; exact (Below.refl _ _).alloc (Nat.le_refl _) _
    have hzW : W.heap.size < W1.heap.size := by rw [hW]; simp
    have e0 : W1.cell? ⟨W.heap.size, 0, none⟩ = some (.int .i64 r.area) := by rw [hW]; simp [go_sem]
    have e1 : W1.cell? ⟨W.heap.size, 1, none⟩ = some (.int .i64 r.job) := by rw [hW]; simp [go_sem]
    have e2 : W1.cell? ⟨W.heap.size, 2, none⟩ = some (.int .i64 r.sex) := by rw [hW]; simp [go_sem]
    have HC := Lib.hid (show ∀ w', Below W1.heap.size W1 w' → w'.cell? ⟨W.heap.size, 0, none⟩ = some (.int .i64 r.area) ∧ w'.cell? ⟨W.heap.size, 1, none⟩ = some (.int .i64 r.job) ∧ w'.cell? ⟨W.heap.size, 2, none⟩ = some (.int .i64 r.sex) from
      fun w' h => ⟨(h.cell (p := ⟨W.heap.size, 0, none⟩) hzW).trans e0, (h.cell (p := ⟨W.heap.size, 1, none⟩) hzW).trans e1, (h.cell (p := ⟨W.heap.size, 2, none⟩) hzW).trans e2⟩)
    have HV := Lib.hid (hv.below hb1)
    have HU := Lib.hid (hu.below hb1)
    have HB := Lib.hid (hbW.trans (hb1.mono hbW.size))
    have b0 := Below.refl W1.heap.size W1
    clear e0 e1 e2 hv hu hbW hb hb1
    rcases (show dfarI l ll r k < 0 ∨ 0 ≤ dfarI l ll r k by omega) with hneg | hg0
    · have HG := Lib.hid (dfarI_no hneg)
      clear hneg
      go_wp2_with fail
      rw [← hW]
      clear hW
      refine (iDFar_is W1 l _ HV.out ll _ HU.out r _ (-1) HG.out _ b0).mono ?_
      rintro e w1 ⟨rfl, b1⟩
      obtain ⟨c0, c1, c2⟩ := HC.out _ b1
      go_wp2_with fail
      refine (sDFar_is W1 l _ HV.out ll _ HU.out r _ (-1) HG.out _ b1).mono ?_
      rintro e w2 ⟨rfl, b2⟩
      go_wp2
      go_ret
      exact ⟨by first | rfl | exact retb (by simp) | exact retb (by simp; omega), HB.out.trans (b2.mono HB.out.size)⟩
    · obtain ⟨g, hg⟩ : ∃ g, dfarI l ll r k = g := ⟨_, rfl⟩
      obtain ⟨f1, f2, f3, f4, f5⟩ := m_far hg0
      obtain ⟨S, hS⟩ : ∃ S, gsize l ll r k = S := ⟨_, rfl⟩
      rw [hg] at f1 f4 f5 hg0
      rw [hS] at f2 f3 f4 f5
      have HG := Lib.hid hg; have HS := Lib.hid hS
      clear hg hS
      obtain ⟨Av, cv, hv2, _, _, _⟩ := HV.out
      subst hv2
      obtain ⟨q, hq⟩ : ∃ q, l.length = q := ⟨_, rfl⟩
      rw [hq] at HV hl f3 f4 f5 ⊢
      clear hq
      have f6 : 0 ≤ 2 * (q : Int) * S ∧ 2 * (q : Int) * S ≤ 200 := by
        have h1 : 0 ≤ 2 * (q : Int) * S := Int.mul_nonneg (by omega) (by omega)
        have h2 : 2 * (q : Int) * S ≤ 2 * 10 * 10 := Int.mul_le_mul (by omega) (by omega) (by omega) (by omega)
        omega
      obtain ⟨f60, f61⟩ := f6
      have hev : (g % 2 == 0) = true := by rw [beq_iff_eq]; exact f1
      go_wp2_with fail
      rw [← hW]
      clear hW
      refine (iDFar_is W1 l _ HV.out ll _ HU.out r _ _ HG.out _ b0).mono ?_
      rintro e w1 ⟨rfl, b1⟩
      obtain ⟨c0, c1, c2⟩ := HC.out _ b1
      go_wp2_with fail
      refine (sDFar_is W1 l _ HV.out ll _ HU.out r _ _ HG.out _ b1).mono ?_
      rintro e w2 ⟨rfl, b2⟩
      clear c0 c1 c2
      obtain ⟨c0, c1, c2⟩ := HC.out _ b2
      go_wp2_with fail
      refine (iGSize_is W1 l _ HV.out ll _ HU.out r _ S HS.out _ b2).mono ?_
      rintro e w3 ⟨rfl, b3⟩
      clear c0 c1 c2 f1
      by_cases hlt : S < (q : Int)
      · clear f4
        go_wp2
        go_ret
        exact ⟨by first | rfl | exact retb (by simp) | exact retb (by simp; omega), HB.out.trans (b3.mono HB.out.size)⟩
      · have hz : g = 0 := f4.resolve_left hlt
        have hzb : (g == 0) = true := by rw [beq_iff_eq]; exact hz
        clear f4 hz
        go_wp2
        go_ret
        exact ⟨by first | rfl | exact retb (by simp) | exact retb (by simp; omega), HB.out.trans (b3.mono HB.out.size)⟩
set_option maxHeartbeats 4000000 in
theorem w_FarTwice (A : Option Addr) (n c : Nat) (hnc : n ≤ c) (hn : n ≤ maxLen) (w : World) (hb : Bytes w w.heap.size A n) :
    Calls Try.prog 8 #[.slice A n c] w fun e w' => e = .returned (.bool true) ∧ Below w.heap.size w w' := by
  have hn2 := hn
  unfold maxLen at hn2
  rcases (show 1048576 < n ∨ ¬ 1048576 < n by omega) with hbig | hbig
  · go_enter Try.func8, Try.ntmps8
    go_wp2
    go_ret
    exact ⟨rfl, Below.refl _ _⟩
  · go_enter Try.func8, Try.ntmps8
    go_wp2_with fail
    refine (dDivFar_any A n c hnc hn _ hb).mono ?_
    rintro e W ⟨l, v, ll, u, r, k, rfl, hv, hu, hl, hll, _, _, _, _, hbW⟩
    obtain ⟨W1, hW⟩ : ∃ W1, W1 = W.alloc (.cells #[.int .i64 r.area, .int .i64 r.job, .int .i64 r.sex] TRc) := ⟨_, rfl⟩
    have hb1 : Below W.heap.size W W1 := by rw [hW]; exact (Below.refl _ _).alloc (Nat.le_refl _) _
    have hzW : W.heap.size < W1.heap.size := by rw [hW]; simp
    have e0 : W1.cell? ⟨W.heap.size, 0, none⟩ = some (.int .i64 r.area) := by rw [hW]; simp [go_sem]
    have e1 : W1.cell? ⟨W.heap.size, 1, none⟩ = some (.int .i64 r.job) := by rw [hW]; simp [go_sem]
    have e2 : W1.cell? ⟨W.heap.size, 2, none⟩ = some (.int .i64 r.sex) := by rw [hW]; simp [go_sem]
    have HC := Lib.hid (show ∀ w', Below W1.heap.size W1 w' → w'.cell? ⟨W.heap.size, 0, none⟩ = some (.int .i64 r.area) ∧ w'.cell? ⟨W.heap.size, 1, none⟩ = some (.int .i64 r.job) ∧ w'.cell? ⟨W.heap.size, 2, none⟩ = some (.int .i64 r.sex) from
      fun w' h => ⟨(h.cell (p := ⟨W.heap.size, 0, none⟩) hzW).trans e0, (h.cell (p := ⟨W.heap.size, 1, none⟩) hzW).trans e1, (h.cell (p := ⟨W.heap.size, 2, none⟩) hzW).trans e2⟩)
    have HV := Lib.hid (hv.below hb1)
    have HU := Lib.hid (hu.below hb1)
    have HB := Lib.hid (hbW.trans (hb1.mono hbW.size))
    have b0 := Below.refl W1.heap.size W1
    clear e0 e1 e2 hv hu hbW hb hb1
    rcases (show dfarI l ll r k < 0 ∨ 0 ≤ dfarI l ll r k by omega) with hneg | hg0
    · have HG := Lib.hid (dfarI_no hneg)
      clear hneg
      go_wp2_with fail
      rw [← hW]
      clear hW
      refine (iDFar_is W1 l _ HV.out ll _ HU.out r _ (-1) HG.out _ b0).mono ?_
      rintro e w1 ⟨rfl, b1⟩
      obtain ⟨c0, c1, c2⟩ := HC.out _ b1
      go_wp2_with fail
      refine (sDFar_is W1 l _ HV.out ll _ HU.out r _ (-1) HG.out _ b1).mono ?_
      rintro e w2 ⟨rfl, b2⟩
      go_wp2
      go_ret
      exact ⟨by first | rfl | exact retb (by simp) | exact retb (by simp; omega), HB.out.trans (b2.mono HB.out.size)⟩
    · obtain ⟨g, hg⟩ : ∃ g, dfarI l ll r k = g := ⟨_, rfl⟩
      have hT := m_farTwice hg0 (show 2 * l.length ≤ 40 by omega)
      have hbd : dfarI l ll r k ≤ 200 := by
        obtain ⟨_, f2, f3, _, f5⟩ := m_far hg0
        have h2 : 2 * (l.length : Int) * gsize l ll r k ≤ 2 * 10 * 10 := Int.mul_le_mul (by omega) (by omega) (by omega) (by omega)
        omega
      rw [hg] at hg0 hT hbd
      have HT2 := Lib.hid hT
      have HG := Lib.hid hg
      clear hg hT
      obtain ⟨Au, cu, hu2, _, _, _⟩ := HU.out
      subst hu2
      obtain ⟨Av, cv, hv2, hd1, hd2, hrow1⟩ := HV.out
      subst hv2
      have h2l : ¬ (40 : Int) < 2 * (l.length : Int) := by omega
      go_wp2_with fail
      rw [← hW]
      clear hW
      refine (iDFar_is W1 l _ HV.out ll _ HU.out r _ _ HG.out _ b0).mono ?_
      rintro e w1 ⟨rfl, b1⟩
      obtain ⟨c0, c1, c2⟩ := HC.out _ b1
      go_wp2_with fail
      refine (sDFar_is W1 l _ HV.out ll _ HU.out r _ _ HG.out _ b1).mono ?_
      rintro e w2 ⟨rfl, b2⟩
      clear c0 c1 c2
      obtain ⟨c0, c1, c2⟩ := HC.out _ b2
      clear c0 c1 c2
      have hrow2 : Row w2 w2.heap.size Av (pcells l) := (hrow1.below b2 (Nat.le_refl _)).more b2.size
      have o0 : Own (w2.alloc (.cells #[] TP)) w2.heap.size (.slice (some ⟨w2.heap.size, 0, none⟩) 0 0) [] := own_new w2 w2 (Below.refl _ _)
      have b0' : Below w2.heap.size w2 (w2.alloc (.cells #[] TP)) := (Below.refl _ _).alloc (Nat.le_refl _) _
      go_wp2_with (first
        | (at_builtin
           refine appP rfl (.tmp 46) (.tmp 47) rfl w2.heap.size (.slice (some ⟨w2.heap.size, 0, none⟩) 0 0) [] rfl o0 w2.heap.size Av l.length cv l rfl rfl (hrow2.below b0' (Nat.le_refl _)) (by simp; omega) b0'.size ?_
           intro v3 w3 ho3 hg3
           have hb3 : Below w2.heap.size w2 w3 := below_own b0' o0 hg3)
        | (at_builtin
           refine appP rfl (.tmp 48) (.tmp 49) rfl w2.heap.size v3 ([] ++ l) rfl ho3 w2.heap.size Av l.length cv l rfl rfl (hrow2.below hb3 (Nat.le_refl _)) (by simp; omega) hb3.size ?_
           intro v4 w4 ho4 hg4
           have hb4 : Below w2.heap.size w2 w4 := below_own hb3 ho3 hg4
           have b4 : Below W1.heap.size W1 w4 := b2.trans (hb4.mono b2.size)
           have HV4 := Lib.hid (show IsP w4 v4 (l ++ l) by simpa using ho4.isP')
           have HVL := Lib.hid (HV.out.below b4)
           have HU4 := Lib.hid (HU.out.below b4)
           have hz4 : W.heap.size < w4.heap.size := by have := b4.size; omega
           obtain ⟨c0, c1, c2⟩ := HC.out _ b4
           clear ho3 hg3 ho4 hg4 hb3 o0 b0' hrow2))
      go_wp2_with fail
      refine (iDFar_is w4 (l ++ l) v4 HV4.out ll _ HU4.out r _ (4 * g) HT2.out _ (Below.refl _ _)).mono ?_
      rintro e w5 ⟨rfl, b5⟩
      go_wp2
      go_ret
      exact ⟨by first | rfl | exact retb (by simp) | exact retb (by simp; omega), HB.out.trans ((b4.trans (b5.mono b4.size)).mono HB.out.size)⟩
set_option maxHeartbeats 4000000 in
theorem w_DiverseOrder (A : Option Addr) (n c : Nat) (hnc : n ≤ c) (hn : n ≤ maxLen) (A2 : Option Addr) (m c2 : Nat) (_hmc : m ≤ c2) (hm : m ≤ maxLen) (w : World) (hb : Bytes w w.heap.size A n) (_hb2 : Bytes w w.heap.size A2 m) :
    Calls Try.prog 11 #[.slice A n c, .slice A2 m c2] w fun e w' => e = .returned (.bool true) ∧ Below w.heap.size w w' := by
  have hn2 := hn
  have hm2 := hm
  unfold maxLen at hn2 hm2
  rcases (show 1048576 < n ∨ (¬ 1048576 < n ∧ 1048576 < m) ∨ ¬ 1048576 < n ∧ ¬ 1048576 < m by omega) with hbig | ⟨hbig, hbig2⟩ | ⟨hbig, hbig2⟩
  · go_enter Try.func11, Try.ntmps11
    go_wp2
    go_ret
    exact ⟨rfl, Below.refl _ _⟩
  · go_enter Try.func11, Try.ntmps11
    go_wp2
    go_ret
    exact ⟨rfl, Below.refl _ _⟩
  · go_enter Try.func11, Try.ntmps11
    go_wp2_with fail
    refine ((dDivLeast_any A n c hnc hn _ hb).mono fun _ _ h => h.byW).mono ?_
    rintro e W ⟨l, v, ll, u, r, rfl, hv, hu, hl, hll, _, _, hbW⟩
    obtain ⟨W1, hW⟩ : ∃ W1, W1 = W.alloc (.cells #[.int .i64 r.area, .int .i64 r.job, .int .i64 r.sex] TRc) := ⟨_, rfl⟩
    have hb1 : Below W.heap.size W W1 := by rw [hW]; exact (Below.refl _ _).alloc (Nat.le_refl _) _
    have hzW : W.heap.size < W1.heap.size := by rw [hW]; simp
    have e0 : W1.cell? ⟨W.heap.size, 0, none⟩ = some (.int .i64 r.area) := by rw [hW]; simp [go_sem]
    have e1 : W1.cell? ⟨W.heap.size, 1, none⟩ = some (.int .i64 r.job) := by rw [hW]; simp [go_sem]
    have e2 : W1.cell? ⟨W.heap.size, 2, none⟩ = some (.int .i64 r.sex) := by rw [hW]; simp [go_sem]
    have HC := Lib.hid (show ∀ w', Below W1.heap.size W1 w' → w'.cell? ⟨W.heap.size, 0, none⟩ = some (.int .i64 r.area) ∧ w'.cell? ⟨W.heap.size, 1, none⟩ = some (.int .i64 r.job) ∧ w'.cell? ⟨W.heap.size, 2, none⟩ = some (.int .i64 r.sex) from
      fun w' h => ⟨(h.cell (p := ⟨W.heap.size, 0, none⟩) hzW).trans e0, (h.cell (p := ⟨W.heap.size, 1, none⟩) hzW).trans e1, (h.cell (p := ⟨W.heap.size, 2, none⟩) hzW).trans e2⟩)
    have HV := Lib.hid (hv.below hb1)
    have HU := Lib.hid (hu.below hb1)
    have HB := Lib.hid (hbW.trans (hb1.mono hbW.size))
    have b0 := Below.refl W1.heap.size W1
    clear e0 e1 e2 hv hu hbW hb hb1
    rcases (show dleast l ll r < 0 ∨ 0 ≤ dleast l ll r by omega) with hneg | hg0
    · have HG := Lib.hid (dleast_no hneg)
      clear hneg
      go_wp2_with fail
      rw [← hW]
      clear hW
      refine (iDLeast_is W1 l _ HV.out ll _ HU.out r (-1) HG.out _ b0).mono ?_
      rintro e w1 ⟨rfl, b1⟩
      obtain ⟨c0, c1, c2⟩ := HC.out _ b1
      go_wp2_with fail
      refine (sDLeast_is W1 l _ HV.out ll _ HU.out r (-1) HG.out _ b1).mono ?_
      rintro e w2 ⟨rfl, b2⟩
      go_wp2
      go_ret
      exact ⟨by first | rfl | exact retb (by simp) | exact retb (by simp; omega), HB.out.trans (b2.mono HB.out.size)⟩
    · obtain ⟨g, hg⟩ : ∃ g, dleast l ll r = g := ⟨_, rfl⟩
      obtain ⟨Al, d, hv2, hd1, hd2, hrow1⟩ := HV.out
      subst hv2
      obtain ⟨j, hk, hkl⟩ := modCutA m l.length
      have HK := Lib.hid hk; clear hk
      have hperm : (l.drop j ++ l.take j).Perm l := by have h := List.perm_append_comm (l₁ := l.drop j) (l₂ := l.take j); rwa [List.take_append_drop] at h
      have f1 := m_dOrder hg0 hperm
      have f2 := m_dTwice hg0 (show 2 * l.length ≤ 40 by omega)
      rw [hg] at f1 f2 hg0
      have HL := Lib.hid f1; have HLL := Lib.hid f2; have HG := Lib.hid hg
      have h2l : ¬ (40 : Int) < 2 * (l.length : Int) := by omega
      clear hg f1 f2 hperm
      go_wp2_with fail
      rw [← hW]
      clear hW
      refine (iDLeast_is W1 l _ HV.out ll _ HU.out r _ HG.out _ b0).mono ?_
      rintro e w1 ⟨rfl, b1⟩
      obtain ⟨c0, c1, c2⟩ := HC.out _ b1
      go_wp2_with fail
      refine (sDLeast_is W1 l _ HV.out ll _ HU.out r _ HG.out _ b1).mono ?_
      rintro e w2 ⟨rfl, b2⟩
      clear c0 c1 c2
      obtain ⟨c0, c1, c2⟩ := HC.out _ b2
      clear c0 c1 c2
      go_wp2_with fail
      rw [HK.out]
      have hkd : j ≤ d := by omega
      have hkd2 : (j : Int) ≤ (d : Int) := by omega
      have hkl2 : (j : Int) ≤ (l.length : Int) := by omega
      have hrow2 : Row w2 w2.heap.size Al (pcells l) := (hrow1.below b2 (Nat.le_refl _)).more b2.size
      have r1 := hrow2.frontA (k := j)
      obtain ⟨B2, hsl, hB2⟩ := sliceTailA Al l.length d j hkl hd1
      have r2 := hB2 w2 _ l rfl hrow2
      clear hB2
      have n1 : j = (l.take j).length := by simp; omega
      have n2 : l.length - j = (l.drop j).length := by simp
      have N1 := Lib.hid n1; have N2 := Lib.hid n2; clear n1 n2
      have o0 : Own ((w2.alloc (.cells #[] TP)).drew) w2.heap.size (.slice (some ⟨w2.heap.size, 0, none⟩) 0 0) [] := own_new w2 w2 (Below.refl _ _)
      have b0' : Below w2.heap.size w2 ((w2.alloc (.cells #[] TP)).drew) := ((Below.refl _ _).alloc (Nat.le_refl _) _).drew
      go_region_law (first
        | (refine step_people rfl (.tmp 51) (.tmp 54) rfl w2.heap.size (.slice (some ⟨w2.heap.size, 0, none⟩) 0 0) [] rfl o0 w2.heap.size B2 (l.length - j) (d - j) (l.drop j) N2.out rfl (r2.below b0' (Nat.le_refl _)) (by simp; omega) b0'.size ?_
           intro v3 w3 ho3 hg3
           have hb3 : Below w2.heap.size w2 w3 := below_own b0' o0 hg3)
        | (refine step_people rfl (.tmp 55) (.tmp 58) rfl w2.heap.size v3 ([] ++ l.drop j) (by simp [Act.eval]) ho3 w2.heap.size Al j d (l.take j) N1.out rfl (r1.below hb3 (Nat.le_refl _)) (by simp; omega) hb3.size ?_
           intro v4 w4 ho4 hg4
           have hb4 : Below w2.heap.size w2 w4 := below_own hb3 ho3 hg4
           clear ho3 hg3 hg4))
      have b4 : Below W1.heap.size W1 w4 := b2.trans (hb4.mono b2.size)
      have HV4 := Lib.hid (show IsP w4 v4 (l.drop j ++ l.take j) by simpa using ho4.isP')
      have HVL := Lib.hid (HV.out.below b4)
      have HU4 := Lib.hid (HU.out.below b4)
      clear ho4 hb4 hb3 b0' o0 r1 r2 hsl hrow2
      have hz4 : W.heap.size < w4.heap.size := by have := b4.size; omega
      obtain ⟨c0, c1, c2⟩ := HC.out _ b4
      have hrow4 : Row w4 w4.heap.size Al (pcells l) := (hrow1.below b4 (Nat.le_refl _)).more b4.size
      have o0 : Own (w4.alloc (.cells #[] TP)) w4.heap.size (.slice (some ⟨w4.heap.size, 0, none⟩) 0 0) [] := own_new w4 w4 (Below.refl _ _)
      have b0' : Below w4.heap.size w4 (w4.alloc (.cells #[] TP)) := (Below.refl _ _).alloc (Nat.le_refl _) _
      clear c0 c1 c2
      go_wp2_with (first
        | (at_builtin
           refine appP rfl (.tmp 60) (.tmp 61) rfl w4.heap.size (.slice (some ⟨w4.heap.size, 0, none⟩) 0 0) [] rfl o0 w4.heap.size Al l.length d l rfl rfl (hrow4.below b0' (Nat.le_refl _)) (by simp; omega) b0'.size ?_
           intro v5 w5 ho5 hg5
           have hb5 : Below w4.heap.size w4 w5 := below_own b0' o0 hg5)
        | (at_builtin
           refine appP rfl (.tmp 62) (.tmp 63) rfl w4.heap.size v5 ([] ++ l) rfl ho5 w4.heap.size Al l.length d l rfl rfl (hrow4.below hb5 (Nat.le_refl _)) (by simp; omega) hb5.size ?_
           intro v6 w6 ho6 hg6
           have hb6 : Below w4.heap.size w4 w6 := below_own hb5 ho5 hg6
           have b6 : Below W1.heap.size W1 w6 := b4.trans (hb6.mono b4.size)
           have HV6 := Lib.hid (show IsP w6 v6 (l ++ l) by simpa using ho6.isP')
           have HV46 := Lib.hid (HV4.out.below hb6)
           have HU6 := Lib.hid (HU.out.below b6)
           have hz6 : W.heap.size < w6.heap.size := by have := b6.size; omega
           obtain ⟨c0, c1, c2⟩ := HC.out _ b6
           clear ho5 hg5 ho6 hg6 hb5 o0 b0' hrow4))
      go_wp2_with fail
      refine (iDLeast_is w6 _ v4 HV46.out ll _ HU6.out r g HL.out _ (Below.refl _ _)).mono ?_
      rintro e w7 ⟨rfl, b7⟩
      have b67 := b6.trans (b7.mono b6.size)
      clear c0 c1 c2
      obtain ⟨c0, c1, c2⟩ := HC.out _ b67
      go_wp2_with fail
      refine (iDLeast_is w7 (l ++ l) v6 (HV6.out.below b7) ll _ (HU6.out.below b7) r g HLL.out _ (Below.refl _ _)).mono ?_
      rintro e w8 ⟨rfl, b8⟩
      go_wp2
      go_ret
      exact ⟨by first | rfl | exact retb (by simp) | exact retb (by simp; omega), HB.out.trans ((b67.trans (b8.mono b67.size)).mono HB.out.size)⟩
end Go.Proofs.Ytaaljmmnfgghfaa
