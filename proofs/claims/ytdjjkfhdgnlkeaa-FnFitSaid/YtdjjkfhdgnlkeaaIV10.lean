/- Contracts of the program: equal sums. -/
import Derived.Test.YtdjjkfhdgnlkeaaIMD
namespace Go.Proofs.Ytdjjkfhdgnlkeaa
open Go.RowKit Go.Shelf
set_option maxHeartbeats 2000000 in
theorem iEq_is (w : World) (x y : List Int) (v u : Value) (hv : IsI w v x) (hu : IsI w u y) (g : Bool) (hg : decide (x = y) = g) :
    Calls Try.prog 51 #[v, u] w fun e w' => e = .returned (.bool g) ∧ Below w.heap.size w w' := by
  obtain ⟨A, c, rfl, a1, a2, hr⟩ := hv
  obtain ⟨A2, c2, rfl, b1, b2, hr2⟩ := hu
  obtain ⟨n, hn⟩ : ∃ n, x.length = n := ⟨_, rfl⟩
  obtain ⟨n2, hn2⟩ : ∃ n2, y.length = n2 := ⟨_, rfl⟩
  have HN := Lib.hid hn
  have HN2 := Lib.hid hn2
  have HG := Lib.hid hg
  have HR := Lib.hid hr
  have HR2 := Lib.hid hr2
  have hm : n ≤ maxLen := by omega
  unfold maxLen at hm
  rw [hn, hn2]
  clear hn hn2 hg hr hr2 a1 a2 b1 b2
  by_cases hne : n = n2
  · subst hne
    go_enter Try.func51, Try.ntmps51
    go_wp2
    go_loopw [13] (fun a wr => ∃ k : Nat, k ≤ n ∧ a = .int .i64 k ∧ (∀ j, j < k → x.getD j 0 = y.getD j 0) ∧ Below w.heap.size w wr) (fun a _ => n - (intOf a).toNat)
    case atStart => exact ⟨0, Nat.zero_le _, rfl, fun j hj => absurd hj (by omega), Below.refl _ _⟩
    case round =>
      obtain ⟨k, hk, rfl, hall, hb⟩ := hrel
      have HA := Lib.hid hall
      have HB := Lib.hid hb
      by_cases hlt : k < n
      · have hki : (k : Int) < (n : Int) := by omega
        obtain ⟨b, o, hA, hbb, hc⟩ := HR.out.int_ k (by rw [HN.out]; exact hlt)
        obtain ⟨b', o', hA', hbb', hc'⟩ := HR2.out.int_ k (by rw [HN2.out]; exact hlt)
        subst hA hA'
        obtain ⟨p, hp⟩ : ∃ p, x.getD k 0 = p := ⟨_, rfl⟩
        obtain ⟨r, hr⟩ : ∃ r, y.getD k 0 = r := ⟨_, rfl⟩
        rw [hp] at hc
        rw [hr] at hc'
        have e1 := (hb.cell (p := ⟨b, o + k, none⟩) hbb).trans hc
        have e2 := (hb.cell (p := ⟨b', o' + k, none⟩) hbb').trans hc'
        have HP := Lib.hid hp
        have HR9 := Lib.hid hr
        clear hc hc' hall hb hp hr hbb hbb'
        by_cases hpr : p = r
        · have hb1 : (p != r) = false := by simp [hpr]
          have HPR := Lib.hid hpr
          clear hpr
          go_wp2
          go_quiet (fail)
          clear hb1
          go_wp2
          go_roundw
          case rel => exact ⟨k + 1, by omega, by go_num, fun j hj => by
            by_cases e : j = k
            · rw [e, HP.out, HR9.out, HPR.out]
            · exact HA.out j (by omega), below_draws HB.out nq⟩
          case measure => simp [intOf]; omega
        · have hb1 : (p != r) = true := by rw [bne_iff_ne]; exact hpr
          have HE := Lib.hid (show g = false by
            rw [← HG.out]
            refine decide_eq_false fun e => hpr ?_
            rw [← HP.out, ← HR9.out, e])
          clear hpr
          go_wp2
          go_quiet (fail)
          go_wp2
          go_ret
          exact ⟨by rw [HE.out]; rfl, below_draws HB.out nq⟩
      · have hki : ¬ (k : Int) < (n : Int) := by omega
        have HE := Lib.hid (show g = true by
          rw [← HG.out]
          refine decide_eq_true (List.ext_getElem (by rw [HN.out, HN2.out]) fun j h1 h2 => ?_)
          have := HA.out j (by have := HN.out; omega)
          rwa [getD_of _ _ h1, getD_of _ _ h2] at this)
        clear hall hb
        go_wp2
        go_ret
        exact ⟨by rw [HE.out]; rfl, HB.out⟩
  · have hb1 : ((n : Int) != (n2 : Int)) = true := by rw [bne_iff_ne]; omega
    have HE := Lib.hid (show g = false by
      rw [← HG.out]
      refine decide_eq_false fun e => hne ?_
      rw [← HN.out, ← HN2.out, e])
    go_enter Try.func51, Try.ntmps51
    go_wp2
    go_ret
    exact ⟨by rw [HE.out]; rfl, Below.refl _ _⟩
set_option maxHeartbeats 2000000 in
theorem iSame_is (W : World) (a b : Tb) (v u : Value) (hv : IsR W v a) (hu : IsR W u b) (ha : rect a = true) (hb : rect b = true) (hac : ∀ x : Pc a.length (wd a), 0 ≤ cellP a x ∧ cellP a x ≤ 396) (hbc : ∀ x : Pc b.length (wd b), 0 ≤ cellP b x ∧ cellP b x ≤ 396)
    (g : Bool) (hg : (decide (rsum a = rsum b) && decide (csum a = csum b)) = g) (w : World) (hw : Below W.heap.size W w) :
    Calls Try.prog 32 #[grV a.length (wd a) v, grV b.length (wd b) u] w (Back (.bool g) W) := by
  have HV := Lib.hid hv
  have HU := Lib.hid hu
  have HA := Lib.hid ha
  have HB := Lib.hid hb
  have HAC := Lib.hid hac
  have HBC := Lib.hid hbc
  have HG := Lib.hid hg
  obtain ⟨A, c, rfl, _, _, _⟩ := id hv
  obtain ⟨A2, c2, rfl, _, _, _⟩ := id hu
  obtain ⟨W2, hW, hb2, hz2, hf⟩ : ∃ W2, W2 = (w.alloc (.cells #[.int .i64 a.length, .int .i64 (wd a), .slice A a.length c] TGI)).alloc (.cells #[.int .i64 b.length, .int .i64 (wd b), .slice A2 b.length c2] TGI) ∧ Below w.heap.size w W2 ∧ W2.heap.size = w.heap.size + 1 + 1 ∧
      (∀ X, Below W2.heap.size W2 X → X.heap[w.heap.size]? = some (.cells #[.int .i64 a.length, .int .i64 (wd a), .slice A a.length c] TGI (0, 0)) ∧ X.heap[w.heap.size + 1]? = some (.cells #[.int .i64 b.length, .int .i64 (wd b), .slice A2 b.length c2] TGI (0, 0)) ∧ Below w.heap.size w X) := by
    have b2 := ((Below.refl w.heap.size w).alloc (Nat.le_refl _) (.cells #[.int .i64 a.length, .int .i64 (wd a), .slice A a.length c] TGI)).alloc (by simp) (.cells #[.int .i64 b.length, .int .i64 (wd b), .slice A2 b.length c2] TGI)
    exact ⟨_, rfl, b2, by simp, fun X h => ⟨(h.block _ (by simp; omega)).trans keepI1, (h.block _ (by simp)).trans newI1, b2.trans (h.mono b2.size)⟩⟩
  have HW := Lib.hid hW.symm
  have HF := Lib.hid hf
  have HWW := Lib.hid (hw.trans (hb2.mono hw.size))
  obtain ⟨p0, p1, p2, _, _, _⟩ := blkG3 (hf W2 (Below.refl _ _)).1
  rw [← HW.out] at p0 p1 p2
  clear hv hu ha hb hac hbc hg hW hb2 hz2 hf hw
  go_enter Try.func32, Try.ntmps32
  go_wp2_with fail
  rw [HW.out]
  refine (iGSums_is W2 a a.length (wd a) _ (HV.out.below HWW.out) rfl rfl HA.out HAC.out).mono ?_
  rintro e w3 ⟨r1, s1, rfl, h1, h2, _, h3⟩
  have HB3 := Lib.hid h3
  obtain ⟨q0, q1, q2, _, _, _⟩ := blkG3 (HF.out w3 h3).2.1
  have HR1 := Lib.hid h1.is
  have HS1 := Lib.hid h2.is
  have HW3 := Lib.hid (HWW.out.trans (h3.mono HWW.out.size))
  clear p0 p1 p2 h1 h2 h3
  go_wp2_with fail
  refine (iGSums_is w3 b b.length (wd b) _ (HU.out.below HW3.out) rfl rfl HB.out HBC.out).mono ?_
  rintro e w4 ⟨r2, s2, rfl, h1, h2, _, h3⟩
  have HR2 := Lib.hid h1.is
  have HS2 := Lib.hid h2.is
  have HR14 := Lib.hid (HR1.out.below h3)
  have HS14 := Lib.hid (HS1.out.below h3)
  have HW4 := Lib.hid (HW3.out.trans (h3.mono HW3.out.size))
  obtain ⟨g1, hg1⟩ : ∃ g1, decide (rsum a = rsum b) = g1 := ⟨_, rfl⟩
  obtain ⟨g2, hg2⟩ : ∃ g2, decide (csum a = csum b) = g2 := ⟨_, rfl⟩
  have HG1 := Lib.hid hg1
  have HG2 := Lib.hid hg2
  clear q0 q1 q2 h1 h2 h3 hg1 hg2
  go_wp2_with fail
  refine (iEq_is w4 (rsum a) (rsum b) _ _ HR14.out HR2.out g1 HG1.out).mono ?_
  rintro e w5 ⟨rfl, h5⟩
  have HW5 := Lib.hid (HW4.out.trans (h5.mono HW4.out.size))
  cases g1
  · clear h5
    go_wp2
    go_ret
    exact ⟨retb (by rw [← HG.out, HG1.out]; rfl), HW5.out⟩
  · have HS15 := Lib.hid (HS14.out.below h5)
    have HS25 := Lib.hid (HS2.out.below h5)
    clear h5
    go_wp2_with fail
    refine (iEq_is w5 (csum a) (csum b) _ _ HS15.out HS25.out g2 HG2.out).mono ?_
    rintro e w6 ⟨rfl, h6⟩
    go_wp2
    go_ret
    exact ⟨retb (by rw [← HG.out, HG1.out, HG2.out]; rfl), HW5.out.trans (h6.mono HW5.out.size)⟩
end Go.Proofs.Ytdjjkfhdgnlkeaa
