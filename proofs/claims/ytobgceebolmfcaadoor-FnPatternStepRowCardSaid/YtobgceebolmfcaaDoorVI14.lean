/- Contracts of the program: a pattern that grows. -/
import Derived.Test.YtobgceebolmfcaaDoorVI13
namespace Go.Proofs.YtobgceebolmfcaaDoor
open Go.RowKit Go.Shelf
theorem iStep_is (W : World) (t : Tb) (v : Value) (hv : IsR W v t) (f : Mk) (u : Value) (hu : IsM W u f) (m : Mk) (u2 : Value) (hu2 : IsM W u2 m) (n : Int) (r : Option Mk) (hr : stepO t f m n = r) (w : World) (hb : Below W.heap.size W w) (hT : TabW W) :
    Calls Tryd.prog 14 #[v, u, u2, .int .i64 n] w (OutMT (r.getD []) r.isSome w) := iPStep_of stepC W t v hv f u hu m u2 hu2 n r hr w hb hT
theorem need_zero_of {t : Tb} {f m : Mk} {n : Int} (hf : mkOk t f = true) (hm : mkOk t m = true) (hn : 0 ≤ n ∧ n ≤ 99) (h : enc (unF t f m n) = 0) : needN t f m n = 0 := by
  have h1 := (enc_unmet hf hm hn).1 h
  have h2 := needN_ok.2 (pOk3_iff.2 ⟨hf, hm, hn.1, hn.2⟩)
  omega
set_option maxRecDepth 100000 in
set_option maxHeartbeats 2000000 in
theorem iGrow_is (W : World) (t : Tb) (v : Value) (hv : IsR W v t) (f : Mk) (u : Value) (hu : IsM W u f) (n : Int) (r : Option Mk) (hr : growO t f n = r) (w : World) (hb : Below W.heap.size W w) (hT : TabW W) :
    Calls Tryd.prog 19 #[v, u, .int .i64 n] w (OutMT (r.getD []) r.isSome w) := by
  have hvw := hv.below hb
  have HU := Lib.hid (hu.below hb)
  have HT := Lib.hid (hT.below hb)
  obtain ⟨A, c, rfl, _, _, _⟩ := id hvw
  obtain ⟨q, hq⟩ : ∃ q, t.length = q := ⟨_, rfl⟩
  obtain ⟨d, hd⟩ : ∃ d, wd t = d := ⟨_, rfl⟩
  have HQ := Lib.hid hq
  have HD := Lib.hid hd
  rw [hq] at hvw ⊢
  have HV := Lib.hid hvw
  have HR := Lib.hid hr
  clear hv hu hb hT hr hq hd hvw
  go_enter Tryd.func19, Tryd.ntmps19
  go_wp2_with fail
  refine (iDem_is w t _ HV.out f _ HU.out n w (Below.refl _ _)).mono ?_
  rintro e w1 ⟨b1, ⟨h1, a, b, A', k', c', f', n', rfl⟩ | ⟨h1, rfl⟩⟩
  · obtain ⟨w2, hw2, b2, hz2, k2⟩ := one_blk w1 #[.int .i64 a, .int .i64 b, .slice A' k' c', .int .u64 f', .int .i64 n'] TDm
    have HE := Lib.hid (show r = none by rw [← HR.out]; exact grow_low (by rw [needN_no (by rw [ok3_dem, h1]; rfl)]; omega))
    have hF2 := b1.trans (b2.mono b1.size)
    have HN := Lib.hid (show MineB (w2.alloc (.cells #[] TBS)) w.heap.size (w1.heap.size + 1 + 1) (.slice (some ⟨w1.heap.size + 1, 0, none⟩) 0 0) [] from by have := mineB_new (w := w2) hF2.size; rw [hz2] at this; exact this)
    have HF := Lib.hid (hF2.alloc hF2.size (.cells #[] TBS))
    have HW2 := Lib.hid hw2.symm
    clear b1 b2 hw2 h1 k2 hF2 hz2
    go_wp2
    rw [HW2.out]
    refine bodyPost_ret (results_tmp2 rfl _ _ _) rfl ?_
    rw [HE.out]
    exact ⟨_, rfl, HN.out.up, HF.out⟩
  obtain ⟨hf, hn0, hn9⟩ := demOk_iff.1 h1
  have ht := mk_tab hf
  have ht4 := ht.h4
  have hw4 := ht.w4
  rw [HQ.out] at ht4
  rw [HD.out] at hw4
  have HFK := Lib.hid hf
  have HNN := Lib.hid (And.intro hn0 hn9)
  have h3 := pOk3_iff.2 ⟨hf, hf, hn0, hn9⟩
  have hnd := needN_ok.2 h3
  have HGR0 := Lib.hid (show growF t f n 17 f = r by rw [← HR.out, grow_go hnd])
  have HMS0 := Lib.hid (show miss t f < 17 by have := miss_le hf; omega)
  obtain ⟨w2, hw2, b2, hz2, k2⟩ := one_blk w1 #[.int .i64 t.length, .int .i64 (wd t), .slice A q c, patV (enc (hF f)), .int .i64 n] TDm
  have HB2 := Lib.hid (b1.trans (b2.mono b1.size))
  have HW2 := Lib.hid hw2.symm
  obtain ⟨fp, hfp⟩ : ∃ fp, enc (hF f) = fp := ⟨_, rfl⟩
  rw [HQ.out, HD.out, hfp] at HW2 k2 ⊢
  have HFP := Lib.hid hfp
  have hlt : w1.heap.size < w2.heap.size := by omega
  have HX := Lib.hid (show ∀ X, Below w2.heap.size w2 X → X.cell? ⟨w1.heap.size, 0, none⟩ = some (.int .i64 q) ∧ X.cell? ⟨w1.heap.size, 1, none⟩ = some (.int .i64 d) ∧ X.cell? ⟨w1.heap.size, 2, none⟩ = some (.slice A q c) ∧ X.cell? ⟨w1.heap.size, 3, none⟩ = some (patV fp) ∧ X.cell? ⟨w1.heap.size, 4, none⟩ = some (.int .i64 n) from fun X h =>
    blk5 ((h.block _ hlt).trans k2))
  have HTX := Lib.hid (show ∀ X, Below w2.heap.size w2 X → Below w.heap.size w X from fun X h => HB2.out.trans (h.mono HB2.out.size))
  have HUN := Lib.hid (show ∀ (X : World) (cur : Mk) (g : Nat), Below w2.heap.size w2 X → mkOk t cur = true → enc (unF t f cur n) = g → Calls Tryd.prog 48 #[demV q d (.slice A q c) fp n, patV (enc (hF cur))] X (Back (patV g) X) from fun X cur g hX hc hg => by
    have := iUnmet_is X t _ (HV.out.below (HTX.out X hX)) f cur hf hc n ⟨hn0, hn9⟩ g hg X (Below.refl _ _) (HT.out.below (HTX.out X hX))
    rw [HQ.out, HD.out, hfp] at this
    exact this)
  have HSP := Lib.hid (show ∀ (X : World) (cur : Mk) (r2 : Option Mk), Below w2.heap.size w2 X → mkOk t cur = true → stepO t f cur n = r2 → Calls Tryd.prog 42 #[demV q d (.slice A q c) fp n, patV (enc (hF cur))] X (OutStp r2 X) from fun X cur r2 hX hc hr2 => by
    have := stepC X t _ (HV.out.below (HTX.out X hX)) f cur hf hc n ⟨hn0, hn9⟩ r2 hr2 X (Below.refl _ _) (HT.out.below (HTX.out X hX))
    rw [HQ.out, HD.out, hfp] at this
    exact this)
  obtain ⟨x0, x1, x2, x3, x4⟩ := HX.out w2 (Below.refl _ _)
  rw [← HW2.out] at x0 x1 x2 x3 x4
  clear b1 b2 hw2 h1 hf ht k2 h3 hnd hfp hn0 hn9 hz2
  go_wp2
  rw [HW2.out]
  clear x0 x1 x2 x3 x4
  go_loopg [10] 17 (fun k s wr => ∃ (cur : Mk) (z : Nat), s = patV z ∧ z = enc (hF cur) ∧ mkOk t cur = true ∧ growF t f n k cur = r ∧ miss t cur < k ∧ Below w2.heap.size w2 wr)
  case atStart => exact ⟨f, fp, rfl, HFP.out.symm, HFK.out, HGR0.out, HMS0.out, Below.refl _ _⟩
  case round =>
    obtain ⟨cur, z, rfl, hz, hck, hgr, hms, hbr⟩ := hrel
    have HZ := Lib.hid hz
    have HCK := Lib.hid hck
    have HGR := Lib.hid hgr
    have HBR := Lib.hid hbr
    obtain ⟨x0, x1, x2, x3, x4⟩ := HX.out wr hbr
    obtain ⟨g, hg⟩ : ∃ g, enc (unF t f cur n) = g := ⟨_, rfl⟩
    have HG := Lib.hid hg
    have HC := Lib.hid (show Calls Tryd.prog 48 #[demV q d (.slice A q c) fp n, patV z] wr (Back (patV g) wr) by rw [hz]; exact HUN.out wr cur g hbr hck hg)
    have hzr := hbr.size
    have hms17 : miss t cur < 17 + 1 := by have := miss_le hck; omega
    clear hz hck hgr hbr hg
    go_wp2_with fail
    refine HC.out.mono ?_
    rintro e w3 ⟨rfl, b3⟩
    have HB3 := Lib.hid (HBR.out.trans (b3.mono hzr))
    clear b3 x0 x1 x2 x3 x4
    obtain ⟨x0, x1, x2, x3, x4⟩ := HX.out w3 HB3.out
    by_cases hg0 : g = 0
    · have hgb : ((g : Int) != 0) = false := by simp; omega
      have HE := Lib.hid (show r = some cur by rw [← HGR.out]; exact growF_done (need_zero_of HFK.out HCK.out HNN.out (by rw [HG.out]; exact hg0)) (by omega))
      obtain ⟨hz16, hzi, hzm⟩ := mask_key HCK.out HQ.out HD.out HZ.out
      have HP := Lib.hid (iPMask_is q d ht4 hw4 z hz16 hzi cur hzm w3 (HT.out.below (HTX.out _ HB3.out)))
      clear hz16 hzi hzm hg0 hms17
      go_wp2_with fail
      refine HP.out.mono ?_
      rintro e w4 ⟨v4, rfl, ho4, h4⟩
      have hb3 := HTX.out _ HB3.out
      have HO4 := Lib.hid (ho4.lowerM hb3.size)
      have HF := Lib.hid (hb3.trans (h4.mono hb3.size))
      clear ho4 h4 x0 x1 x2 x3 x4 hb3
      go_wp2
      refine bodyPost_ret (results_tmp2 rfl _ _ _) rfl ?_
      rw [HE.out]
      exact ⟨v4, rfl, HO4.out, HF.out⟩
    · have hgb : ((g : Int) != 0) = true := by simp; omega
      obtain ⟨r2, hr2⟩ : ∃ r2, stepO t f cur n = r2 := ⟨_, rfl⟩
      have HR2 := Lib.hid hr2
      have HNE := Lib.hid (show needN t f cur n ≠ 0 by
        have := (enc_unmet HFK.out HCK.out HNN.out).2 (by rw [HG.out]; exact hg0)
        omega)
      have HS := Lib.hid (show Calls Tryd.prog 42 #[demV q d (.slice A q c) fp n, patV z] w3 (OutStp r2 w3) by rw [HZ.out]; exact HSP.out w3 cur r2 HB3.out HCK.out hr2)
      clear hg0 hr2
      go_wp2_with fail
      refine HS.out.mono ?_
      rintro e w4 ⟨z4, rfl, hz4, b4⟩
      have HB4 := Lib.hid (HB3.out.trans (b4.mono HB3.out.size))
      have HZ4 := Lib.hid hz4
      clear b4 hz4 x0 x1 x2 x3 x4
      cases r2 with
      | none =>
        have HE := Lib.hid (show r = none by rw [← HGR.out]; exact growF_fail HNE.out HR2.out)
        have hb4 := HTX.out _ HB4.out
        have HN := Lib.hid (mineB_new (w := w4) hb4.size)
        have HF := Lib.hid (hb4.alloc hb4.size (.cells #[] TBS))
        clear hb4 hms17
        simp only [Option.isSome]
        go_wp2
        refine bodyPost_ret (results_tmp2 rfl _ _ _) rfl ?_
        rw [HE.out]
        exact ⟨_, rfl, HN.out.up, HF.out⟩
      | some m' =>
        have HMK := Lib.hid (step_ok HR2.out).2.1
        have HGN := Lib.hid (show growF t f n (gk - 1) m' = r by
          rw [← HGR.out]
          obtain ⟨g', rfl⟩ : ∃ g', gk = g' + 1 := ⟨gk - 1, by omega⟩
          rw [growF_step HNE.out HR2.out]; rfl)
        have hml := miss_lt HR2.out
        simp only [Option.isSome]
        go_wp2
        go_roundg (gk - 1)
        case measure => omega
        case rel => exact ⟨m', z4, rfl, HZ4.out m' rfl, HMK.out, HGN.out, by omega, HB4.out⟩
end Go.Proofs.YtobgceebolmfcaaDoor
