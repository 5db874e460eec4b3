/- Contracts of the program: differences of tables. -/
import Derived.Test.YtjgohakiodcjmaaID
import Derived.Test.YtjgohakiodcjmaaTS7
namespace Go.Proofs.Ytjgohakiodcjmaa
open Go.RowKit Go.Shelf
theorem blkGf {w : World} {g : Nat} {t : TypeId} {a b c : Value} (h : w.heap[g]? = some (.cells #[a, b, c] t (0, 0))) : w.cell? ⟨g, 0, none⟩ = some a ∧ w.cell? ⟨g, 1, none⟩ = some b ∧ w.cell? ⟨g, 2, none⟩ = some c := by
  obtain ⟨h1, h2, h3, _⟩ := blkG3 h
  exact ⟨h1, h2, h3⟩
set_option maxRecDepth 100000 in
set_option maxHeartbeats 1000000 in
theorem iDiff_is (W : World) (t : Tb) (v : Value) (hv : IsR W v t) (u : Tb) (v2 : Value) (hv2 : IsR W v2 u) (m : Tb) (g : Bool) (hm : diffI t u = m) (hg : diffOk t u = g) (w : World) (hb : Below W.heap.size W w) :
    Calls Try.prog 16 #[v, v2] w (OutRT m g w) := by
  have HG := Lib.hid hg
  have HM := Lib.hid hm
  have hv0 := hv.below hb
  have hu0 := hv2.below hb
  clear hv hv2 hb hg hm
  obtain ⟨A, c, rfl, _, _, _⟩ := id hv0
  obtain ⟨A', c', rfl, _, _, _⟩ := id hu0
  obtain ⟨q, hq⟩ : ∃ q, t.length = q := ⟨_, rfl⟩
  obtain ⟨n, hn⟩ : ∃ n, u.length = n := ⟨_, rfl⟩
  rw [hq] at hv0 ⊢
  rw [hn] at hu0 ⊢
  have HV := Lib.hid hv0
  have HU := Lib.hid hu0
  have HQ := Lib.hid hq
  have HN := Lib.hid hn
  obtain ⟨tt, htt⟩ : ∃ tt, tabOk t = tt := ⟨_, rfl⟩
  obtain ⟨uu, huu⟩ : ∃ uu, tabOk u = uu := ⟨_, rfl⟩
  have HT := Lib.hid htt
  have HT2 := Lib.hid huu
  clear hv0 hu0 hq hn htt huu
  go_enter Try.func16, Try.ntmps16
  go_wp2_with fail
  refine (iTGrid_is w t _ HV.out tt HT.out w (Below.refl _ _)).mono ?_
  rintro e w1 ⟨rfl, b1⟩
  cases tt
  · have hno : diffOk t u = false := by rw [diffOk, HT.out]; rfl
    have HE := Lib.hid (show g = false by rw [← HG.out]; exact hno)
    have HE2 := Lib.hid (show m = [] by rw [← HM.out, diffI_no hno])
    clear hno
    rw [gridV_no]
    obtain ⟨w2, hw2, b2, hz2, _⟩ := one_blk w1 #[.int .i64 0, .int .i64 0, .slice none 0 0] TGI
    have HW2 := Lib.hid hw2.symm
    have HB2 := Lib.hid (b1.trans (b2.mono b1.size))
    have h9 := (mine_new (w := w2) HB2.out.size).up
    rw [hz2] at h9
    have HO := Lib.hid h9
    clear h9 b1 b2 hw2
    go_wp2_with fail
    rw [HW2.out]
    go_wp2
    go_ret2
    exact ⟨_, by rw [HE.out]; rfl, by rw [HE2.out]; exact HO.out, HB2.out.alloc HB2.out.size _⟩
  rw [gridV_yes, HQ.out]
  obtain ⟨d, hd⟩ : ∃ d, wd t = d := ⟨_, rfl⟩
  have HD := Lib.hid hd
  rw [hd]
  obtain ⟨w2, hw2, b2, hz2, k2⟩ := one_blk w1 #[.int .i64 q, .int .i64 d, .slice A q c] TGI
  have HW2 := Lib.hid hw2.symm
  have HB2 := Lib.hid (b1.trans (b2.mono b1.size))
  have hB1 : w1.heap.size < w2.heap.size := by omega
  have HK2 := Lib.hid (show ∀ X, Below w2.heap.size w2 X → X.heap[w1.heap.size]? = some (.cells #[.int .i64 q, .int .i64 d, .slice A q c] TGI (0, 0)) from fun X h => (h.block _ hB1).trans k2)
  clear b1 b2 hw2 k2 hz2 hd
  go_wp2_with fail
  rw [HW2.out]
  refine (iTGrid_is w2 u _ (HU.out.below HB2.out) uu HT2.out w2 (Below.refl _ _)).mono ?_
  rintro e w3 ⟨rfl, b23⟩
  have b3 := HB2.out.trans (b23.mono HB2.out.size)
  have HB23 := Lib.hid b23
  clear b23
  have hB2 := HB2.out.size
  cases uu
  · have hno : diffOk t u = false := by rw [diffOk, HT.out, HT2.out]; rfl
    have HE := Lib.hid (show g = false by rw [← HG.out]; exact hno)
    have HE2 := Lib.hid (show m = [] by rw [← HM.out, diffI_no hno])
    clear hno
    rw [gridV_no]
    obtain ⟨w4, hw4, b4, hz4, _⟩ := one_blk w3 #[.int .i64 0, .int .i64 0, .slice none 0 0] TGI
    have HW4 := Lib.hid hw4.symm
    have HB4 := Lib.hid (b3.trans (b4.mono b3.size))
    have h9 := (mine_new (w := w4) HB4.out.size).up
    rw [hz4] at h9
    have HO := Lib.hid h9
    clear h9 b3 b4 hw4
    go_wp2_with fail
    rw [HW4.out]
    go_wp2
    go_ret2
    exact ⟨_, by rw [HE.out]; rfl, by rw [HE2.out]; exact HO.out, HB4.out.alloc HB4.out.size _⟩
  rw [gridV_yes, HN.out]
  obtain ⟨y, hy⟩ : ∃ y, wd u = y := ⟨_, rfl⟩
  have HY := Lib.hid hy
  rw [hy]
  obtain ⟨w4, hw4, b4, hz4, k4⟩ := one_blk w3 #[.int .i64 n, .int .i64 y, .slice A' n c'] TGI
  have HW4 := Lib.hid hw4.symm
  have HB4 := Lib.hid (b3.trans (b4.mono b3.size))
  have b34 : Below w2.heap.size w2 w4 := HB23.out.trans (b4.mono HB23.out.size)
  obtain ⟨c0, c1, c2⟩ := blkGf (HK2.out w4 b34)
  obtain ⟨d0, d1, d2⟩ := blkGf k4
  clear b3 b4 hw4 k4 b34 hy
  by_cases hs : n = q ∧ y = d
  rotate_left
  · have hno : diffOk t u = false := by
      cases e : diffOk t u
      · rfl
      · have h := dok_iff.1 e
        exact absurd ⟨by rw [← HN.out, h.l, HQ.out], by rw [← HY.out, h.w, HD.out]⟩ hs
    have HE := Lib.hid (show g = false by rw [← HG.out]; exact hno)
    have HE2 := Lib.hid (show m = [] by rw [← HM.out, diffI_no hno])
    have h9 := (mine_new (w := w4) HB4.out.size).up
    rw [hz4] at h9
    have HO := Lib.hid h9
    clear h9
    clear hno
    rcases (show ¬ n = q ∨ (n = q ∧ ¬ y = d) by omega) with h | ⟨rfl, h⟩
    · have hx : ¬ ((n : Nat) : Int) = (q : Nat) := by omega
      clear hs h
      rw [← HW4.out] at c0 c1 c2 d0 d1 d2
      go_wp2_with fail
      all_goals (
        rw [HW4.out]
        go_wp2
        go_ret2
        exact ⟨_, by rw [HE.out]; rfl, by rw [HE2.out]; exact HO.out, HB4.out.alloc HB4.out.size _⟩)
    · have hx : ¬ ((y : Nat) : Int) = (d : Nat) := by omega
      clear hs h
      rw [← HW4.out] at c0 c1 c2 d0 d1 d2
      go_wp2_with fail
      all_goals (
        rw [HW4.out]
        go_wp2
        go_ret2
        exact ⟨_, by rw [HE.out]; rfl, by rw [HE2.out]; exact HO.out, HB4.out.alloc HB4.out.size _⟩)
  obtain ⟨rfl, rfl⟩ := hs
  have ht := tab_iff.1 HT.out
  have hu := tab_iff.1 HT2.out
  have hl : u.length = t.length := by rw [HN.out, HQ.out]
  have hwd : wd u = wd t := by rw [HY.out, HD.out]
  have hS := iSub_is w4 t _ (HV.out.below HB4.out) u _ (HU.out.below HB4.out) ht hu hl hwd w4 (Below.refl _ _)
  rw [HQ.out, HD.out, HN.out, HY.out] at hS
  have HSS := Lib.hid hS
  have HFO := Lib.hid (show tabOk (diffT t u) = g by
    rw [← HG.out, diffOk, HT.out, HT2.out, decide_eq_true hl, decide_eq_true hwd]; simp)
  have HFM := Lib.hid (show m = if g = true then diffT t u else [] by
    rw [← HM.out, diffI, HG.out])
  clear hS hl hwd ht hu
  rw [← HW4.out] at c0 c1 c2 d0 d1 d2
  go_wp2_with fail
  rw [HW4.out]
  refine HSS.out.mono ?_
  rintro e w5 ⟨v5, rfl, ho5, h5⟩
  have HB5 := Lib.hid (HB4.out.trans (h5.mono HB4.out.size))
  have HO5 := Lib.hid (Mine.lower ho5 HB4.out.size)
  clear ho5 h5 c0 c1 c2 d0 d1 d2
  go_wp2_with fail
  refine (iTab_is w5 (diffT t u) _ HO5.out.is g HFO.out w5 (Below.refl _ _)).mono ?_
  rintro e w6 ⟨rfl, b6⟩
  have HB6 := Lib.hid (HB5.out.trans (b6.mono HB5.out.size))
  have HO6 := Lib.hid (HO5.out.below b6).up
  have hz6 := HB6.out.size
  clear b6
  cases g
  · have HE2 := Lib.hid (show m = [] by rw [HFM.out]; rfl)
    have HO7 := Lib.hid (show Mine (w6.alloc (.cells #[] TI)) w.heap.size (w6.alloc (.cells #[] TI)).heap.size (.slice (some ⟨w6.heap.size, 0, none⟩) 0 0) [] from (mine_new hz6).up)
    go_wp2
    go_ret2
    exact ⟨_, rfl, by rw [HE2.out]; exact HO7.out, HB6.out.alloc hz6 _⟩
  · have HE2 := Lib.hid (show m = diffT t u by rw [HFM.out]; rfl)
    go_wp2
    go_ret2
    exact ⟨_, rfl, by rw [HE2.out]; exact HO6.out, HB6.out⟩
set_option maxRecDepth 100000 in
theorem iRisk_is (W : World) (t : Tb) (v : Value) (hv : IsR W v t) (u : Tb) (v2 : Value) (hv2 : IsR W v2 u) (k : Int) (g : Int) (hg : riskI t u k = g) (w : World) (hb : Below W.heap.size W w) :
    Calls Try.prog 22 #[v, v2, .int .i64 k] w (Back (.int .i64 g) W) := by
  have HV := Lib.hid hv
  have HU := Lib.hid hv2
  have HB := Lib.hid hb
  have hz := hb.size
  obtain ⟨r, hr⟩ : ∃ r, diffOk t u = r := ⟨_, rfl⟩
  have HR := Lib.hid hr
  have HG := Lib.hid hg
  clear hv hv2 hb hr hg
  go_enter Try.func22, Try.ntmps22
  go_wp2_with fail
  refine (iDiff_is W t _ HV.out u _ HU.out _ r rfl HR.out w HB.out).mono ?_
  rintro e w1 ⟨v1, rfl, ho1, h1⟩
  have HB1 := Lib.hid (HB.out.trans (h1.mono hz))
  cases r
  · have HE := Lib.hid (show g = -1 by rw [← HG.out, riskI_no HR.out])
    go_wp2
    go_ret
    exact ⟨by rw [HE.out]; rfl, HB1.out⟩
  · rw [diffI_yes HR.out] at ho1
    have hd := (dok_iff.1 HR.out).d
    have HO := Lib.hid ho1.is
    have HS := Lib.hid (show msmallI (diffT t u) k = msmall (diffT t u) k by rw [msmallI, if_pos (tab_iff.2 hd)])
    have HT := Lib.hid (tab_iff.2 hd)
    have HE := Lib.hid (show ((mmany (msmall (diffT t u) k) : Nat) : Int) = g by rw [← HG.out, riskI_yes HR.out])
    have H9 := Lib.hid (show mmany (msmall (diffT t u) k) ≤ 1000000000 from mm_bd (dok_iff.1 HR.out) k)
    clear ho1 h1 hd
    go_wp2_with fail
    refine (iSmall_is w1 _ _ HO.out k _ true HS.out HT.out w1 (Below.refl _ _)).mono ?_
    rintro e w2 ⟨v3, rfl, ho3, h3⟩
    have HO3 := Lib.hid ho3.is
    have HB3 := Lib.hid (HB1.out.trans (h3.mono HB1.out.size))
    clear ho3 h3
    go_wp2_with fail
    refine (iMaskMany_is w2 _ _ HO3.out H9.out g HE.out w2 (Below.refl _ _)).mono ?_
    rintro e w3 ⟨rfl, b3⟩
    have HB4 := Lib.hid (HB3.out.trans (b3.mono HB3.out.size))
    clear b3
    go_wp2
    go_ret
    exact ⟨rfl, HB4.out⟩
end Go.Proofs.Ytjgohakiodcjmaa
