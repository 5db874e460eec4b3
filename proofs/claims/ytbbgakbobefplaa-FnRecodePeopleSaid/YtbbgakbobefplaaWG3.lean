/- Laws of chapter 3 on recoded people. -/
import Derived.Test.YtbbgakbobefplaaGC
import Derived.Test.YtbbgakbobefplaaGM
import Derived.Test.YtbbgakbobefplaaG13
import Derived.Test.YtbbgakbobefplaaAP
import Derived.Test.YtbbgakbobefplaaPMI
import Derived.Test.YtbbgakbobefplaaSP
import Derived.Test.YtbbgakbobefplaaLCI
namespace Go.Proofs.Ytbbgakbobefplaa
open Go.RowKit
theorem m_none {l : List Pn} {ll : List (List Int)} {r : Rc} (hok : grOk l ll r = true) : grOk l ll ⟨r.area, 1, 1⟩ = true ∧ many (recL ll ⟨r.area, 1, 1⟩ l) (-1) 0 0 = l.length := by
  obtain ⟨h1, h2⟩ := gr_parts.1 hok
  obtain ⟨h0, a0, a1, _, _, _, _⟩ := rc_parts h2
  have hg : grOk l ll ⟨r.area, 1, 1⟩ = true := gr_parts.2 ⟨h1, rc_mk h0 a0 a1 (by simp) (by simp) (by simp) (by simp)⟩
  refine ⟨hg, ?_⟩
  have h3 : askOk (recL ll ⟨r.area, 1, 1⟩ l) (-1) 0 0 = true := by simp [askOk, recL_ok hg, ask3, ask1]
  rw [many, if_pos h3, cnt, List.filter_eq_self.2, recL_len]
  intro p hp
  obtain ⟨q, _, rfl⟩ := List.mem_map.1 hp
  simp [fit3, fit1, rec1]
set_option maxHeartbeats 4000000 in
theorem w_RecodeNone (A : Option Addr) (n c : Nat) (hnc : n ≤ c) (hn : n ≤ maxLen) (w : World) (hb : Bytes w w.heap.size A n) :
    Calls Try.prog 4 #[.slice A n c] w fun e w' => e = .returned (.bool true) ∧ Below w.heap.size w w' := by
  have hn2 := hn
  unfold maxLen at hn2
  rcases (show 1048576 < n ∨ ¬ 1048576 < n by omega) with hbig | hbig
  · go_enter Try.func4, Try.ntmps4
    go_wp2
    go_ret
    exact ⟨rfl, Below.refl _ _⟩
  · go_enter Try.func4, Try.ntmps4
    go_wp2_with fail
    refine ((dRecodePeople_any A n c hnc hn _ hb).mono fun _ _ h => h.byW).mono ?_
    rintro e W ⟨l, v, ll, u, r, rfl, hv, hu, hl, hll, _, _, hbW⟩
    obtain ⟨W1, hW⟩ : ∃ W1, W1 = W.alloc (.cells #[.int .i64 r.area, .int .i64 r.job, .int .i64 r.sex] TRc) := ⟨_, rfl⟩
    have hb1 : Below W.heap.size W W1 := by rw [hW]; exact (Below.refl _ _).alloc (Nat.le_refl _) _
    have hzW : W.heap.size < W1.heap.size := by rw [hW]; simp
    have e0 : W1.cell? ⟨W.heap.size, 0, none⟩ = some (.int .i64 r.area) := by rw [hW]; simp [go_sem]
    have e1 : W1.cell? ⟨W.heap.size, 1, none⟩ = some (.int .i64 r.job) := by rw [hW]; simp [go_sem]
    have e2 : W1.cell? ⟨W.heap.size, 2, none⟩ = some (.int .i64 r.sex) := by rw [hW]; simp [go_sem]
    have HC := Lib.hid (show ∀ w', Below W1.heap.size W1 w' → w'.cell? ⟨W.heap.size, 0, none⟩ = some (.int .i64 r.area) ∧ w'.cell? ⟨W.heap.size, 1, none⟩ = some (.int .i64 r.job) ∧ w'.cell? ⟨W.heap.size, 2, none⟩ = some (.int .i64 r.sex) from
      fun w' h => ⟨(h.cell (p := ⟨W.heap.size, 0, none⟩) hzW).trans e0, (h.cell (p := ⟨W.heap.size, 1, none⟩) hzW).trans e1, (h.cell (p := ⟨W.heap.size, 2, none⟩) hzW).trans e2⟩)
    have HV := Lib.hid (hv.below hb1)
    have HU := Lib.hid (hu.below hb1)
    have HB := Lib.hid (hbW.trans (hb1.mono hbW.size))
    have b0 := Below.refl W1.heap.size W1
    clear e0 e1 e2 hv hu hbW hb hb1
    have h40 : l.length ≤ 40 := by omega
    cases hok : grOk l ll r
    · have HR := Lib.hid (show recOut l ll r = [] by simp [recOut, hok])
      have HOK := Lib.hid hok; clear hok
      go_wp2_with fail
      rw [← hW]
      clear hW
      refine (iRecP_is W1 l _ HV.out ll _ (HU.out.below b0) r ([]) false HR.out HOK.out _ (Below.refl _ _)).mono ?_
      rintro e w1 ⟨out, rfl, hy, h1⟩
      have b1 := b0.trans (h1.mono b0.size)
      have Lout_1 := Lib.hid hy.is
      clear hy h1
      obtain ⟨c0, c1, c2⟩ := HC.out _ b1
      go_wp2_with fail
      refine (sRecP_is w1 l _ (HV.out.below b1) ll _ (HU.out.below b1) r ([]) false HR.out HOK.out _ (Below.refl _ _)).mono ?_
      rintro e w2 ⟨want, rfl, hy, h2⟩
      have b2 := b1.trans (h2.mono b1.size)
      have Lout_2 := Lib.hid (Lout_1.out.below h2)
      clear Lout_1
      have Lwant_2 := Lib.hid hy.is
      clear hy h2
      go_wp2_with fail
      refine (sameP_is w2 ([]) out want (by simp) Lout_2.out Lwant_2.out _ (Below.refl _ _)).mono ?_
      rintro e w3 ⟨rfl, h3⟩
      have b3 := b2.trans (h3.mono b2.size)
      have Lout_3 := Lib.hid (Lout_2.out.below h3)
      clear Lout_2
      have Lwant_3 := Lib.hid (Lwant_2.out.below h3)
      clear Lwant_2
      clear h3
      go_wp2_with fail
      refine (sameP_is w3 ([]) out want (by simp) Lout_3.out Lwant_3.out _ (Below.refl _ _)).mono ?_
      rintro e w4 ⟨rfl, h4⟩
      have b4 := b3.trans (h4.mono b3.size)
      have Lout_4 := Lib.hid (Lout_3.out.below h4)
      clear Lout_3
      have Lwant_4 := Lib.hid (Lwant_3.out.below h4)
      clear Lwant_3
      clear h4
      go_wp2
      go_ret
      exact ⟨by first | rfl | exact retb (by simp) | exact retb (by simp; omega), HB.out.trans (b4.mono HB.out.size)⟩
    · have HOK := Lib.hid hok
      have HR := Lib.hid (show recOut l ll r = recL ll r l by rw [recOut, if_pos hok])
      have HLN := Lib.hid (show (recL ll r l).length ≤ 1000000 by rw [recL_len]; omega)
      clear hok
      obtain ⟨hz, hm⟩ := m_none HOK.out
      have HZ := Lib.hid hz; have HM := Lib.hid hm
      have HLL := Lib.hid (show l.length ≤ 1000000 by omega)
      have HO0 := Lib.hid (gr_low HOK.out)
      have HR0 := Lib.hid (show recOut l ll rlow = l by rw [recOut, if_pos (gr_low HOK.out), recL_low])
      have HRZ := Lib.hid (show recOut l ll ⟨r.area, 1, 1⟩ = recL ll ⟨r.area, 1, 1⟩ l by rw [recOut, if_pos hz])
      clear hz hm
      obtain ⟨Av, cv, hv2, _, _, _⟩ := HV.out
      subst hv2
      go_wp2_with fail
      rw [← hW]
      clear hW
      refine (iRecP_is W1 l _ HV.out ll _ (HU.out.below b0) r (recL ll r l) true HR.out HOK.out _ (Below.refl _ _)).mono ?_
      rintro e w1 ⟨out, rfl, hy, h1⟩
      have b1 := b0.trans (h1.mono b0.size)
      have Lout_1 := Lib.hid hy.is
      clear hy h1
      obtain ⟨c0, c1, c2⟩ := HC.out _ b1
      go_wp2_with fail
      refine (sRecP_is w1 l _ (HV.out.below b1) ll _ (HU.out.below b1) r (recL ll r l) true HR.out HOK.out _ (Below.refl _ _)).mono ?_
      rintro e w2 ⟨want, rfl, hy, h2⟩
      have b2 := b1.trans (h2.mono b1.size)
      have Lout_2 := Lib.hid (Lout_1.out.below h2)
      clear Lout_1
      have Lwant_2 := Lib.hid hy.is
      clear hy h2
      clear c0 c1 c2
      obtain ⟨c0, c1, c2⟩ := HC.out _ b2
      go_wp2_with fail
      refine (sameP_is w2 (recL ll r l) out want HLN.out Lout_2.out Lwant_2.out _ (Below.refl _ _)).mono ?_
      rintro e w3 ⟨rfl, h3⟩
      have b3 := b2.trans (h3.mono b2.size)
      have Lout_3 := Lib.hid (Lout_2.out.below h3)
      clear Lout_2
      have Lwant_3 := Lib.hid (Lwant_2.out.below h3)
      clear Lwant_2
      clear h3
      clear Lwant_3
      go_wp2_with fail
      refine (iRecP_is w3 l _ (HV.out.below b3) ll _ (HU.out.below b3) rlow (l) true HR0.out HO0.out _ (Below.refl _ _)).mono ?_
      rintro e w4 ⟨yy, rfl, hy, h4⟩
      have b4 := b3.trans (h4.mono b3.size)
      have Lout_4 := Lib.hid (Lout_3.out.below h4)
      clear Lout_3
      have Lyy_4 := Lib.hid hy.is
      clear hy h4
      clear c0 c1 c2
      obtain ⟨c0, c1, c2⟩ := HC.out _ b4
      go_wp2_with fail
      refine (iRecP_is w4 l _ (HV.out.below b4) ll _ (HU.out.below b4) ⟨r.area, 1, 1⟩ (recL ll ⟨r.area, 1, 1⟩ l) true HRZ.out HZ.out _ (Below.refl _ _)).mono ?_
      rintro e w5 ⟨zz, rfl, hy, h5⟩
      have b5 := b4.trans (h5.mono b4.size)
      have Lout_5 := Lib.hid (Lout_4.out.below h5)
      clear Lout_4
      have Lyy_5 := Lib.hid (Lyy_4.out.below h5)
      clear Lyy_4
      have Lzz_5 := Lib.hid hy.is
      clear hy h5
      go_wp2_with fail
      refine (sameP_is w5 (l) yy _ HLL.out Lyy_5.out (HV.out.below b5) _ (Below.refl _ _)).mono ?_
      rintro e w6 ⟨rfl, h6⟩
      have b6 := b5.trans (h6.mono b5.size)
      have Lout_6 := Lib.hid (Lout_5.out.below h6)
      clear Lout_5
      have Lyy_6 := Lib.hid (Lyy_5.out.below h6)
      clear Lyy_5
      have Lzz_6 := Lib.hid (Lzz_5.out.below h6)
      clear Lzz_5
      clear h6
      go_wp2_with fail
      refine (iMany_is w6 (recL ll ⟨r.area, 1, 1⟩ l) zz Lzz_6.out (-1) 0 0 _ HM.out _ (Below.refl _ _)).mono ?_
      rintro e w7 ⟨rfl, h7⟩
      have b7 := b6.trans (h7.mono b6.size)
      have Lout_7 := Lib.hid (Lout_6.out.below h7)
      clear Lout_6
      have Lyy_7 := Lib.hid (Lyy_6.out.below h7)
      clear Lyy_6
      have Lzz_7 := Lib.hid (Lzz_6.out.below h7)
      clear Lzz_6
      clear h7
      go_wp2
      go_ret
      exact ⟨by first | rfl | exact retb (by simp) | exact retb (by simp; omega), HB.out.trans (b7.mono HB.out.size)⟩
theorem m_once {l : List Pn} {ll : List (List Int)} {r : Rc} (hok : grOk l ll r = true) :
    (grOk l ll ⟨0, r.job, 0⟩ = true ∧ recOut l ll ⟨0, r.job, 0⟩ = recL ll ⟨0, r.job, 0⟩ l) ∧
    (grOk (recL ll ⟨0, r.job, 0⟩ l) ll ⟨0, 0, r.sex⟩ = true ∧ recOut (recL ll ⟨0, r.job, 0⟩ l) ll ⟨0, 0, r.sex⟩ = recL ll ⟨0, r.job, r.sex⟩ l) ∧
    (grOk (recL ll ⟨0, r.job, r.sex⟩ l) ll ⟨r.area, 0, 0⟩ = true ∧ recOut (recL ll ⟨0, r.job, r.sex⟩ l) ll ⟨r.area, 0, 0⟩ = recL ll r l) := by
  obtain ⟨h1, h2⟩ := gr_parts.1 hok
  obtain ⟨h0, a0, a1, j0, j1, s0, s1⟩ := rc_parts h2
  have r1 : rcOk ll ⟨0, r.job, 0⟩ = true := rc_mk h0 (by simp) (by simp) j0 j1 (by simp) (by simp)
  have r2 : rcOk ll ⟨0, 0, r.sex⟩ = true := rc_mk h0 (by simp) (by simp) (by simp) (by simp) s0 s1
  have r3 : rcOk ll ⟨0, r.job, r.sex⟩ = true := rc_mk h0 (by simp) (by simp) j0 j1 s0 s1
  have r4 : rcOk ll ⟨r.area, 0, 0⟩ = true := rc_mk h0 a0 a1 (by simp) (by simp) (by simp) (by simp)
  have g1 : grOk l ll ⟨0, r.job, 0⟩ = true := gr_parts.2 ⟨h1, r1⟩
  have g3 : grOk l ll ⟨0, r.job, r.sex⟩ = true := gr_parts.2 ⟨h1, r3⟩
  have g2 : grOk (recL ll ⟨0, r.job, 0⟩ l) ll ⟨0, 0, r.sex⟩ = true := gr_parts.2 ⟨recL_ok g1, r2⟩
  have g4 : grOk (recL ll ⟨0, r.job, r.sex⟩ l) ll ⟨r.area, 0, 0⟩ = true := gr_parts.2 ⟨recL_ok g3, r4⟩
  refine ⟨⟨g1, by rw [recOut, if_pos g1]⟩, ⟨g2, ?_⟩, ⟨g4, ?_⟩⟩
  · rw [recOut, if_pos g2]; unfold recL; rw [List.map_map]
    refine List.map_congr_left fun p _ => ?_
    simp [rec1, codeAt]
  · rw [recOut, if_pos g4]; unfold recL; rw [List.map_map]
    refine List.map_congr_left fun p _ => ?_
    simp [rec1, codeAt]
set_option maxHeartbeats 4000000 in
theorem w_RecodeOnce (A : Option Addr) (n c : Nat) (hnc : n ≤ c) (hn : n ≤ maxLen) (w : World) (hb : Bytes w w.heap.size A n) :
    Calls Try.prog 5 #[.slice A n c] w fun e w' => e = .returned (.bool true) ∧ Below w.heap.size w w' := by
  have hn2 := hn
  unfold maxLen at hn2
  rcases (show 1048576 < n ∨ ¬ 1048576 < n by omega) with hbig | hbig
  · go_enter Try.func5, Try.ntmps5
    go_wp2
    go_ret
    exact ⟨rfl, Below.refl _ _⟩
  · go_enter Try.func5, Try.ntmps5
    go_wp2_with fail
    refine ((dRecodePeople_any A n c hnc hn _ hb).mono fun _ _ h => h.byW).mono ?_
    rintro e W ⟨l, v, ll, u, r, rfl, hv, hu, hl, hll, _, _, hbW⟩
    obtain ⟨W1, hW⟩ : ∃ W1, W1 = W.alloc (.cells #[.int .i64 r.area, .int .i64 r.job, .int .i64 r.sex] TRc) := ⟨_, rfl⟩
    have hb1 : Below W.heap.size W W1 := by rw [hW]; exact (Below.refl _ _).alloc (Nat.le_refl _) _
    have hzW : W.heap.size < W1.heap.size := by rw [hW]; simp
    have e0 : W1.cell? ⟨W.heap.size, 0, none⟩ = some (.int .i64 r.area) := by rw [hW]; simp [go_sem]
    have e1 : W1.cell? ⟨W.heap.size, 1, none⟩ = some (.int .i64 r.job) := by rw [hW]; simp [go_sem]
    have e2 : W1.cell? ⟨W.heap.size, 2, none⟩ = some (.int .i64 r.sex) := by rw [hW]; simp [go_sem]
    have HC := Lib.hid (show ∀ w', Below W1.heap.size W1 w' → w'.cell? ⟨W.heap.size, 0, none⟩ = some (.int .i64 r.area) ∧ w'.cell? ⟨W.heap.size, 1, none⟩ = some (.int .i64 r.job) ∧ w'.cell? ⟨W.heap.size, 2, none⟩ = some (.int .i64 r.sex) from
      fun w' h => ⟨(h.cell (p := ⟨W.heap.size, 0, none⟩) hzW).trans e0, (h.cell (p := ⟨W.heap.size, 1, none⟩) hzW).trans e1, (h.cell (p := ⟨W.heap.size, 2, none⟩) hzW).trans e2⟩)
    have HV := Lib.hid (hv.below hb1)
    have HU := Lib.hid (hu.below hb1)
    have HB := Lib.hid (hbW.trans (hb1.mono hbW.size))
    have b0 := Below.refl W1.heap.size W1
    clear e0 e1 e2 hv hu hbW hb hb1
    have h40 : l.length ≤ 40 := by omega
    cases hok : grOk l ll r
    · have HR := Lib.hid (show recOut l ll r = [] by simp [recOut, hok])
      have HOK := Lib.hid hok; clear hok
      go_wp2_with fail
      rw [← hW]
      clear hW
      refine (iRecP_is W1 l _ HV.out ll _ (HU.out.below b0) r ([]) false HR.out HOK.out _ (Below.refl _ _)).mono ?_
      rintro e w1 ⟨out, rfl, hy, h1⟩
      have b1 := b0.trans (h1.mono b0.size)
      have Lout_1 := Lib.hid hy.is
      clear hy h1
      obtain ⟨c0, c1, c2⟩ := HC.out _ b1
      go_wp2_with fail
      refine (sRecP_is w1 l _ (HV.out.below b1) ll _ (HU.out.below b1) r ([]) false HR.out HOK.out _ (Below.refl _ _)).mono ?_
      rintro e w2 ⟨want, rfl, hy, h2⟩
      have b2 := b1.trans (h2.mono b1.size)
      have Lout_2 := Lib.hid (Lout_1.out.below h2)
      clear Lout_1
      have Lwant_2 := Lib.hid hy.is
      clear hy h2
      go_wp2_with fail
      refine (sameP_is w2 ([]) out want (by simp) Lout_2.out Lwant_2.out _ (Below.refl _ _)).mono ?_
      rintro e w3 ⟨rfl, h3⟩
      have b3 := b2.trans (h3.mono b2.size)
      have Lout_3 := Lib.hid (Lout_2.out.below h3)
      clear Lout_2
      have Lwant_3 := Lib.hid (Lwant_2.out.below h3)
      clear Lwant_2
      clear h3
      go_wp2_with fail
      refine (sameP_is w3 ([]) out want (by simp) Lout_3.out Lwant_3.out _ (Below.refl _ _)).mono ?_
      rintro e w4 ⟨rfl, h4⟩
      have b4 := b3.trans (h4.mono b3.size)
      have Lout_4 := Lib.hid (Lout_3.out.below h4)
      clear Lout_3
      have Lwant_4 := Lib.hid (Lwant_3.out.below h4)
      clear Lwant_3
      clear h4
      go_wp2
      go_ret
      exact ⟨by first | rfl | exact retb (by simp) | exact retb (by simp; omega), HB.out.trans (b4.mono HB.out.size)⟩
    · have HOK := Lib.hid hok
      have HR := Lib.hid (show recOut l ll r = recL ll r l by rw [recOut, if_pos hok])
      have HLN := Lib.hid (show (recL ll r l).length ≤ 1000000 by rw [recL_len]; omega)
      clear hok
      obtain ⟨⟨g1, e1⟩, ⟨g2, e2⟩, ⟨g3, e3⟩⟩ := m_once HOK.out
      have G1 := Lib.hid g1; have G2 := Lib.hid g2; have G3 := Lib.hid g3; have E1 := Lib.hid e1; have E2 := Lib.hid e2; have E3 := Lib.hid e3
      clear g1 g2 g3 e1 e2 e3
      obtain ⟨Av, cv, hv2, _, _, _⟩ := HV.out
      subst hv2
      go_wp2_with fail
      rw [← hW]
      clear hW
      refine (iRecP_is W1 l _ HV.out ll _ (HU.out.below b0) r (recL ll r l) true HR.out HOK.out _ (Below.refl _ _)).mono ?_
      rintro e w1 ⟨out, rfl, hy, h1⟩
      have b1 := b0.trans (h1.mono b0.size)
      have Lout_1 := Lib.hid hy.is
      clear hy h1
      obtain ⟨c0, c1, c2⟩ := HC.out _ b1
      go_wp2_with fail
      refine (sRecP_is w1 l _ (HV.out.below b1) ll _ (HU.out.below b1) r (recL ll r l) true HR.out HOK.out _ (Below.refl _ _)).mono ?_
      rintro e w2 ⟨want, rfl, hy, h2⟩
      have b2 := b1.trans (h2.mono b1.size)
      have Lout_2 := Lib.hid (Lout_1.out.below h2)
      clear Lout_1
      have Lwant_2 := Lib.hid hy.is
      clear hy h2
      clear c0 c1 c2
      obtain ⟨c0, c1, c2⟩ := HC.out _ b2
      go_wp2_with fail
      refine (sameP_is w2 (recL ll r l) out want HLN.out Lout_2.out Lwant_2.out _ (Below.refl _ _)).mono ?_
      rintro e w3 ⟨rfl, h3⟩
      have b3 := b2.trans (h3.mono b2.size)
      have Lout_3 := Lib.hid (Lout_2.out.below h3)
      clear Lout_2
      have Lwant_3 := Lib.hid (Lwant_2.out.below h3)
      clear Lwant_2
      clear h3
      clear Lwant_3
      clear c0 c1 c2
      obtain ⟨c0, c1, c2⟩ := HC.out _ b3
      go_wp2_with fail
      refine (iRecP_is w3 l _ (HV.out.below b3) ll _ (HU.out.below b3) ⟨0, r.job, 0⟩ (recL ll ⟨0, r.job, 0⟩ l) true E1.out G1.out _ (Below.refl _ _)).mono ?_
      rintro e w4 ⟨aa, rfl, hy, h4⟩
      have b4 := b3.trans (h4.mono b3.size)
      have Lout_4 := Lib.hid (Lout_3.out.below h4)
      clear Lout_3
      have Laa_4 := Lib.hid hy.is
      clear hy h4
      clear c0 c1 c2
      obtain ⟨c0, c1, c2⟩ := HC.out _ b4
      go_wp2_with fail
      refine (iRecP_is w4 _ aa Laa_4.out ll _ (HU.out.below b4) ⟨0, 0, r.sex⟩ (recL ll ⟨0, r.job, r.sex⟩ l) true E2.out G2.out _ (Below.refl _ _)).mono ?_
      rintro e w5 ⟨bb, rfl, hy, h5⟩
      have b5 := b4.trans (h5.mono b4.size)
      have Lout_5 := Lib.hid (Lout_4.out.below h5)
      clear Lout_4
      have Laa_5 := Lib.hid (Laa_4.out.below h5)
      clear Laa_4
      have Lbb_5 := Lib.hid hy.is
      clear hy h5
      clear c0 c1 c2
      obtain ⟨c0, c1, c2⟩ := HC.out _ b5
      go_wp2_with fail
      refine (iRecP_is w5 _ bb Lbb_5.out ll _ (HU.out.below b5) ⟨r.area, 0, 0⟩ (recL ll r l) true E3.out G3.out _ (Below.refl _ _)).mono ?_
      rintro e w6 ⟨cc, rfl, hy, h6⟩
      have b6 := b5.trans (h6.mono b5.size)
      have Lout_6 := Lib.hid (Lout_5.out.below h6)
      clear Lout_5
      have Laa_6 := Lib.hid (Laa_5.out.below h6)
      clear Laa_5
      have Lbb_6 := Lib.hid (Lbb_5.out.below h6)
      clear Lbb_5
      have Lcc_6 := Lib.hid hy.is
      clear hy h6
      go_wp2_with fail
      refine (sameP_is w6 (recL ll r l) cc out HLN.out Lcc_6.out Lout_6.out _ (Below.refl _ _)).mono ?_
      rintro e w7 ⟨rfl, h7⟩
      have b7 := b6.trans (h7.mono b6.size)
      have Lout_7 := Lib.hid (Lout_6.out.below h7)
      clear Lout_6
      have Laa_7 := Lib.hid (Laa_6.out.below h7)
      clear Laa_6
      have Lbb_7 := Lib.hid (Lbb_6.out.below h7)
      clear Lbb_6
      have Lcc_7 := Lib.hid (Lcc_6.out.below h7)
      clear Lcc_6
      clear h7
      go_wp2
      go_ret
      exact ⟨by first | rfl | exact retb (by simp) | exact retb (by simp; omega), HB.out.trans (b7.mono HB.out.size)⟩
theorem askA (x : List Pn) (h : okL x = true) (c : Int) (c0 : -1 ≤ c) (c1 : c ≤ 3) : many x c (-1) (-1) = cnt x c (-1) (-1) := by
  rw [many, if_pos]; simp only [askOk, h, ask3, ask1, Bool.and_eq_true, decide_eq_true_eq, true_and]; omega
/-- How many of the first k codes' people become 0. -/
def zsum (l : List Pn) (ll : List (List Int)) (a : Int) : Nat → Int
  | 0 => 0
  | k + 1 => zsum l ll a k + if codeAt ll a k = 0 then cnt l k (-1) (-1) else 0
theorem cnt_nn (l : List Pn) (a b c : Int) : 0 ≤ cnt l a b c ∧ cnt l a b c ≤ l.length := by
  unfold cnt; have := List.length_filter_le (fun p => fit3 p a b c) l; omega
theorem zsum_bd (l : List Pn) (ll : List (List Int)) (a : Int) (k : Nat) : 0 ≤ zsum l ll a k ∧ zsum l ll a k ≤ k * l.length := by
  induction k with
  | zero => simp [zsum]
  | succ k ih =>
    have h := cnt_nn l k (-1) (-1)
    simp only [zsum]
    have e : ((k + 1 : Nat) : Int) * (l.length : Int) = k * l.length + l.length := by rw [Int.natCast_add, Int.add_mul]; simp
    rw [e]
    split <;> omega
theorem cnt_consA (p : Pn) (l : List Pn) (c : Int) (c0 : 0 ≤ c) : cnt (p :: l) c (-1) (-1) = cnt l c (-1) (-1) + if p.area = c then 1 else 0 := by
  unfold cnt
  rw [List.filter_cons]
  have e : fit3 p c (-1) (-1) = decide (p.area = c) := by
    rw [Bool.eq_iff_iff]; simp only [fit3, fit1, Bool.and_eq_true, Bool.or_eq_true, decide_eq_true_eq]; omega
  rw [e]
  by_cases h : p.area = c
  · simp [h]
  · simp [h]
theorem zsum_four (l : List Pn) (ll : List (List Int)) (r : Rc) (h : ∀ p ∈ l, okP p = true) : zsum l ll r.area 4 = cnt (recL ll r l) 0 (-1) (-1) := by
  induction l with
  | nil => simp [zsum, cnt, recL]
  | cons p l ih =>
    have ih2 := ih fun q hq => h q (List.mem_cons_of_mem _ hq)
    have hp := okP_parts.1 (h p (by simp))
    have e : recL ll r (p :: l) = rec1 ll r p :: recL ll r l := rfl
    rw [e, cnt_consA _ _ 0 (by omega), ← ih2]
    have ea : (rec1 ll r p).area = codeAt ll r.area p.area := rfl
    rw [ea]
    simp only [zsum]
    rw [cnt_consA p l ((0 : Nat) : Int) (by omega), cnt_consA p l ((1 : Nat) : Int) (by omega), cnt_consA p l ((2 : Nat) : Int) (by omega), cnt_consA p l ((3 : Nat) : Int) (by omega)]
    obtain ⟨k, hk⟩ := Int.eq_ofNat_of_zero_le hp.1
    rw [hk]
    have hk4 : k = 0 ∨ k = 1 ∨ k = 2 ∨ k = 3 := by omega
    rcases hk4 with rfl | rfl | rfl | rfl
    all_goals
      generalize codeAt ll r.area ((0 : Nat) : Int) = z0
      generalize codeAt ll r.area ((1 : Nat) : Int) = z1
      generalize codeAt ll r.area ((2 : Nat) : Int) = z2
      generalize codeAt ll r.area ((3 : Nat) : Int) = z3
      generalize cnt l ((0 : Nat) : Int) (-1) (-1) = y0
      generalize cnt l ((1 : Nat) : Int) (-1) (-1) = y1
      generalize cnt l ((2 : Nat) : Int) (-1) (-1) = y2
      generalize cnt l ((3 : Nat) : Int) (-1) (-1) = y3
      by_cases e0 : z0 = 0 <;> by_cases e1 : z1 = 0 <;> by_cases e2 : z2 = 0 <;> by_cases e3 : z3 = 0 <;> simp [e0, e1, e2, e3] <;> omega
theorem m_pay {l : List Pn} {ll : List (List Int)} {r : Rc} (hok : grOk l ll r = true) :
    many (recL ll r l) (-1) (-1) (-1) = l.length ∧ pay (recL ll r l) (-1) (-1) (-1) = pay l (-1) (-1) (-1) ∧ many (recL ll r l) 0 (-1) (-1) = zsum l ll r.area 4 := by
  obtain ⟨h1, h2⟩ := gr_parts.1 hok
  have h3 := recL_ok hok
  have hf : ∀ x : List Pn, x.filter (fun p => fit3 p (-1) (-1) (-1)) = x := fun x => List.filter_eq_self.2 fun p _ => by simp [fit3, fit1]
  refine ⟨by rw [askA _ h3 _ (by omega) (by omega), cnt, hf, recL_len], ?_, by rw [askA _ h3 _ (by omega) (by omega), zsum_four l ll r (okL_mem h1)]⟩
  have e1 : askOk (recL ll r l) (-1) (-1) (-1) = true := by simp [askOk, h3, ask3, ask1]
  have e2 : askOk l (-1) (-1) (-1) = true := by simp [askOk, h1, ask3, ask1]
  rw [pay, if_pos e1, pay, if_pos e2, psum, psum, hf, hf, recL, List.map_map]; rfl
set_option maxHeartbeats 4000000 in
theorem w_RecodePay (A : Option Addr) (n c : Nat) (hnc : n ≤ c) (hn : n ≤ maxLen) (w : World) (hb : Bytes w w.heap.size A n) :
    Calls Try.prog 6 #[.slice A n c] w fun e w' => e = .returned (.bool true) ∧ Below w.heap.size w w' := by
  have hn2 := hn
  unfold maxLen at hn2
  rcases (show 1048576 < n ∨ ¬ 1048576 < n by omega) with hbig | hbig
  · go_enter Try.func6, Try.ntmps6
    go_wp2
    go_ret
    exact ⟨rfl, Below.refl _ _⟩
  · go_enter Try.func6, Try.ntmps6
    go_wp2_with fail
    refine ((dRecodePeople_any A n c hnc hn _ hb).mono fun _ _ h => h.byW).mono ?_
    rintro e W ⟨l, v, ll, u, r, rfl, hv, hu, hl, hll, _, _, hbW⟩
    obtain ⟨W1, hW⟩ : ∃ W1, W1 = W.alloc (.cells #[.int .i64 r.area, .int .i64 r.job, .int .i64 r.sex] TRc) := ⟨_, rfl⟩
    have hb1 : Below W.heap.size W W1 := by rw [hW]; exact (Below.refl _ _).alloc (Nat.le_refl _) _
    have hzW : W.heap.size < W1.heap.size := by rw [hW]; simp
    have e0 : W1.cell? ⟨W.heap.size, 0, none⟩ = some (.int .i64 r.area) := by rw [hW]; simp [go_sem]
    have e1 : W1.cell? ⟨W.heap.size, 1, none⟩ = some (.int .i64 r.job) := by rw [hW]; simp [go_sem]
    have e2 : W1.cell? ⟨W.heap.size, 2, none⟩ = some (.int .i64 r.sex) := by rw [hW]; simp [go_sem]
    have HC := Lib.hid (show ∀ w', Below W1.heap.size W1 w' → w'.cell? ⟨W.heap.size, 0, none⟩ = some (.int .i64 r.area) ∧ w'.cell? ⟨W.heap.size, 1, none⟩ = some (.int .i64 r.job) ∧ w'.cell? ⟨W.heap.size, 2, none⟩ = some (.int .i64 r.sex) from
      fun w' h => ⟨(h.cell (p := ⟨W.heap.size, 0, none⟩) hzW).trans e0, (h.cell (p := ⟨W.heap.size, 1, none⟩) hzW).trans e1, (h.cell (p := ⟨W.heap.size, 2, none⟩) hzW).trans e2⟩)
    have HV := Lib.hid (hv.below hb1)
    have HU := Lib.hid (hu.below hb1)
    have HB := Lib.hid (hbW.trans (hb1.mono hbW.size))
    have b0 := Below.refl W1.heap.size W1
    clear e0 e1 e2 hv hu hbW hb hb1
    have h40 : l.length ≤ 40 := by omega
    cases hok : grOk l ll r
    · have HR := Lib.hid (show recOut l ll r = [] by simp [recOut, hok])
      have HOK := Lib.hid hok; clear hok
      go_wp2_with fail
      rw [← hW]
      clear hW
      refine (iRecP_is W1 l _ HV.out ll _ (HU.out.below b0) r ([]) false HR.out HOK.out _ (Below.refl _ _)).mono ?_
      rintro e w1 ⟨out, rfl, hy, h1⟩
      have b1 := b0.trans (h1.mono b0.size)
      have Lout_1 := Lib.hid hy.is
      clear hy h1
      obtain ⟨c0, c1, c2⟩ := HC.out _ b1
      go_wp2_with fail
      refine (sRecP_is w1 l _ (HV.out.below b1) ll _ (HU.out.below b1) r ([]) false HR.out HOK.out _ (Below.refl _ _)).mono ?_
      rintro e w2 ⟨want, rfl, hy, h2⟩
      have b2 := b1.trans (h2.mono b1.size)
      have Lout_2 := Lib.hid (Lout_1.out.below h2)
      clear Lout_1
      have Lwant_2 := Lib.hid hy.is
      clear hy h2
      go_wp2_with fail
      refine (sameP_is w2 ([]) out want (by simp) Lout_2.out Lwant_2.out _ (Below.refl _ _)).mono ?_
      rintro e w3 ⟨rfl, h3⟩
      have b3 := b2.trans (h3.mono b2.size)
      have Lout_3 := Lib.hid (Lout_2.out.below h3)
      clear Lout_2
      have Lwant_3 := Lib.hid (Lwant_2.out.below h3)
      clear Lwant_2
      clear h3
      go_wp2_with fail
      refine (sameP_is w3 ([]) out want (by simp) Lout_3.out Lwant_3.out _ (Below.refl _ _)).mono ?_
      rintro e w4 ⟨rfl, h4⟩
      have b4 := b3.trans (h4.mono b3.size)
      have Lout_4 := Lib.hid (Lout_3.out.below h4)
      clear Lout_3
      have Lwant_4 := Lib.hid (Lwant_3.out.below h4)
      clear Lwant_3
      clear h4
      go_wp2
      go_ret
      exact ⟨by first | rfl | exact retb (by simp) | exact retb (by simp; omega), HB.out.trans (b4.mono HB.out.size)⟩
    · have HOK := Lib.hid hok
      have HR := Lib.hid (show recOut l ll r = recL ll r l by rw [recOut, if_pos hok])
      have HLN := Lib.hid (show (recL ll r l).length ≤ 1000000 by rw [recL_len]; omega)
      clear hok
      obtain ⟨m1, m2, m3⟩ := m_pay HOK.out
      obtain ⟨P, hP⟩ : ∃ P, pay l (-1) (-1) (-1) = P := ⟨_, rfl⟩
      rw [hP] at m2
      have M1 := Lib.hid m1; have M2 := Lib.hid m2; have M3 := Lib.hid m3; have HP := Lib.hid hP
      have hrc := gr_parts.1 HOK.out
      obtain ⟨h0, a0, a1, _, _, _, _⟩ := rc_parts hrc.2
      have HL0 := Lib.hid h0
      have HOL := Lib.hid hrc.1
      clear m1 m2 m3 hP hrc h0
      obtain ⟨Av, cv, hv2, _, _, _⟩ := HV.out
      subst hv2
      go_wp2_with fail
      rw [← hW]
      clear hW
      refine (iRecP_is W1 l _ HV.out ll _ (HU.out.below b0) r (recL ll r l) true HR.out HOK.out _ (Below.refl _ _)).mono ?_
      rintro e w1 ⟨out, rfl, hy, h1⟩
      have b1 := b0.trans (h1.mono b0.size)
      have Lout_1 := Lib.hid hy.is
      clear hy h1
      obtain ⟨c0, c1, c2⟩ := HC.out _ b1
      go_wp2_with fail
      refine (sRecP_is w1 l _ (HV.out.below b1) ll _ (HU.out.below b1) r (recL ll r l) true HR.out HOK.out _ (Below.refl _ _)).mono ?_
      rintro e w2 ⟨want, rfl, hy, h2⟩
      have b2 := b1.trans (h2.mono b1.size)
      have Lout_2 := Lib.hid (Lout_1.out.below h2)
      clear Lout_1
      have Lwant_2 := Lib.hid hy.is
      clear hy h2
      clear c0 c1 c2
      obtain ⟨c0, c1, c2⟩ := HC.out _ b2
      go_wp2_with fail
      refine (sameP_is w2 (recL ll r l) out want HLN.out Lout_2.out Lwant_2.out _ (Below.refl _ _)).mono ?_
      rintro e w3 ⟨rfl, h3⟩
      have b3 := b2.trans (h3.mono b2.size)
      have Lout_3 := Lib.hid (Lout_2.out.below h3)
      clear Lout_2
      have Lwant_3 := Lib.hid (Lwant_2.out.below h3)
      clear Lwant_2
      clear h3
      clear Lwant_3
      clear c0 c1 c2
      have HB3 := Lib.hid b3
      go_wp2
      go_loopw [10, 11] (fun f i wr => ∃ k : Nat, k ≤ 4 ∧ i = .int .i64 k ∧ f = .int .i64 (zsum l ll r.area k) ∧ Below w3.heap.size w3 wr) (fun _ i _ => 4 - (intOf i).toNat)
      case atStart => exact ⟨0, by omega, rfl, rfl, Below.refl _ _⟩
      case round =>
        obtain ⟨k, hk, rfl, rfl, hb⟩ := hrel
        have hbr := HB3.out.trans (hb.mono HB3.out.size)
        have hzb := zsum_bd l ll r.area k
        have HZN := Lib.hid (show zsum l ll r.area (k + 1) = zsum l ll r.area k + if codeAt ll r.area k = 0 then cnt l k (-1) (-1) else 0 from rfl)
        have HZE := Lib.hid (show k = 4 → many (recL ll r l) 0 (-1) (-1) = zsum l ll r.area k from fun h => by rw [h]; exact M3.out)
        have hz2 : zsum l ll r.area k ≤ 400 := by
          have : (k : Int) * l.length ≤ 4 * 10 := Int.mul_le_mul (by omega) (by omega) (by omega) (by omega)
          omega
        have hz1 := hzb.1
        clear hzb
        obtain ⟨s, hs⟩ : ∃ s, zsum l ll r.area k = s := ⟨_, rfl⟩
        rw [hs] at HZN HZE hz1 hz2 ⊢
        clear hs
        by_cases hlt : k < 4
        · have hki : (k : Int) < 4 := by omega
          have HT := Lib.hid (show codeOk ll r.area k = true from codeOk_parts.2 ⟨HL0.out, in3_parts.2 ⟨a0, a1⟩, in3_parts.2 ⟨by omega, by omega⟩⟩)
          have HX := Lib.hid (show lcode ll r.area k = codeAt ll r.area k by rw [lcode, if_pos HT.out])
          have HM := Lib.hid (askA l HOL.out k (by omega) (by omega))
          have hc2 := cnt_nn l k (-1) (-1)
          obtain ⟨x, hx⟩ : ∃ x, codeAt ll r.area k = x := ⟨_, rfl⟩
          obtain ⟨z, hz⟩ : ∃ z, cnt l k (-1) (-1) = z := ⟨_, rfl⟩
          rw [hx] at HX HZN
          rw [hz] at HM HZN hc2
          obtain ⟨c0, c1, c2⟩ := HC.out _ hbr
          clear hx hz
          go_wp2_with fail
          refine (iLCode_is _ ll _ (HU.out.below hbr) r.area k x true HX.out HT.out _ (Below.refl _ _)).mono ?_
          rintro e w4 ⟨rfl, b4⟩
          have hbr4 := hbr.trans (b4.mono hbr.size)
          have hb4 := hb.trans (b4.mono hb.size)
          by_cases hx0 : x = 0
          · have hxb : (x == 0) = true := by rw [beq_iff_eq]; exact hx0
            have HZ2 := Lib.hid (show zsum l ll r.area (k + 1) = s + z by rw [HZN.out, if_pos hx0])
            clear hx0 c0 c1 c2
            go_wp2_with fail
            refine (iMany_is _ l _ (HV.out.below hbr4) k (-1) (-1) z HM.out _ (Below.refl _ _)).mono ?_
            rintro e w5 ⟨rfl, b5⟩
            go_wp2
            go_roundw
            case rel => exact ⟨k + 1, by omega, by go_num, by rw [HZ2.out], hb4.trans (b5.mono hb4.size)⟩
            case measure => simp [intOf]; omega
          · have hxb : (x == 0) = false := by rw [beq_eq_false_iff_ne]; exact hx0
            have HZ2 := Lib.hid (show zsum l ll r.area (k + 1) = s by rw [HZN.out, if_neg hx0, Int.add_zero])
            clear hx0 c0 c1 c2
            go_wp2
            go_roundw
            case rel => exact ⟨k + 1, by omega, by go_num, by rw [HZ2.out], hb4⟩
            case measure => simp [intOf]; omega
        · have hki : ¬ (k : Int) < 4 := by omega
          have HZF := Lib.hid (HZE.out (by omega))
          have HO := Lib.hid (Lout_3.out.below hb)
          clear HZE HZN
          go_wp2_with fail
          refine (iMany_is _ (recL ll r l) out HO.out (-1) (-1) (-1) _ M1.out _ (Below.refl _ _)).mono ?_
          rintro e w4 ⟨rfl, b4⟩
          go_wp2_with fail
          refine (iPay_is _ (recL ll r l) out (HO.out.below b4) (-1) (-1) (-1) _ M2.out _ (Below.refl _ _)).mono ?_
          rintro e w5 ⟨rfl, b5⟩
          have b45 := b4.trans (b5.mono b4.size)
          have hbr5 := hbr.trans (b45.mono hbr.size)
          go_wp2_with fail
          refine (iPay_is _ l _ (HV.out.below hbr5) (-1) (-1) (-1) _ HP.out _ (Below.refl _ _)).mono ?_
          rintro e w6 ⟨rfl, b6⟩
          have b46 := b45.trans (b6.mono b45.size)
          go_wp2_with fail
          refine (iMany_is _ (recL ll r l) out (HO.out.below b46) 0 (-1) (-1) _ HZF.out _ (Below.refl _ _)).mono ?_
          rintro e w7 ⟨rfl, b7⟩
          have hb7 := hbr.trans ((b46.trans (b7.mono b46.size)).mono hbr.size)
          go_wp2
          go_ret
          exact ⟨by first | rfl | exact retb (by simp), HB.out.trans (hb7.mono HB.out.size)⟩
theorem m_recPeople {l : List Pn} {ll : List (List Int)} {r : Rc} (hok : grOk l ll r = true) : grOk (recL ll r l) ll r = true ∧ recOut (recL ll r l) ll r = recL ll r l := by
  obtain ⟨h1, h2⟩ := gr_parts.1 hok
  have g : grOk (recL ll r l) ll r = true := gr_parts.2 ⟨recL_ok hok, h2⟩
  exact ⟨g, by rw [recOut, if_pos g, recL_chain h1 h2 h2 ⟨Int.le_refl _, Int.le_refl _, Int.le_refl _⟩]⟩
theorem m_recAt {l : List Pn} {ll : List (List Int)} {r : Rc} (hok : grOk l ll r = true) {i : Nat} (hi : i < l.length) (hx : i < (recL ll r l).length) :
    (recL ll r l)[i].pay = l[i].pay ∧ (recL ll r l)[i].area ≤ l[i].area ∧ (recL ll r l)[i].job ≤ l[i].job ∧ (recL ll r l)[i].sex ≤ l[i].sex := by
  obtain ⟨h1, h2⟩ := gr_parts.1 hok
  have e : (recL ll r l)[i] = rec1 ll r l[i] := by simp [recL]
  rw [e]
  obtain ⟨_, b, c, d⟩ := rec1_ok h2 (okL_mem h1 l[i] (List.getElem_mem hi))
  exact ⟨rfl, b, c, d⟩
set_option maxRecDepth 100000 in
set_option maxHeartbeats 4000000 in
theorem w_RecodePeople (A : Option Addr) (n c : Nat) (hnc : n ≤ c) (hn : n ≤ maxLen) (w : World) (hb : Bytes w w.heap.size A n) :
    Calls Try.prog 3 #[.slice A n c] w fun e w' => e = .returned (.bool true) ∧ Below w.heap.size w w' := by
  have hn2 := hn
  unfold maxLen at hn2
  rcases (show 1048576 < n ∨ ¬ 1048576 < n by omega) with hbig | hbig
  · go_enter Try.func3, Try.ntmps3
    go_wp2
    go_ret
    exact ⟨rfl, Below.refl _ _⟩
  · go_enter Try.func3, Try.ntmps3
    go_wp2_with fail
    refine ((dRecodePeople_any A n c hnc hn _ hb).mono fun _ _ h => h.byW).mono ?_
    rintro e W ⟨l, v, ll, u, r, rfl, hv, hu, hl, hll, _, _, hbW⟩
    obtain ⟨W1, hW⟩ : ∃ W1, W1 = W.alloc (.cells #[.int .i64 r.area, .int .i64 r.job, .int .i64 r.sex] TRc) := ⟨_, rfl⟩
    have hb1 : Below W.heap.size W W1 := by rw [hW]; exact (Below.refl _ _).alloc (Nat.le_refl _) _
    have hzW : W.heap.size < W1.heap.size := by rw [hW]; simp
    have e0 : W1.cell? ⟨W.heap.size, 0, none⟩ = some (.int .i64 r.area) := by rw [hW]; simp [go_sem]
    have e1 : W1.cell? ⟨W.heap.size, 1, none⟩ = some (.int .i64 r.job) := by rw [hW]; simp [go_sem]
    have e2 : W1.cell? ⟨W.heap.size, 2, none⟩ = some (.int .i64 r.sex) := by rw [hW]; simp [go_sem]
    have HC := Lib.hid (show ∀ w', Below W1.heap.size W1 w' → w'.cell? ⟨W.heap.size, 0, none⟩ = some (.int .i64 r.area) ∧ w'.cell? ⟨W.heap.size, 1, none⟩ = some (.int .i64 r.job) ∧ w'.cell? ⟨W.heap.size, 2, none⟩ = some (.int .i64 r.sex) from
      fun w' h => ⟨(h.cell (p := ⟨W.heap.size, 0, none⟩) hzW).trans e0, (h.cell (p := ⟨W.heap.size, 1, none⟩) hzW).trans e1, (h.cell (p := ⟨W.heap.size, 2, none⟩) hzW).trans e2⟩)
    have HV := Lib.hid (hv.below hb1)
    have HU := Lib.hid (hu.below hb1)
    have HB := Lib.hid (hbW.trans (hb1.mono hbW.size))
    have b0 := Below.refl W1.heap.size W1
    clear e0 e1 e2 hv hu hbW hb hb1
    have h40 : l.length ≤ 40 := by omega
    cases hok : grOk l ll r
    · have HR := Lib.hid (show recOut l ll r = [] by simp [recOut, hok])
      have HOK := Lib.hid hok; clear hok
      go_wp2_with fail
      rw [← hW]
      clear hW
      refine (iRecP_is W1 l _ HV.out ll _ (HU.out.below b0) r ([]) false HR.out HOK.out _ (Below.refl _ _)).mono ?_
      rintro e w1 ⟨out, rfl, hy, h1⟩
      have b1 := b0.trans (h1.mono b0.size)
      have Lout_1 := Lib.hid hy.is
      clear hy h1
      obtain ⟨c0, c1, c2⟩ := HC.out _ b1
      go_wp2_with fail
      refine (sRecP_is w1 l _ (HV.out.below b1) ll _ (HU.out.below b1) r ([]) false HR.out HOK.out _ (Below.refl _ _)).mono ?_
      rintro e w2 ⟨want, rfl, hy, h2⟩
      have b2 := b1.trans (h2.mono b1.size)
      have Lout_2 := Lib.hid (Lout_1.out.below h2)
      clear Lout_1
      have Lwant_2 := Lib.hid hy.is
      clear hy h2
      go_wp2_with fail
      refine (sameP_is w2 ([]) out want (by simp) Lout_2.out Lwant_2.out _ (Below.refl _ _)).mono ?_
      rintro e w3 ⟨rfl, h3⟩
      have b3 := b2.trans (h3.mono b2.size)
      have Lout_3 := Lib.hid (Lout_2.out.below h3)
      clear Lout_2
      have Lwant_3 := Lib.hid (Lwant_2.out.below h3)
      clear Lwant_2
      clear h3
      go_wp2_with fail
      refine (sameP_is w3 ([]) out want (by simp) Lout_3.out Lwant_3.out _ (Below.refl _ _)).mono ?_
      rintro e w4 ⟨rfl, h4⟩
      have b4 := b3.trans (h4.mono b3.size)
      have Lout_4 := Lib.hid (Lout_3.out.below h4)
      clear Lout_3
      have Lwant_4 := Lib.hid (Lwant_3.out.below h4)
      clear Lwant_3
      clear h4
      go_wp2
      go_ret
      exact ⟨by first | rfl | exact retb (by simp) | exact retb (by simp; omega), HB.out.trans (b4.mono HB.out.size)⟩
    · have HOK := Lib.hid hok
      have HR := Lib.hid (show recOut l ll r = recL ll r l by rw [recOut, if_pos hok])
      have HLN := Lib.hid (show (recL ll r l).length ≤ 1000000 by rw [recL_len]; omega)
      clear hok
      obtain ⟨g1, e1⟩ := m_recPeople HOK.out
      have G1 := Lib.hid g1; have E1 := Lib.hid e1
      have HOKL := Lib.hid (recL_ok HOK.out)
      clear g1 e1
      obtain ⟨Av, cv, hv2, _, _, hrow1⟩ := HV.out
      subst hv2
      go_wp2_with fail
      rw [← hW]
      clear hW
      refine (iRecP_is W1 l _ HV.out ll _ (HU.out.below b0) r (recL ll r l) true HR.out HOK.out _ (Below.refl _ _)).mono ?_
      rintro e w1 ⟨out, rfl, hy, h1⟩
      have b1 := b0.trans (h1.mono b0.size)
      have Lout_1 := Lib.hid hy.is
      clear hy h1
      obtain ⟨c0, c1, c2⟩ := HC.out _ b1
      go_wp2_with fail
      refine (sRecP_is w1 l _ (HV.out.below b1) ll _ (HU.out.below b1) r (recL ll r l) true HR.out HOK.out _ (Below.refl _ _)).mono ?_
      rintro e w2 ⟨want, rfl, hy, h2⟩
      have b2 := b1.trans (h2.mono b1.size)
      have Lout_2 := Lib.hid (Lout_1.out.below h2)
      clear Lout_1
      have Lwant_2 := Lib.hid hy.is
      clear hy h2
      clear c0 c1 c2
      obtain ⟨c0, c1, c2⟩ := HC.out _ b2
      go_wp2_with fail
      refine (sameP_is w2 (recL ll r l) out want HLN.out Lout_2.out Lwant_2.out _ (Below.refl _ _)).mono ?_
      rintro e w3 ⟨rfl, h3⟩
      have b3 := b2.trans (h3.mono b2.size)
      have Lout_3 := Lib.hid (Lout_2.out.below h3)
      clear Lout_2
      have Lwant_3 := Lib.hid (Lwant_2.out.below h3)
      clear Lwant_2
      clear h3
      clear Lwant_3
      clear c0 c1 c2
      obtain ⟨c0, c1, c2⟩ := HC.out _ b3
      go_wp2_with fail
      refine (iRecP_is w3 _ out Lout_3.out ll _ (HU.out.below b3) r (recL ll r l) true E1.out G1.out _ (Below.refl _ _)).mono ?_
      rintro e w4 ⟨yy, rfl, hy, h4⟩
      have b4 := b3.trans (h4.mono b3.size)
      have Lout_4 := Lib.hid (Lout_3.out.below h4)
      clear Lout_3
      have Lyy_4 := Lib.hid hy.is
      clear hy h4
      clear c0 c1 c2
      obtain ⟨Ao, co, hov, _, _, hrow2⟩ := Lout_4.out
      subst hov
      have HR1 := Lib.hid hrow1; have HR2 := Lib.hid hrow2
      rw [recL_len]
      obtain ⟨q, hq⟩ : ∃ q, l.length = q := ⟨_, rfl⟩
      have HQ := Lib.hid hq
      have HLO := Lib.hid (show IsP w4 (.slice Ao l.length co) (recL ll r l) by have h := Lout_4.out; rw [recL_len] at h; exact h)
      have HLY := Lyy_4
      rw [hq] at HV HLO hl ⊢
      have HB4 := Lib.hid b4
      clear hrow1 hrow2 hq
      go_wp2
      go_loopw [12] (fun i wr => ∃ k : Nat, k ≤ q ∧ i = .int .i64 k ∧ Below w4.heap.size w4 wr) (fun i _ => q - (intOf i).toNat)
      case atStart => exact ⟨0, Nat.zero_le _, rfl, Below.refl _ _⟩
      case round =>
        obtain ⟨k, hk, rfl, hb⟩ := hrel
        by_cases hlt : k < q
        · have hki : (k : Int) < (q : Int) := by omega
          have hil : k < l.length := by rw [HQ.out]; exact hlt
          have hix : k < (recL ll r l).length := by rw [recL_len]; exact hil
          obtain ⟨b1', o1, rfl, hb1, q0, q1, q2, q3⟩ := (HR1.out.below (HB4.out.trans (hb.mono HB4.out.size)) (Nat.le_refl _)).at_ k hil
          obtain ⟨b2', o2, rfl, hb2, e0, e1, e2, e3⟩ := (HR2.out.below hb (Nat.le_refl _)).at_ k hix
          obtain ⟨f1, f2, f3, f4⟩ := m_recAt HOK.out hil hix
          obtain ⟨p, hp⟩ : ∃ p, l[k] = p := ⟨_, rfl⟩
          obtain ⟨p2, hp2⟩ : ∃ p2, (recL ll r l)[k] = p2 := ⟨_, rfl⟩
          rw [hp] at q0 q1 q2 q3 f1 f2 f3 f4
          rw [hp2] at e0 e1 e2 e3 f1 f2 f3 f4
          have hpb : (p2.pay != p.pay) = false := by simp [f1]
          have ha : ¬ p.area < p2.area := by omega
          have hj : ¬ p.job < p2.job := by omega
          have hs : ¬ p.sex < p2.sex := by omega
          clear hp hp2 f1 f2 f3 f4 hil hix
          go_wp2
          go_quiet (fail)
          go_wp2
          go_roundw
          case rel => exact ⟨k + 1, by omega, by go_num, below_draws hb nq⟩
          case measure => simp [intOf]; omega
        · have hki : ¬ (k : Int) < (q : Int) := by omega
          have HL2 := Lib.hid (HLO.out.below hb)
          go_wp2_with fail
          refine (sameP_is _ (recL ll r l) yy _ HLN.out (HLY.out.below hb) HL2.out _ (Below.refl _ _)).mono ?_
          rintro e w5 ⟨rfl, b5⟩
          go_wp2_with fail
          refine (iPeopleValid_is _ (recL ll r l) _ (HL2.out.below b5) true HOKL.out _ (Below.refl _ _)).mono ?_
          rintro e w6 ⟨rfl, b6⟩
          have hb6 := HB4.out.trans ((hb.trans ((b5.trans (b6.mono b5.size)).mono hb.size)).mono HB4.out.size)
          go_wp2
          go_ret
          exact ⟨by first | rfl | exact retb (by simp), HB.out.trans (hb6.mono HB.out.size)⟩
end Go.Proofs.Ytbbgakbobefplaa
