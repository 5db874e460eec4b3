/- Laws of chapter 4 on kept people, found again. -/
import Derived.Test.YteelbmbedcfkdaaAI2
import Derived.Test.YteelbmbedcfkdaaAS
import Derived.Test.YteelbmbedcfkdaaAD
import Derived.Test.YteelbmbedcfkdaaA2
import Derived.Test.YteelbmbedcfkdaaA4
import Derived.Deep.RegionHeld3
namespace Go.Proofs.Yteelbmbedcfkdaa
open Go.RowKit
theorem pn_ne {p q : Pn} (h : ¬ p = q) : (p.area == q.area) = false ∨ (p.area = q.area ∧ (p.job == q.job) = false) ∨ (p.area = q.area ∧ p.job = q.job ∧ (p.sex == q.sex) = false) ∨ (p.area = q.area ∧ p.job = q.job ∧ p.sex = q.sex ∧ (p.pay == q.pay) = false) := by
  obtain ⟨a, b, c, d⟩ := p
  obtain ⟨a', b', c', d'⟩ := q
  simp only [beq_eq_false_iff_ne]
  by_cases h1 : a = a'
  · by_cases h2 : b = b'
    · by_cases h3 : c = c'
      · by_cases h4 : d = d'
        · exact absurd (by rw [h1, h2, h3, h4]) h
        · exact .inr (.inr (.inr ⟨h1, h2, h3, h4⟩))
      · exact .inr (.inr (.inl ⟨h1, h2, h3⟩))
    · exact .inr (.inl ⟨h1, h2⟩)
  · exact .inl h1
set_option maxHeartbeats 8000000 in
theorem w_KeepPeople (A : Option Addr) (n c : Nat) (hnc : n ≤ c) (hn : n ≤ maxLen) (w : World) (hb : Bytes w w.heap.size A n) :
    Calls Try.prog 7 #[.slice A n c] w fun e w' => e = .returned (.bool true) ∧ Below w.heap.size w w' := by
  have hn2 := hn
  unfold maxLen at hn2
  rcases (show 1048576 < n ∨ ¬ 1048576 < n by omega) with hbig | hbig
  · go_enter Try.func7, Try.ntmps7
    go_wp2
    go_ret
    exact ⟨rfl, Below.refl _ _⟩
  · go_enter Try.func7, Try.ntmps7
    go_wp2_with fail
    refine (dAnonKeep_any A n c hnc hn _ hb).mono ?_
    rintro e W ⟨l, v, ll, u, r, k, rfl, hv, hu, hl, hll, _, k0, k1, hbW⟩
    obtain ⟨W1, hW⟩ : ∃ W1, W1 = W.alloc (.cells #[.int .i64 r.area, .int .i64 r.job, .int .i64 r.sex] TRc) := ⟨_, rfl⟩
    have hb1 : Below W.heap.size W W1 := by rw [hW]; exact (Below.refl _ _).alloc (Nat.le_refl _) _
    have hzW : W.heap.size < W1.heap.size := by rw [hW]; simp
    have e0 : W1.cell? ⟨W.heap.size, 0, none⟩ = some (.int .i64 r.area) := by rw [hW]; simp [go_sem]
    have e1 : W1.cell? ⟨W.heap.size, 1, none⟩ = some (.int .i64 r.job) := by rw [hW]; simp [go_sem]
    have e2 : W1.cell? ⟨W.heap.size, 2, none⟩ = some (.int .i64 r.sex) := by rw [hW]; simp [go_sem]
    have HC := Lib.hid (show ∀ w', Below W1.heap.size W1 w' → w'.cell? ⟨W.heap.size, 0, none⟩ = some (.int .i64 r.area) ∧ w'.cell? ⟨W.heap.size, 1, none⟩ = some (.int .i64 r.job) ∧ w'.cell? ⟨W.heap.size, 2, none⟩ = some (.int .i64 r.sex) from
      fun w' h => ⟨(h.cell (p := ⟨W.heap.size, 0, none⟩) hzW).trans e0, (h.cell (p := ⟨W.heap.size, 1, none⟩) hzW).trans e1, (h.cell (p := ⟨W.heap.size, 2, none⟩) hzW).trans e2⟩)
    have HV := Lib.hid (hv.below hb1)
    have HU := Lib.hid (hu.below hb1)
    have HB := Lib.hid (hbW.trans (hb1.mono hbW.size))
    have b0 := Below.refl W1.heap.size W1
    clear e0 e1 e2 hv hu hbW hb hb1
    cases hok : adOk l ll r k
    · have HR := Lib.hid (akeep_no hok)
      have HOK := Lib.hid hok; clear hok
      go_wp2_with fail
      rw [← hW]
      clear hW
      refine (iAKeep_is W1 l _ HV.out ll _ (HU.out.below b0) r k ([]) false HR.out HOK.out _ (Below.refl _ _)).mono ?_
      rintro e w1 ⟨out, rfl, hy, h1⟩
      have b1 := b0.trans (h1.mono b0.size)
      have Lout_1 := Lib.hid hy.is
      clear hy h1
      obtain ⟨c0, c1, c2⟩ := HC.out _ b1
      go_wp2_with fail
      refine (sAKeep_is w1 l _ (HV.out.below b1) ll _ (HU.out.below b1) r k ([]) false HR.out HOK.out _ (Below.refl _ _)).mono ?_
      rintro e w2 ⟨want, rfl, hy, h2⟩
      have b2 := b1.trans (h2.mono b1.size)
      have Lout_2 := Lib.hid (Lout_1.out.below h2)
      clear Lout_1
      have Lwant_2 := Lib.hid hy.is
      clear hy h2
      go_wp2_with fail
      refine (sameP_is w2 ([]) out want (by simp) Lout_2.out Lwant_2.out _ (Below.refl _ _)).mono ?_
      rintro e w3 ⟨rfl, h3⟩
      have b3 := b2.trans (h3.mono b2.size)
      have Lout_3 := Lib.hid (Lout_2.out.below h3)
      clear Lout_2
      have Lwant_3 := Lib.hid (Lwant_2.out.below h3)
      clear Lwant_2
      clear h3
      go_wp2_with fail
      refine (sameP_is w3 ([]) out want (by simp) Lout_3.out Lwant_3.out _ (Below.refl _ _)).mono ?_
      rintro e w4 ⟨rfl, h4⟩
      have b4 := b3.trans (h4.mono b3.size)
      have Lout_4 := Lib.hid (Lout_3.out.below h4)
      clear Lout_3
      have Lwant_4 := Lib.hid (Lwant_3.out.below h4)
      clear Lwant_3
      clear h4
      go_wp2
      go_ret
      exact ⟨by first | rfl | exact retb (by simp) | exact retb (by simp; omega), HB.out.trans (b4.mono HB.out.size)⟩
    · have HOK := Lib.hid hok
      obtain ⟨m1, m2, m3⟩ := m_keepPeople hok
      have hgr := (ad_parts.1 hok).1
      have hxl := akeep_len l ll r k
      obtain ⟨x, hx⟩ : ∃ x, akeep l ll r k = x := ⟨_, rfl⟩
      rw [hx] at m3 hxl
      obtain ⟨Y, hY⟩ : ∃ Y, recL ll r l = Y := ⟨_, rfl⟩
      rw [hY] at m2 m3
      have hYl : Y.length = l.length := by rw [← hY, recL_len]
      have HR := Lib.hid hx; have M1 := Lib.hid m1; have M2 := Lib.hid m2; have M3 := Lib.hid m3; have HG := Lib.hid hgr
      have HRY := Lib.hid (show recOut l ll r = Y by rw [recOut, if_pos hgr]; exact hY)
      have HLN := Lib.hid (show x.length ≤ 1000000 by omega); have HLY := Lib.hid (show Y.length ≤ 1000000 by omega)
      have HYL := Lib.hid hYl
      clear hx hY m1 m2 m3 hgr hYl
      clear hok
      go_wp2_with fail
      rw [← hW]
      clear hW
      refine (iAKeep_is W1 l _ HV.out ll _ (HU.out.below b0) r k (x) true HR.out HOK.out _ (Below.refl _ _)).mono ?_
      rintro e w1 ⟨out, rfl, hy, h1⟩
      have b1 := b0.trans (h1.mono b0.size)
      have Lout_1 := Lib.hid hy.is
      clear hy h1
      obtain ⟨c0, c1, c2⟩ := HC.out _ b1
      go_wp2_with fail
      refine (sAKeep_is w1 l _ (HV.out.below b1) ll _ (HU.out.below b1) r k (x) true HR.out HOK.out _ (Below.refl _ _)).mono ?_
      rintro e w2 ⟨want, rfl, hy, h2⟩
      have b2 := b1.trans (h2.mono b1.size)
      have Lout_2 := Lib.hid (Lout_1.out.below h2)
      clear Lout_1
      have Lwant_2 := Lib.hid hy.is
      clear hy h2
      clear c0 c1 c2
      obtain ⟨c0, c1, c2⟩ := HC.out _ b2
      go_wp2_with fail
      refine (sameP_is w2 (x) out want HLN.out Lout_2.out Lwant_2.out _ (Below.refl _ _)).mono ?_
      rintro e w3 ⟨rfl, h3⟩
      have b3 := b2.trans (h3.mono b2.size)
      have Lout_3 := Lib.hid (Lout_2.out.below h3)
      clear Lout_2
      have Lwant_3 := Lib.hid (Lwant_2.out.below h3)
      clear Lwant_2
      clear h3
      clear Lwant_3
      obtain ⟨Ao, co, hov, _, _, _⟩ := Lout_3.out
      subst hov
      clear c0 c1 c2
      obtain ⟨c0, c1, c2⟩ := HC.out _ b3
      go_wp2_with fail
      refine (iRecP_is w3 l _ (HV.out.below b3) ll _ (HU.out.below b3) r (Y) true HRY.out HG.out _ (Below.refl _ _)).mono ?_
      rintro e w4 ⟨yy, rfl, hy, h4⟩
      have b4 := b3.trans (h4.mono b3.size)
      have Lout_4 := Lib.hid (Lout_3.out.below h4)
      clear Lout_3
      have Lyy_4 := Lib.hid hy.is
      clear hy h4
      clear c0 c1 c2
      obtain ⟨c0, c1, c2⟩ := HC.out _ b4
      obtain ⟨Ay, cy, hyv, _, _, _⟩ := Lyy_4.out
      subst hyv
      go_wp2_with fail
      refine (iAKeep_is w4 l _ (HV.out.below b4) ll _ (HU.out.below b4) r 1 (Y) true M2.out M1.out _ (Below.refl _ _)).mono ?_
      rintro e w5 ⟨zz, rfl, hy, h5⟩
      have b5 := b4.trans (h5.mono b4.size)
      have Lout_5 := Lib.hid (Lout_4.out.below h5)
      clear Lout_4
      have Lyy_5 := Lib.hid (Lyy_4.out.below h5)
      clear Lyy_4
      have Lzz_5 := Lib.hid hy.is
      clear hy h5
      clear c0 c1 c2
      have HB5 := Lib.hid b5
      obtain ⟨n, hn⟩ : ∃ n, x.length = n := ⟨_, rfl⟩
      obtain ⟨q, hq⟩ : ∃ q, Y.length = q := ⟨_, rfl⟩
      have HN := Lib.hid hn; have HQ := Lib.hid hq
      have HO := Lib.hid (show IsP w5 (.slice Ao n co) x by have h := Lout_5.out; rw [hn] at h; exact h)
      have HY := Lib.hid (show IsP w5 (.slice Ay q cy) Y by have h := Lyy_5.out; rw [hq] at h; exact h)
      rw [hn, hq]
      have hq40 : q ≤ 10 := by rw [← hq, HYL.out]; exact hl
      have hn40 : n ≤ 10 := by omega
      clear hn hq Lout_5 Lyy_5
      go_wp2
      go_loopw [15, 16] (fun f i wr => ∃ j : Nat, j ≤ q ∧ i = .int .i64 j ∧ f = .int .i64 (found Y x j : Nat) ∧ Below w5.heap.size w5 wr) (fun _ i _ => q - (intOf i).toNat)
      case atStart => exact ⟨0, Nat.zero_le _, rfl, rfl, Below.refl _ _⟩
      case round =>
        obtain ⟨j, hj, rfl, rfl, hb⟩ := hrel
        have hfl := found_le Y x j
        rw [HN.out] at hfl
        have HBR := Lib.hid hb
        have HFE := Lib.hid (show ¬ j < q → found Y x j = n from fun h => by rw [← HN.out, ← found_all M3.out, HQ.out]; congr 1; omega)
        have HFS := Lib.hid (fun h => found_succ Y x j h)
        obtain ⟨f, hf⟩ : ∃ f, found Y x j = f := ⟨_, rfl⟩
        rw [hf] at hfl HFE HFS ⊢
        clear hf
        rcases (show (j < q ∧ f < n) ∨ (j < q ∧ ¬ f < n) ∨ ¬ j < q by omega) with ⟨h1, h2⟩ | ⟨h1, h2⟩ | h1
        · have hji : (j : Int) < (q : Int) := by omega
          have hfi : (f : Int) < (n : Int) := by omega
          have hjY : j < Y.length := by rw [HQ.out]; exact h1
          have hfx : f < x.length := by rw [HN.out]; exact h2
          have hst := HFS.out hjY
          have hgd : x.getD f p00 = x[f] := by rw [List.getD_eq_getElem?_getD, List.getElem?_eq_getElem hfx]; rfl
          rw [hgd] at hst
          obtain ⟨Ay', cy', hyv, _, _, hrY⟩ := (HY.out.below hb)
          obtain ⟨Ao', co', hov, _, _, hrO⟩ := (HO.out.below hb)
          obtain ⟨rfl, eqq, rfl⟩ : Ay = Ay' ∧ q = Y.length ∧ cy = cy' := by simpa using hyv
          obtain ⟨rfl, eqn, rfl⟩ : Ao = Ao' ∧ n = x.length ∧ co = co' := by simpa using hov
          clear eqq eqn
          obtain ⟨by_, oy, rfl, hby, p0, p1, p2, p3⟩ := hrY.at_ j hjY
          obtain ⟨bo, oo, rfl, hbo, q0, q1, q2, q3⟩ := hrO.at_ f hfx
          obtain ⟨p, hp⟩ : ∃ p, Y[j] = p := ⟨_, rfl⟩
          obtain ⟨o, ho⟩ : ∃ o, x[f] = o := ⟨_, rfl⟩
          rw [hp] at p0 p1 p2 p3 hst
          rw [ho] at q0 q1 q2 q3 hst
          have HST := Lib.hid hst
          clear hrY hrO hyv hov hp ho hgd hst hjY hb
          by_cases hpo : p = o
          · have HST2 := Lib.hid (show found Y x (j + 1) = f + 1 by rw [HST.out, if_pos ⟨hfx, hpo⟩])
            subst hpo
            clear hfx
            go_wp2
            go_quiet (fail)
            go_wp2
            go_roundw
            case rel => exact ⟨j + 1, by omega, by go_num, by rw [HST2.out]; go_num, below_draws HBR.out _⟩
            case measure => simp [intOf]; omega
          · have HST2 := Lib.hid (show found Y x (j + 1) = f by rw [HST.out, if_neg (fun h => hpo h.2)])
            clear hfx
            rcases pn_ne hpo with k1 | ⟨k1, k2⟩ | ⟨k1, k2, k3⟩ | ⟨k1, k2, k3, k4⟩
            all_goals
              clear hpo
              go_wp2
              go_quiet (fail)
              go_wp2
              go_roundw
              case rel => exact ⟨j + 1, by omega, by go_num, by rw [HST2.out], below_draws HBR.out _⟩
              case measure => simp [intOf]; omega
        · have hji : (j : Int) < (q : Int) := by omega
          have hfi : ¬ (f : Int) < (n : Int) := by omega
          have hfe : ((f : Int) == (n : Int)) = true := by rw [beq_iff_eq]; omega
          clear hb
          go_wp2_with fail
          refine (sameP_is _ Y _ zz HLY.out (HY.out.below HBR.out) (Lzz_5.out.below HBR.out) _ (Below.refl _ _)).mono ?_
          rintro e w6 ⟨rfl, b6⟩
          have hb6 := HB5.out.trans ((HBR.out.trans (b6.mono HBR.out.size)).mono HB5.out.size)
          go_wp2
          go_ret
          exact ⟨by first | rfl | exact retb (by simp), HB.out.trans (hb6.mono HB.out.size)⟩
        · have hji : ¬ (j : Int) < (q : Int) := by omega
          have hfn := HFE.out h1
          have hfe : ((f : Int) == (n : Int)) = true := by rw [beq_iff_eq]; omega
          clear hb
          go_wp2_with fail
          refine (sameP_is _ Y _ zz HLY.out (HY.out.below HBR.out) (Lzz_5.out.below HBR.out) _ (Below.refl _ _)).mono ?_
          rintro e w6 ⟨rfl, b6⟩
          have hb6 := HB5.out.trans ((HBR.out.trans (b6.mono HBR.out.size)).mono HB5.out.size)
          go_wp2
          go_ret
          exact ⟨by first | rfl | exact retb (by simp), HB.out.trans (hb6.mono HB.out.size)⟩
end Go.Proofs.Yteelbmbedcfkdaa
