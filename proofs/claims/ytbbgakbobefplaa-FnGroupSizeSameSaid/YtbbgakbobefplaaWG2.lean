/- Laws of chapter 3 that count people. -/
import Derived.Test.YtbbgakbobefplaaGC
import Derived.Test.YtbbgakbobefplaaGM
import Derived.Test.YtbbgakbobefplaaG13
import Derived.Test.YtbbgakbobefplaaAP
import Derived.Test.YtbbgakbobefplaaPMI
namespace Go.Proofs.Ytbbgakbobefplaa
open Go.RowKit
theorem cnt_cn (x : List Pn) {a j s : Int} (a0 : 0 ≤ a) (j0 : 0 ≤ j) (s0 : 0 ≤ s) : cnt x a j s = (cn (keys x) (a, j, s) : Nat) := by
  unfold cnt cn keys
  rw [List.filter_map, List.length_map]
  congr 2
  refine List.filter_congr fun p _ => ?_
  simp only [fit3, fit1, key, Function.comp]
  rw [Bool.eq_iff_iff]
  simp only [Bool.and_eq_true, Bool.or_eq_true, decide_eq_true_eq, Prod.mk.injEq]
  omega
theorem recL_get {l : List Pn} {ll : List (List Int)} {r : Rc} {k : Nat} (hk : k < (recL ll r l).length) : key (recL ll r l)[k] = ky ll r l k := by
  have hk' : k < l.length := by rwa [recL_len] at hk
  have e : (recL ll r l)[k] = rec1 ll r l[k] := by simp [recL]
  unfold ky
  rw [e, List.getD_eq_getElem?_getD, List.getElem?_eq_getElem hk']; rfl
theorem recL_getOk {l : List Pn} {ll : List (List Int)} {r : Rc} (hok : grOk l ll r = true) {k : Nat} (hk : k < (recL ll r l).length) : okP (recL ll r l)[k] = true := okL_mem (recL_ok hok) _ (List.getElem_mem hk)
theorem m_sizeMany {l : List Pn} {ll : List (List Int)} {r : Rc} (hok : grOk l ll r = true) {k : Nat} (hk : k < (recL ll r l).length) :
    many (recL ll r l) (recL ll r l)[k].area (recL ll r l)[k].job (recL ll r l)[k].sex = cnk l ll r k := by
  have hp := okP_parts.1 (recL_getOk hok hk)
  have h1 : askOk (recL ll r l) (recL ll r l)[k].area (recL ll r l)[k].job (recL ll r l)[k].sex = true := by
    simp only [askOk, recL_ok hok, ask3, ask1, Bool.and_eq_true, decide_eq_true_eq, true_and]; omega
  rw [many, if_pos h1, cnt_cn _ hp.1 hp.2.2.1 hp.2.2.2.2.1]
  unfold cnk
  rw [← recL_get hk]; rfl
set_option maxHeartbeats 4000000 in
theorem w_GroupSize (A : Option Addr) (n c : Nat) (hnc : n ≤ c) (hn : n ≤ maxLen) (w : World) (hb : Bytes w w.heap.size A n) :
    Calls Try.prog 7 #[.slice A n c] w fun e w' => e = .returned (.bool true) ∧ Below w.heap.size w w' := by
  have hn2 := hn
  unfold maxLen at hn2
  rcases (show 1048576 < n ∨ ¬ 1048576 < n by omega) with hbig | hbig
  · go_enter Try.func7, Try.ntmps7
    go_wp2
    go_ret
    exact ⟨rfl, Below.refl _ _⟩
  · go_enter Try.func7, Try.ntmps7
    go_wp2_with fail
    refine (dGroupSize_any A n c hnc hn _ hb).mono ?_
    rintro e W ⟨l, v, ll, u, r, k, rfl, hv, hu, hl, hll, _, _, _, _, hbW⟩
    obtain ⟨W1, hW⟩ : ∃ W1, W1 = W.alloc (.cells #[.int .i64 r.area, .int .i64 r.job, .int .i64 r.sex] TRc) := ⟨_, rfl⟩
    have hb1 : Below W.heap.size W W1 := by rw [hW]; exact (Below.refl _ _).alloc (Nat.le_refl _) _
    have hzW : W.heap.size < W1.heap.size := by rw [hW]; simp
    have e0 : W1.cell? ⟨W.heap.size, 0, none⟩ = some (.int .i64 r.area) := by rw [hW]; simp [go_sem]
    have e1 : W1.cell? ⟨W.heap.size, 1, none⟩ = some (.int .i64 r.job) := by rw [hW]; simp [go_sem]
    have e2 : W1.cell? ⟨W.heap.size, 2, none⟩ = some (.int .i64 r.sex) := by rw [hW]; simp [go_sem]
    have HC := Lib.hid (show ∀ w', Below W1.heap.size W1 w' → w'.cell? ⟨W.heap.size, 0, none⟩ = some (.int .i64 r.area) ∧ w'.cell? ⟨W.heap.size, 1, none⟩ = some (.int .i64 r.job) ∧ w'.cell? ⟨W.heap.size, 2, none⟩ = some (.int .i64 r.sex) from
      fun w' h => ⟨(h.cell (p := ⟨W.heap.size, 0, none⟩) hzW).trans e0, (h.cell (p := ⟨W.heap.size, 1, none⟩) hzW).trans e1, (h.cell (p := ⟨W.heap.size, 2, none⟩) hzW).trans e2⟩)
    have HV := Lib.hid (hv.below hb1)
    have HU := Lib.hid (hu.below hb1)
    have HB := Lib.hid (hbW.trans (hb1.mono hbW.size))
    have b0 := Below.refl W1.heap.size W1
    clear e0 e1 e2 hv hu hbW hb hb1
    rcases (show gsize l ll r k < 0 ∨ 0 ≤ gsize l ll r k by omega) with hneg | hg0
    · have HG := Lib.hid (gsize_no hneg)
      clear hneg
      go_wp2_with fail
      rw [← hW]
      clear hW
      refine (iGSize_is W1 l _ HV.out ll _ HU.out r _ (-1) HG.out _ b0).mono ?_
      rintro e w1 ⟨rfl, b1⟩
      obtain ⟨c0, c1, c2⟩ := HC.out _ b1
      go_wp2_with fail
      refine (sGSize_is W1 l _ HV.out ll _ HU.out r _ (-1) HG.out _ b1).mono ?_
      rintro e w2 ⟨rfl, b2⟩
      go_wp2
      go_ret
      exact ⟨by first | rfl | exact retb (by simp) | exact retb (by simp; omega), HB.out.trans (b2.mono HB.out.size)⟩
    · obtain ⟨g, hg⟩ : ∃ g, gsize l ll r k = g := ⟨_, rfl⟩
      obtain ⟨hok, j, hkj, hj⟩ := gsize_in hg0
      subst hkj
      obtain ⟨G, hG⟩ : ∃ G, cnk l ll r j = G := ⟨_, rfl⟩
      have hgG : g = (G : Int) := by rw [← hg, gsize_at hok hj, hG]
      subst hgG
      have h1 : 1 ≤ G := by rw [← hG]; exact cnk_pos hj
      have h2 : G ≤ l.length := by rw [← hG]; exact cnk_le _ _ _ _
      have hjx : j < (recL ll r l).length := by rw [recL_len]; exact hj
      have hM := m_sizeMany hok hjx
      rw [hG] at hM
      have HG := Lib.hid hg; have HOK := Lib.hid hok; have HM := Lib.hid hM
      clear hg hG hM hok
      obtain ⟨Av, cv, hv2, _, _, _⟩ := HV.out
      subst hv2
      go_wp2_with fail
      rw [← hW]
      clear hW
      refine (iGSize_is W1 l _ HV.out ll _ HU.out r _ _ HG.out _ b0).mono ?_
      rintro e w1 ⟨rfl, b1⟩
      obtain ⟨c0, c1, c2⟩ := HC.out _ b1
      go_wp2_with fail
      refine (sGSize_is W1 l _ HV.out ll _ HU.out r _ _ HG.out _ b1).mono ?_
      rintro e w2 ⟨rfl, b2⟩
      clear c0 c1 c2
      obtain ⟨c0, c1, c2⟩ := HC.out _ b2
      go_wp2_with fail
      refine (iRecP_is W1 l _ HV.out ll _ HU.out r (recL ll r l) true (by rw [recOut, if_pos HOK.out]) HOK.out _ b2).mono ?_
      rintro e w3 ⟨y, rfl, hy3, h3⟩
      have b3 := b2.trans (h3.mono b2.size)
      obtain ⟨Ay, cy, hyv, _, _, hyr⟩ := hy3.is
      subst hyv
      rw [recL_len]
      obtain ⟨by', oy, hAy, hby, q0, q1, q2, q3⟩ := hyr.at_ j hjx
      subst hAy
      obtain ⟨p, hp⟩ : ∃ p, (recL ll r l)[j] = p := ⟨_, rfl⟩
      rw [hp] at HM q0 q1 q2 q3
      have HY := Lib.hid hy3
      have hji : (j : Int) < (l.length : Int) := by omega
      have hji2 : ¬ (l.length : Int) ≤ (j : Int) := by omega
      have hg1 : (1 : Int) ≤ (G : Int) := by omega
      have hg2 : (G : Int) ≤ (l.length : Int) := by omega
      clear hyr hy3 h3 hp q3 c0 c1 c2
      have HF := Lib.hid (show ∀ w' : World, Below w3.heap.size w3 w' → (Below w3.heap.size w3 w' ∧ w'.cell? ⟨by', oy + j * 4, none⟩ = some (.int .i64 p.area) ∧ w'.cell? ⟨by', oy + j * 4 + 1, none⟩ = some (.int .i64 p.job) ∧ w'.cell? ⟨by', oy + j * 4 + 2, none⟩ = some (.int .i64 p.sex)) from
        fun w' h => ⟨h, (h.cell (p := ⟨by', oy + j * 4, none⟩) hby).trans q0, (h.cell (p := ⟨by', oy + j * 4 + 1, none⟩) hby).trans q1, (h.cell (p := ⟨by', oy + j * 4 + 2, none⟩) hby).trans q2⟩)
      clear q0 q1 q2
      have bd : Below w3.heap.size w3 w3.drew := (Below.refl _ _).drew
      go_wp2
      go_region_held3 (fun w' => Below w3.heap.size w3 w' ∧ w'.cell? ⟨by', oy + j * 4, none⟩ = some (.int .i64 p.area) ∧ w'.cell? ⟨by', oy + j * 4 + 1, none⟩ = some (.int .i64 p.job) ∧ w'.cell? ⟨by', oy + j * 4 + 2, none⟩ = some (.int .i64 p.sex))
        (first | exact HF.out _ (by assumption) | exact HF.out _ bd)
        (first
          | (go_at_call 19
             refine (iMany_is w3 (recL ll r l) _ (by have h := HY.out.is; rw [recL_len] at h; exact h) p.area p.job p.sex G HM.out _ bd).mono ?_
             rintro e w4 ⟨rfl, h4⟩))
      go_wp2
      go_ret
      exact ⟨by first | rfl | exact retb (by simp), HB.out.trans ((b3.trans (h4.mono b3.size)).mono HB.out.size)⟩
theorem m_same_key {l : List Pn} {ll : List (List Int)} {r : Rc} {i j : Nat} (h : ky ll r l i = ky ll r l j) : cnk l ll r i = cnk l ll r j := by unfold cnk; rw [h]
theorem sizeTo_fin {l : List Pn} {ll : List (List Int)} {r : Rc} {j : Nat} (hj : j < l.length) : sizeTo (recL ll r l) j l.length = cnk l ll r j := by
  have h := sizeTo_all (recL ll r l) j
  rw [recL_len] at h
  rw [h, sizeAt, getD_rec ll r l j hj]; rfl
theorem sizeTo_next {l : List Pn} {ll : List (List Int)} {r : Rc} {i j : Nat} (hi : i < (recL ll r l).length) (hj : j < (recL ll r l).length) :
    sizeTo (recL ll r l) j (i + 1) = sizeTo (recL ll r l) j i + if key (recL ll r l)[i] = key (recL ll r l)[j] then 1 else 0 := by
  rw [sizeTo_succ _ _ _ hi, List.getD_eq_getElem?_getD, List.getElem?_eq_getElem hj]; rfl
set_option maxRecDepth 100000 in
set_option maxHeartbeats 4000000 in
theorem w_GroupSizeSame (A : Option Addr) (n c : Nat) (hnc : n ≤ c) (hn : n ≤ maxLen) (w : World) (hb : Bytes w w.heap.size A n) :
    Calls Try.prog 10 #[.slice A n c] w fun e w' => e = .returned (.bool true) ∧ Below w.heap.size w w' := by
  have hn2 := hn
  unfold maxLen at hn2
  rcases (show 1048576 < n ∨ ¬ 1048576 < n by omega) with hbig | hbig
  · go_enter Try.func10, Try.ntmps10
    go_wp2
    go_ret
    exact ⟨rfl, Below.refl _ _⟩
  · go_enter Try.func10, Try.ntmps10
    go_wp2_with fail
    refine (dGroupSize_any A n c hnc hn _ hb).mono ?_
    rintro e W ⟨l, v, ll, u, r, k, rfl, hv, hu, hl, hll, _, _, _, _, hbW⟩
    obtain ⟨W1, hW⟩ : ∃ W1, W1 = W.alloc (.cells #[.int .i64 r.area, .int .i64 r.job, .int .i64 r.sex] TRc) := ⟨_, rfl⟩
    have hb1 : Below W.heap.size W W1 := by rw [hW]; exact (Below.refl _ _).alloc (Nat.le_refl _) _
    have hzW : W.heap.size < W1.heap.size := by rw [hW]; simp
    have e0 : W1.cell? ⟨W.heap.size, 0, none⟩ = some (.int .i64 r.area) := by rw [hW]; simp [go_sem]
    have e1 : W1.cell? ⟨W.heap.size, 1, none⟩ = some (.int .i64 r.job) := by rw [hW]; simp [go_sem]
    have e2 : W1.cell? ⟨W.heap.size, 2, none⟩ = some (.int .i64 r.sex) := by rw [hW]; simp [go_sem]
    have HC := Lib.hid (show ∀ w', Below W1.heap.size W1 w' → w'.cell? ⟨W.heap.size, 0, none⟩ = some (.int .i64 r.area) ∧ w'.cell? ⟨W.heap.size, 1, none⟩ = some (.int .i64 r.job) ∧ w'.cell? ⟨W.heap.size, 2, none⟩ = some (.int .i64 r.sex) from
      fun w' h => ⟨(h.cell (p := ⟨W.heap.size, 0, none⟩) hzW).trans e0, (h.cell (p := ⟨W.heap.size, 1, none⟩) hzW).trans e1, (h.cell (p := ⟨W.heap.size, 2, none⟩) hzW).trans e2⟩)
    have HV := Lib.hid (hv.below hb1)
    have HU := Lib.hid (hu.below hb1)
    have HB := Lib.hid (hbW.trans (hb1.mono hbW.size))
    have b0 := Below.refl W1.heap.size W1
    clear e0 e1 e2 hv hu hbW hb hb1
    rcases (show gsize l ll r k < 0 ∨ 0 ≤ gsize l ll r k by omega) with hneg | hg0
    · have HG := Lib.hid (gsize_no hneg)
      clear hneg
      go_wp2_with fail
      rw [← hW]
      clear hW
      refine (iGSize_is W1 l _ HV.out ll _ HU.out r _ (-1) HG.out _ b0).mono ?_
      rintro e w1 ⟨rfl, b1⟩
      obtain ⟨c0, c1, c2⟩ := HC.out _ b1
      go_wp2_with fail
      refine (sGSize_is W1 l _ HV.out ll _ HU.out r _ (-1) HG.out _ b1).mono ?_
      rintro e w2 ⟨rfl, b2⟩
      go_wp2
      go_ret
      exact ⟨by first | rfl | exact retb (by simp) | exact retb (by simp; omega), HB.out.trans (b2.mono HB.out.size)⟩
    · obtain ⟨g, hg⟩ : ∃ g, gsize l ll r k = g := ⟨_, rfl⟩
      obtain ⟨hok, j, hkj, hj⟩ := gsize_in hg0
      subst hkj
      obtain ⟨G, hG⟩ : ∃ G, cnk l ll r j = G := ⟨_, rfl⟩
      have hgG : g = (G : Int) := by rw [← hg, gsize_at hok hj, hG]
      subst hgG
      have h2 : G ≤ l.length := by rw [← hG]; exact cnk_le _ _ _ _
      have hjx : j < (recL ll r l).length := by rw [recL_len]; exact hj
      have hM := sizeTo_fin (ll := ll) (r := r) hj
      rw [hG] at hM
      have HG := Lib.hid hg; have HOK := Lib.hid hok; have HM := Lib.hid hM; have HGG := Lib.hid hG
      clear hg hG hM hok
      obtain ⟨Av, cv, hv2, _, _, _⟩ := HV.out
      subst hv2
      go_wp2_with fail
      rw [← hW]
      clear hW
      refine (iGSize_is W1 l _ HV.out ll _ HU.out r _ _ HG.out _ b0).mono ?_
      rintro e w1 ⟨rfl, b1⟩
      obtain ⟨c0, c1, c2⟩ := HC.out _ b1
      go_wp2_with fail
      refine (sGSize_is W1 l _ HV.out ll _ HU.out r _ _ HG.out _ b1).mono ?_
      rintro e w2 ⟨rfl, b2⟩
      clear c0 c1 c2
      obtain ⟨c0, c1, c2⟩ := HC.out _ b2
      go_wp2_with fail
      refine (iRecP_is W1 l _ HV.out ll _ HU.out r (recL ll r l) true (by rw [recOut, if_pos HOK.out]) HOK.out _ b2).mono ?_
      rintro e w3 ⟨y, rfl, hy3, h3⟩
      have b3 := b2.trans (h3.mono b2.size)
      obtain ⟨Ay, cy, hyv, _, _, hyr⟩ := hy3.is
      subst hyv
      rw [recL_len]
      obtain ⟨by', oy, hAy, hby, q0, q1, q2, q3⟩ := hyr.at_ j hjx
      subst hAy
      have HYR := Lib.hid hyr
      obtain ⟨p, hp⟩ : ∃ p, (recL ll r l)[j] = p := ⟨_, rfl⟩
      have HP := Lib.hid hp
      rw [hp] at q0 q1 q2 q3
      obtain ⟨q, hq⟩ : ∃ q, l.length = q := ⟨_, rfl⟩
      have HQ := Lib.hid hq
      have HB3 := Lib.hid b3
      have hji : (j : Int) < (q : Int) := by omega
      have hS0 : sizeTo (recL ll r l) j 0 = 0 := by simp [sizeTo, keys, cn]
      rw [hq] at HM HV h2 hl ⊢
      have HS0 := Lib.hid hS0
      clear hyr hy3 h3 hp q3 c0 c1 c2 hq hS0
      go_wp2
      go_loopw [11, 12] (fun f i wr => ∃ i' : Nat, i' ≤ q ∧ i = .int .i64 i' ∧ f = .int .i64 (sizeTo (recL ll r l) j i' : Nat) ∧ Below w3.heap.size w3 wr) (fun _ i _ => q - (intOf i).toNat)
      case atStart => exact ⟨0, Nat.zero_le _, rfl, by rw [HS0.out]; rfl, Below.refl _ _⟩
      case round =>
        obtain ⟨i, hi, rfl, rfl, hb⟩ := hrel
        have hle := sizeTo_le (recL ll r l) j i
        by_cases hlt : i < q
        · have hii : (i : Int) < (q : Int) := by omega
          have hil : i < l.length := by rw [HQ.out]; exact hlt
          have hix : i < (recL ll r l).length := by rw [recL_len]; exact hil
          obtain ⟨bz, oz, hAz, hbz, e0, e1, e2, e3⟩ := HYR.out.at_ i hix
          injection hAz with hAz
          injection hAz with g1 g2 _
          subst g1 g2
          have HN := Lib.hid (sizeTo_next (ll := ll) (r := r) (l := l) hix hjx)
          have HKK := Lib.hid (show key (recL ll r l)[i] = key (recL ll r l)[j] → cnk l ll r i = G from fun h => by
            rw [recL_get hix, recL_get hjx] at h; rw [m_same_key h]; exact HGG.out)
          have HGS := Lib.hid (gsize_at HOK.out hil)
          rw [HP.out] at HN HKK
          obtain ⟨p2, hp2⟩ : ∃ p2, (recL ll r l)[i] = p2 := ⟨_, rfl⟩
          rw [hp2] at HN HKK e0 e1 e2
          obtain ⟨s, hs⟩ : ∃ s, sizeTo (recL ll r l) j i = s := ⟨_, rfl⟩
          rw [hs] at HN hle ⊢
          have d0 := (hb.cell (p := ⟨by', oy + j * 4, none⟩) hby).trans q0
          have d1 := (hb.cell (p := ⟨by', oy + j * 4 + 1, none⟩) hby).trans q1
          have d2 := (hb.cell (p := ⟨by', oy + j * 4 + 2, none⟩) hby).trans q2
          have f0 := (hb.cell (p := ⟨by', oy + i * 4, none⟩) hby).trans e0
          have f1 := (hb.cell (p := ⟨by', oy + i * 4 + 1, none⟩) hby).trans e1
          have f2 := (hb.cell (p := ⟨by', oy + i * 4 + 2, none⟩) hby).trans e2
          obtain ⟨c0, c1, c2⟩ := HC.out _ (HB3.out.trans (hb.mono HB3.out.size))
          have hbr := HB3.out.trans (hb.mono HB3.out.size)
          have HBR := Lib.hid hb
          clear e0 e1 e2 e3 hp2 hs hix hil hb
          have hkey : (key p2 = key p) ↔ (p2.area = p.area ∧ p2.job = p.job ∧ p2.sex = p.sex) := by simp [key]
          have HKEY := Lib.hid hkey; clear hkey
          by_cases ha : p2.area = p.area
          · have ha' : (p2.area == p.area) = true := by rw [beq_iff_eq]; exact ha
            by_cases hj2 : p2.job = p.job
            · have hj' : (p2.job == p.job) = true := by rw [beq_iff_eq]; exact hj2
              by_cases hx : p2.sex = p.sex
              · have hx' : (p2.sex == p.sex) = true := by rw [beq_iff_eq]; exact hx
                have HE := Lib.hid (HKEY.out.2 ⟨ha, hj2, hx⟩)
                have HGI := Lib.hid (show gsize l ll r i = (G : Int) by rw [HGS.out, HKK.out HE.out])
                have HN2 := Lib.hid (show sizeTo (recL ll r l) j (i + 1) = s + 1 by rw [HN.out, if_pos HE.out])
                clear ha hj2 hx HGS HKK HN
                go_wp2
                go_quiet (fail)
                have hbq := below_draws hbr nq
                go_wp2_with fail
                refine (iGSize_is _ l _ (HV.out.below hbq) ll _ (HU.out.below hbq) r i (G : Int) HGI.out _ (Below.refl _ _)).mono ?_
                rintro e w4 ⟨rfl, b4⟩
                go_wp2
                go_roundw
                case rel => exact ⟨i + 1, by omega, by go_num, by rw [HN2.out]; go_num, (below_draws HBR.out nq).trans (b4.mono (below_draws HBR.out nq).size)⟩
                case measure => simp [intOf]; omega
              · have hx' : (p2.sex == p.sex) = false := by rw [beq_eq_false_iff_ne]; exact hx
                have HN2 := Lib.hid (show sizeTo (recL ll r l) j (i + 1) = s by rw [HN.out, if_neg (fun h => hx (HKEY.out.1 h).2.2)]; rfl)
                clear ha hj2 hx HGS HKK HN
                go_wp2
                go_quiet (fail)
                go_wp2
                go_roundw
                case rel => exact ⟨i + 1, by omega, by go_num, by rw [HN2.out], below_draws HBR.out nq⟩
                case measure => simp [intOf]; omega
            · have hj' : (p2.job == p.job) = false := by rw [beq_eq_false_iff_ne]; exact hj2
              have HN2 := Lib.hid (show sizeTo (recL ll r l) j (i + 1) = s by rw [HN.out, if_neg (fun h => hj2 (HKEY.out.1 h).2.1)]; rfl)
              clear ha hj2 HGS HKK HN
              go_wp2
              go_quiet (fail)
              go_wp2
              go_roundw
              case rel => exact ⟨i + 1, by omega, by go_num, by rw [HN2.out], below_draws HBR.out nq⟩
              case measure => simp [intOf]; omega
          · have ha' : (p2.area == p.area) = false := by rw [beq_eq_false_iff_ne]; exact ha
            have HN2 := Lib.hid (show sizeTo (recL ll r l) j (i + 1) = s by rw [HN.out, if_neg (fun h => ha (HKEY.out.1 h).1)]; rfl)
            clear ha HGS HKK HN
            go_wp2
            go_quiet (fail)
            go_wp2
            go_roundw
            case rel => exact ⟨i + 1, by omega, by go_num, by rw [HN2.out], below_draws HBR.out nq⟩
            case measure => simp [intOf]; omega
        · have hii : ¬ (i : Int) < (q : Int) := by omega
          obtain rfl : i = q := by omega
          rw [HM.out]
          go_wp2
          go_ret
          exact ⟨by first | rfl | exact retb (by simp), HB.out.trans ((HB3.out.trans (hb.mono HB3.out.size)).mono HB.out.size)⟩
end Go.Proofs.Ytbbgakbobefplaa
