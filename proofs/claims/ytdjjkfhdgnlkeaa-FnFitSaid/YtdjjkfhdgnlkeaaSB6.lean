/- The model's bounds: tables that fit. -/
import Derived.Test.YtdjjkfhdgnlkeaaBM8
import Derived.Test.YtdjjkfhdgnlkeaaSBA
import Derived.StillTailTactics
namespace Go.Proofs.Ytdjjkfhdgnlkeaa
open Go.RowKit
set_option maxRecDepth 100000 in
set_option maxHeartbeats 4000000 in
theorem sFit_is (W : World) (t : Tb) (v : Value) (hv : IsR W v t) (m : Mk) (u : Value) (hu : IsM W u m) (x : Tb) (z : Value) (hz : IsR W z x) (g : Bool) (hg : fitB t m x = g) (w : World) (hb : Below W.heap.size W w) :
    Calls Try.prog 11 #[v, u, z] w (Back (.bool g) W) := by
  have HV := Lib.hid hv
  have HU := Lib.hid hu
  have HB := Lib.hid hb
  have HG := Lib.hid hg
  obtain ⟨mk, hmk⟩ : ∃ mk, mkOk t m = mk := ⟨_, rfl⟩
  have HMK := Lib.hid hmk
  obtain ⟨A, c, hvv, a1, a2, a3⟩ := hv
  obtain ⟨Am, cm, huv, m1, m2, m3⟩ := hu
  obtain ⟨Az, cz, hzv, z1, z2, z3⟩ := hz
  obtain ⟨q, hq⟩ : ∃ q, t.length = q := ⟨_, rfl⟩
  obtain ⟨p, hp⟩ : ∃ p, x.length = p := ⟨_, rfl⟩
  have HQ := Lib.hid hq
  have HP := Lib.hid hp
  rw [hq] at hvv
  rw [hp] at hzv
  subst hvv huv hzv
  have HA := Lib.hid a3
  have HM := Lib.hid m3
  have HZ := Lib.hid z3
  clear hb hg hmk hq hp a1 a2 a3 m1 m2 m3 z1 z2 z3
  cases mk
  · have h1 : g = false := by rw [← HG.out]; exact fit_badmk HMK.out
    subst h1
    go_enter Try.func11, Try.ntmps11
    go_wp2_with fail
    refine (sMask_is W t _ HV.out m _ HU.out false HMK.out _ HB.out).mono ?_
    rintro e w1 ⟨rfl, b1⟩
    go_wp2
    go_ret
    exact ⟨rfl, b1⟩
  by_cases hpq : ¬ p = q
  · have h1 : g = false := by rw [← HG.out]; exact fit_badlen (by rw [HQ.out, HP.out]; exact hpq)
    subst h1
    have hpb : ((p : Int) != (q : Int)) = true := by rw [bne_iff_ne]; omega
    go_enter Try.func11, Try.ntmps11
    go_wp2_with fail
    refine (sMask_is W t _ HV.out m _ HU.out true HMK.out _ HB.out).mono ?_
    rintro e w1 ⟨rfl, b1⟩
    go_wp2
    go_ret
    exact ⟨rfl, b1⟩
  have hpq : p = q := by omega
  subst hpq
  obtain ⟨ht, hml, hmr⟩ := mk_parts.1 HMK.out
  have HT := Lib.hid ht
  have h14 := ht.h4
  have h11 := ht.h1
  have hd4 := ht.w4
  have hd1 := ht.w1
  rw [HQ.out] at hml h14 h11
  have HMR := Lib.hid (show ∀ k, k < p → (m.getD k []).length = wd t from fun k hk => hmr _ (by rw [getD_of _ _ (by omega)]; exact List.getElem_mem _))
  rw [hml] at HU ⊢
  obtain ⟨bt, ot, A0, c0, hA, hbt, e0, x1, x2, x3⟩ := HA.out.at_ 0 ht.h1
  rw [ht.rlen ht.h1] at e0
  subst hA
  have HMLN := Lib.hid hml
  obtain ⟨d, hd⟩ : ∃ d, wd t = d := ⟨_, rfl⟩
  have HD := Lib.hid hd
  rw [hd] at e0 hd4 hd1 HMR
  have E0 := Lib.hid (show W.cell? ⟨bt, ot, none⟩ = some (.slice A0 d c0) from e0)
  have HTOK := Lib.hid (tab_iff.2 ht)
  have HRI := Lib.hid (show rsumI t = rsum t by rw [rsumI, if_pos HTOK.out])
  have HCI := Lib.hid (show csumI t = csum t by rw [csumI, if_pos HTOK.out])
  have hq0 : (0 : Int) < (p : Int) := by omega
  have hqn : 0 < p := by omega
  clear ht hmr hd e0 x1 x2 x3 hml
  have hpb : ((p : Int) != (p : Int)) = false := by simp
  go_enter Try.func11, Try.ntmps11
  go_wp2_with fail
  refine (sMask_is W t _ HV.out m _ HU.out true HMK.out _ HB.out).mono ?_
  rintro e w1 ⟨rfl, b1⟩
  go_wp2_with fail
  refine (sSums_is W t _ HV.out (rsum t) (csum t) true HRI.out HCI.out HTOK.out w1 b1).mono ?_
  rintro e w2 ⟨vr, vs, rfl, hor, hos, hdis, h2⟩
  have hq1 : 0 < (icells (rsum t)).length := by rw [icells_len, rsum_len, HQ.out]; exact hqn
  have hd2 : 0 < (icells (csum t)).length := by rw [icells_len, csum_len, HD.out]; omega
  obtain ⟨G1, c1, hvr⟩ := hor.2.1.slice hq1
  obtain ⟨G2, c2, hvs⟩ := hos.2.1.slice hd2
  rw [icells_len, rsum_len, HQ.out] at hvr
  rw [icells_len, csum_len, HD.out] at hvs
  subst hvr hvs
  obtain ⟨B0, hB0⟩ : ∃ B0, w1.heap.size = B0 := ⟨_, rfl⟩
  have hWB : W.heap.size ≤ B0 := by rw [← hB0]; exact b1.size
  have hG12 : G1 ≠ G2 := fun e => hdis G1 rfl (by rw [e]; rfl)
  have hg1 := (hor.2.1.ob G1 rfl).1
  have hg2 := (hos.2.1.ob G2 rfl).1
  rw [hB0] at hg1 hg2
  have hWG1 : W.heap.size ≤ G1 := by omega
  have hWG2 : W.heap.size ≤ G2 := by omega
  have HR0 := Lib.hid (show Own1 TN w2 B0 (.slice (some ⟨G1, 0, none⟩) p c1) (icells (vec p (rR t x d 0 0))) by
    have h := hor.2.1
    rw [hB0] at h
    have e := rR_zero (t := t) (x := x) (d := d)
    rw [HQ.out] at e
    rw [← e]; exact h)
  have HC0 := Lib.hid (show Own1 TN w2 B0 (.slice (some ⟨G2, 0, none⟩) d c2) (icells (vec d (cC t x 0 0))) by
    have h := hos.2.1
    rw [hB0] at h
    have e := cC_zero (t := t) (x := x)
    rw [HD.out] at e
    rw [← e]; exact h)
  have HB2 := Lib.hid (show Below W.heap.size W w2 from b1.trans (h2.mono b1.size))
  clear hor hos hdis h2 b1 hB0 hq1 hd2
  go_wp2
  go_loopw [10] (fun i wr => ∃ k : Nat, k ≤ p ∧ i = .int .i64 k ∧ (∀ a, a < k → (x.getD a []).length = d ∧ ∀ b, b < d → okC t m x a b) ∧ Own1 TN wr B0 (.slice (some ⟨G1, 0, none⟩) p c1) (icells (vec p (rR t x d k 0))) ∧ Own1 TN wr B0 (.slice (some ⟨G2, 0, none⟩) d c2) (icells (vec d (cC t x k 0))) ∧ Below W.heap.size W wr) (fun i _ => p - (intOf i).toNat)
  case atStart => exact ⟨0, Nat.zero_le _, rfl, fun a ha => by omega, HR0.out, HC0.out, HB2.out⟩
  case round =>
    clear HR0 HC0 HB2
    obtain ⟨k, hk, rfl, hgood, hr, hc, hbr⟩ := hrel
    have HGD := Lib.hid hgood
    have HRR := Lib.hid hr
    have HCC := Lib.hid hc
    have HBR := Lib.hid hbr
    by_cases hlt : k < p
    · have hki : (k : Int) < (p : Int) := by omega
      obtain ⟨bz, oz, Ak, ck, hAz, hbz, fz, y1, y2, y3⟩ := HZ.out.at_ k (by rw [HP.out]; exact hlt)
      subst hAz
      obtain ⟨n, hn⟩ : ∃ n, (x.getD k []).length = n := ⟨_, rfl⟩
      rw [hn] at fz
      have HN := Lib.hid hn
      have FZ := Lib.hid fz
      have YR := Lib.hid y3
      have ez : wr.cell? ⟨bz, oz + k, none⟩ = some (.slice Ak n ck) := (hbr.cell (p := ⟨bz, oz + k, none⟩) hbz).trans fz
      have et : wr.cell? ⟨bt, ot, none⟩ = some (.slice A0 d c0) := (hbr.cell (p := ⟨bt, ot, none⟩) hbt).trans E0.out
      clear hgood hr hc hbr hn fz y1 y2 y3
      by_cases hnd : ¬ n = d
      · have hnb : ((n : Int) != (d : Int)) = true := by rw [bne_iff_ne]; omega
        have h1 : g = false := by rw [← HG.out]; exact fit_badrow (k := k) (by rw [HQ.out]; exact hlt) (by rw [HN.out, HD.out]; exact hnd)
        subst h1
        go_wp2
        go_quiet (fail)
        go_wp2
        go_ret
        exact ⟨rfl, below_draws HBR.out nq⟩
      have hnd : n = d := by omega
      subst hnd
      have hnb : ((n : Int) != (n : Int)) = false := by simp
      go_wp2
      go_quiet (fail)
      obtain ⟨V, hV⟩ : ∃ V, V = wr.drewN nq := ⟨_, rfl⟩
      have HRV := Lib.hid (show Own1 TN V B0 (.slice (some ⟨G1, 0, none⟩) p c1) (icells (vec p (rR t x n k 0))) by rw [hV]; exact HRR.out)
      have HCV := Lib.hid (show Own1 TN V B0 (.slice (some ⟨G2, 0, none⟩) n c2) (icells (vec n (cC t x k 0))) by rw [hV]; exact HCC.out)
      have HBV := Lib.hid (show Below W.heap.size W V by rw [hV]; exact below_draws HBR.out nq)
      rw [← hV]
      clear hV ez et HRR HCC HBR
      go_wp2
      go_loopw [11] (fun j wr' => ∃ l : Nat, l ≤ n ∧ j = .int .i64 l ∧ (∀ b, b < l → okC t m x k b) ∧ Own1 TN wr' B0 (.slice (some ⟨G1, 0, none⟩) p c1) (icells (vec p (rR t x n k l))) ∧ Own1 TN wr' B0 (.slice (some ⟨G2, 0, none⟩) n c2) (icells (vec n (cC t x k l))) ∧ Below W.heap.size W wr') (fun j _ => n - (intOf j).toNat)
      case atStart => exact ⟨0, Nat.zero_le _, rfl, fun b hb => by omega, HRV.out, HCV.out, HBV.out⟩
      case round =>
        clear HRV HCV HBV
        obtain ⟨l, hl, rfl, hgl, hr, hc, hbr⟩ := hrel
        have HGL := Lib.hid hgl
        have HRR := Lib.hid hr
        have HCC := Lib.hid hc
        have HBR := Lib.hid hbr
        have ez : wr.cell? ⟨bz, oz + k, none⟩ = some (.slice Ak n ck) := (hbr.cell (p := ⟨bz, oz + k, none⟩) hbz).trans FZ.out
        by_cases hlt2 : l < n
        · have hli : (l : Int) < (n : Int) := by omega
          obtain ⟨b2, o2, hA2, hb2, f2⟩ := YR.out.int_ l (by rw [HN.out]; exact hlt2)
          subst hA2
          obtain ⟨bt1, ot1, T1, ct1, hAt, hbt1, ft0, y1, y2, y3⟩ := HA.out.at_ k (by rw [HQ.out]; exact hlt)
          injection hAt with hAt
          injection hAt with q1 q2 _
          subst q1 q2
          have htl : (t.getD k []).length = n := by rw [← HD.out]; exact HT.out.rlen (by rw [HQ.out]; exact hlt)
          rw [htl] at ft0
          obtain ⟨bt2, ot2, hT2, hbt2, ft2⟩ := y3.int_ l (by rw [htl]; exact hlt2)
          subst hT2
          obtain ⟨bm, om, M1, cm1, hAm, hbm, fm0, v1, v2, v3⟩ := HM.out.at_ k (by rw [HMLN.out]; exact hlt)
          subst hAm
          rw [HMR.out k hlt] at fm0
          obtain ⟨bm2, om2, hM2, hbm2, fm2⟩ := flag_at v3 l (by rw [HMR.out k hlt]; exact hlt2)
          subst hM2
          obtain ⟨y, hy⟩ : ∃ y, cF x k l = y := ⟨_, rfl⟩
          obtain ⟨tv, htv⟩ : ∃ tv, cF t k l = tv := ⟨_, rfl⟩
          obtain ⟨fl, hfl⟩ : ∃ fl, hF m k l = fl := ⟨_, rfl⟩
          have HY := Lib.hid hy
          have HTV := Lib.hid htv
          have HF := Lib.hid hfl
          have F2 := Lib.hid (show W.cell? ⟨b2, o2 + l, none⟩ = some (.int .i64 y) by rw [← hy]; exact f2)
          have e2 : wr.cell? ⟨b2, o2 + l, none⟩ = some (.int .i64 y) := (hbr.cell (p := ⟨b2, o2 + l, none⟩) hb2).trans F2.out
          have et0 : wr.cell? ⟨bt, ot + k, none⟩ = some (.slice (some ⟨bt2, ot2, none⟩) n ct1) := (hbr.cell (p := ⟨bt, ot + k, none⟩) hbt).trans ft0
          have et2 : wr.cell? ⟨bt2, ot2 + l, none⟩ = some (.int .i64 tv) := (hbr.cell (p := ⟨bt2, ot2 + l, none⟩) hbt2).trans (by rw [← htv]; exact ft2)
          have em0 : wr.cell? ⟨bm, om + k, none⟩ = some (.slice (some ⟨bm2, om2, none⟩) n cm1) := (hbr.cell (p := ⟨bm, om + k, none⟩) hbm).trans fm0
          have em2 : wr.cell? ⟨bm2, om2 + l, none⟩ = some (.bool fl) := (hbr.cell (p := ⟨bm2, om2 + l, none⟩) hbm2).trans (by rw [← hfl]; exact fm2)
          clear f2 y1 y2 y3 ft0 htl ft2 v1 v2 v3 fm0 fm2 hy htv hfl
          by_cases hyn : y < 0
          · have hynb : decide (y < 0) = true := decide_eq_true hyn
            have h1 : g = false := by rw [← HG.out]; exact fit_bad (k := k) (l := l) (by rw [HQ.out]; exact hlt) (by rw [HD.out]; exact hlt2) fun h => by have := h.1; rw [HY.out] at this; omega
            subst h1
            clear hr hc hgl hbr
            go_wp2
            go_quiet (fail)
            go_wp2
            go_ret
            exact ⟨rfl, below_draws HBR.out _⟩
          have hynb : decide (y < 0) = false := decide_eq_false hyn
          by_cases hyg : 396 < y
          · have hygb : decide (396 < y) = true := decide_eq_true hyg
            have h1 : g = false := by rw [← HG.out]; exact fit_bad (k := k) (l := l) (by rw [HQ.out]; exact hlt) (by rw [HD.out]; exact hlt2) fun h => by have := h.2.1; rw [HY.out] at this; omega
            subst h1
            clear hr hc hgl hbr
            go_wp2
            go_quiet (fail)
            go_wp2
            go_ret
            exact ⟨rfl, below_draws HBR.out _⟩
          have hygb : decide (396 < y) = false := decide_eq_false hyg
          cases fl
          · by_cases hyt : ¬ y = tv
            · have hytb : (y != tv) = true := by rw [bne_iff_ne]; exact hyt
              have h1 : g = false := by rw [← HG.out]; exact fit_bad (k := k) (l := l) (by rw [HQ.out]; exact hlt) (by rw [HD.out]; exact hlt2) fun h => by have := h.2.2 HF.out; rw [HY.out, HTV.out] at this; exact hyt this
              subst h1
              clear hr hc hgl hbr
              go_wp2
              go_quiet (fail)
              go_wp2
              go_ret
              exact ⟨rfl, below_draws HBR.out _⟩
            · have hyt2 : y = tv := by omega
              have hytb : (y != tv) = false := by simp [hyt2]
              have HYT := Lib.hid hyt2
              clear hyt hyt2
              have HOK := Lib.hid (show okC t m x k l from ⟨by rw [HY.out]; omega, by rw [HY.out]; omega, fun e => by rw [HF.out] at e; rw [HY.out, HTV.out]; exact HYT.out⟩)
              clear hr hc hbr hgl
              go_wp2
              go_quiet (fail)
              obtain ⟨V2, hV2⟩ : ∃ V2, V2 = wr.drewN nq := ⟨_, rfl⟩
              rw [← hV2]
              have hb2V : Below W.heap.size W V2 := by rw [hV2]; exact below_draws HBR.out _
              have hrV : Own1 TN V2 B0 (.slice (some ⟨G1, 0, none⟩) p c1) (icells (vec p (rR t x n k l))) := by rw [hV2]; exact HRR.out
              have hcV : Own1 TN V2 B0 (.slice (some ⟨G2, 0, none⟩) n c2) (icells (vec n (cC t x k l))) := by rw [hV2]; exact HCC.out
              clear hV2 ez e2 et0 et2 em0 em2
              have e1 : V2.cell? ⟨bz, oz + k, none⟩ = some (.slice (some ⟨b2, o2, none⟩) n ck) := (hb2V.cell (p := ⟨bz, oz + k, none⟩) hbz).trans FZ.out
              have e2 : V2.cell? ⟨b2, o2 + l, none⟩ = some (.int .i64 y) := (hb2V.cell (p := ⟨b2, o2 + l, none⟩) hb2).trans F2.out
              obtain ⟨k1, kf⟩ := hrV.cellAt k (by rw [icells_len, vec_len]; exact hlt)
              rw [vec_at _ _ hlt] at k1
              have hnb1 := rR_bd (t := t) (x := x) (k := k) (l := l) HT.out (by rw [HQ.out]; exact hlt) (by rw [HD.out]; exact hl) (fun b hb => ⟨(HGL.out b hb).1, (HGL.out b hb).2.1⟩)
              have hzb1 := cC_bd (t := t) (x := x) (k := k) (l := l) HT.out (by rw [HQ.out]; omega) (by rw [HD.out]; exact hlt2) (fun a ha => ⟨((HGD.out a ha).2 l hlt2).1, ((HGD.out a ha).2 l hlt2).2.1⟩)
              rw [HD.out] at hnb1
              have SR := Lib.hid (rR_step (t := t) (x := x) (q := p) (d := n) (k := k) (l := l))
              have SC := Lib.hid (cC_step (t := t) (x := x) (d := n) (k := k) (l := l))
              obtain ⟨nn, hne⟩ : ∃ nn, rR t x n k l k = nn := ⟨_, rfl⟩
              obtain ⟨zz, hze⟩ : ∃ zz, cC t x k l l = zz := ⟨_, rfl⟩
              rw [hne] at k1 hnb1 SR
              rw [hze] at hzb1 SC
              rw [HY.out] at SR SC
              have HZE := Lib.hid hze
              have hw1 : IntKind.i64.wrap (nn - y) = nn - y := by rw [IntKind.wrap_i64]; omega
              have hw2 : IntKind.i64.wrap (zz - y) = zz - y := by rw [IntKind.wrap_i64]; omega
              obtain ⟨X, hX⟩ : ∃ X, X = V2.drew := ⟨_, rfl⟩
              obtain ⟨Y, hY⟩ : ∃ Y, Y = X.setCell ⟨G1, k, none⟩ (.int .i64 (nn - y)) := ⟨_, rfl⟩
              obtain ⟨Z, hZ⟩ : ∃ Z, Z = Y.drew := ⟨_, rfl⟩
              have hbX : Below W.heap.size W X := by rw [hX]; exact hb2V.drew
              have hrX : Own1 TN X B0 (.slice (some ⟨G1, 0, none⟩) p c1) (icells (vec p (rR t x n k l))) := by rw [hX]; exact hrV
              have hcX : Own1 TN X B0 (.slice (some ⟨G2, 0, none⟩) n c2) (icells (vec n (cC t x k l))) := by rw [hX]; exact hcV
              have kX : X.cell? ⟨G1, k, none⟩ = some (.int .i64 nn) := by rw [hX]; exact k1
              have kfX : X.frozen? ⟨G1, k, none⟩ = false := by rw [hX]; exact kf
              have hYo : ∀ j, j ≠ G1 → Y.heap[j]? = X.heap[j]? := fun j hj => by rw [hY]; exact Below.heap_setCell X ⟨G1, k, none⟩ _ j hj
              have hbY : Below W.heap.size W Y := by rw [hY]; exact hbX.setCell (p := ⟨G1, k, none⟩) hWG1 _
              have hrY : Own1 TN Y B0 (.slice (some ⟨G1, 0, none⟩) p c1) (icells (vec p (rR t x n k (l + 1)))) := by
                rw [hY, ← SR.out]
                have h := hrX.setAt k (.int .i64 (nn - y))
                rw [show (icells (vec p (rR t x n k l))).set k (.int .i64 (nn - y)) = icells ((vec p (rR t x n k l)).set k (nn - y)) by simp [icells, List.map_set]] at h
                exact h
              have hcY : Own1 TN Y B0 (.slice (some ⟨G2, 0, none⟩) n c2) (icells (vec n (cC t x k l))) := hcX.same fun j e => hYo j (by have e2 : some G2 = some j := e; injection e2 with e2; omega)
              have e1Y : Y.cell? ⟨bz, oz + k, none⟩ = some (.slice (some ⟨b2, o2, none⟩) n ck) := (hbY.cell (p := ⟨bz, oz + k, none⟩) hbz).trans FZ.out
              have e2Y : Y.cell? ⟨b2, o2 + l, none⟩ = some (.int .i64 y) := (hbY.cell (p := ⟨b2, o2 + l, none⟩) hb2).trans F2.out
              obtain ⟨k2Y, kf2Y⟩ := hcY.cellAt l (by rw [icells_len, vec_len]; exact hlt2)
              rw [vec_at _ _ hlt2, HZE.out] at k2Y
              have hbZ : Below W.heap.size W (Z.setCell ⟨G2, l, none⟩ (.int .i64 (zz - y))) := by rw [hZ]; exact hbY.drew.setCell (p := ⟨G2, l, none⟩) hWG2 _
              have k2Z : Z.cell? ⟨G2, l, none⟩ = some (.int .i64 zz) := by rw [hZ]; exact k2Y
              have kf2Z : Z.frozen? ⟨G2, l, none⟩ = false := by rw [hZ]; exact kf2Y
              have HcZ := Lib.hid (show Own1 TN (Z.setCell ⟨G2, l, none⟩ (.int .i64 (zz - y))) B0 (.slice (some ⟨G2, 0, none⟩) n c2) (icells (vec n (cC t x k (l + 1)))) by
                rw [hZ, ← SC.out]
                have h := (show Own1 TN Y.drew B0 (.slice (some ⟨G2, 0, none⟩) n c2) (icells (vec n (cC t x k l))) from hcY).setAt l (.int .i64 (zz - y))
                rw [show (icells (vec n (cC t x k l))).set l (.int .i64 (zz - y)) = icells ((vec n (cC t x k l)).set l (zz - y)) by simp [icells, List.map_set]] at h
                exact h)
              have HrZ := Lib.hid (show Own1 TN (Z.setCell ⟨G2, l, none⟩ (.int .i64 (zz - y))) B0 (.slice (some ⟨G1, 0, none⟩) p c1) (icells (vec p (rR t x n k (l + 1)))) by
                rw [hZ]
                exact (show Own1 TN Y.drew B0 (.slice (some ⟨G1, 0, none⟩) p c1) (icells (vec p (rR t x n k (l + 1)))) from hrY).same fun j e => Below.heap_setCell Y.drew ⟨G2, l, none⟩ _ j (by have e2 : some G1 = some j := e; injection e2 with e2; show j ≠ G2; omega))
              have HbZ := Lib.hid hbZ
              have HYE := Lib.hid hY; have HXE := Lib.hid hX; have HZZ := Lib.hid hZ
              have E1Y := Lib.hid e1Y; have E2Y := Lib.hid e2Y; have K2Y := Lib.hid k2Y; have K2Z := Lib.hid k2Z; have KF2Z := Lib.hid kf2Z; have KX := Lib.hid kX; have KFX := Lib.hid kfX
              clear hne hze hb2V hrV hcV hbX hrX hcX hYo hbY hrY hcY hbZ hY hX hZ e1Y e2Y k2Y kf2Y k2Z kf2Z kX kfX kf
              go_wp2
              go_still_tail 15, (by kernel_rfl)
              change wpList _ _ _ _ _ V2.drew
              rw [← HXE.out]
              clear e1 e2 k1
              have kX := KX.out
              have kfX := KFX.out
              go_wp2
              rw [← HYE.out]
              clear kX kfX
              have e1 := E1Y.out
              have e2 := E2Y.out
              have k2 := K2Y.out
              go_still_tail 15, (by kernel_rfl)
              change wpList _ _ _ _ _ Y.drew
              rw [← HZZ.out]
              clear e1 e2 k2
              have k3 := K2Z.out
              have kf3 := KF2Z.out
              go_wp2
              go_roundw
              case rel => exact ⟨l + 1, by omega, by go_num, fun b hb => by
                by_cases e : b = l
                · subst e; exact HOK.out
                · exact HGL.out b (by omega), HrZ.out, HcZ.out, HbZ.out⟩
              case measure => simp [intOf]; omega
          · skip
            have HOK := Lib.hid (show okC t m x k l from ⟨by rw [HY.out]; omega, by rw [HY.out]; omega, fun e => by rw [HF.out] at e; cases e⟩)
            clear hr hc hbr hgl
            go_wp2
            go_quiet (fail)
            obtain ⟨V2, hV2⟩ : ∃ V2, V2 = wr.drewN nq := ⟨_, rfl⟩
            rw [← hV2]
            have hb2V : Below W.heap.size W V2 := by rw [hV2]; exact below_draws HBR.out _
            have hrV : Own1 TN V2 B0 (.slice (some ⟨G1, 0, none⟩) p c1) (icells (vec p (rR t x n k l))) := by rw [hV2]; exact HRR.out
            have hcV : Own1 TN V2 B0 (.slice (some ⟨G2, 0, none⟩) n c2) (icells (vec n (cC t x k l))) := by rw [hV2]; exact HCC.out
            clear hV2 ez e2 et0 et2 em0 em2
            have e1 : V2.cell? ⟨bz, oz + k, none⟩ = some (.slice (some ⟨b2, o2, none⟩) n ck) := (hb2V.cell (p := ⟨bz, oz + k, none⟩) hbz).trans FZ.out
            have e2 : V2.cell? ⟨b2, o2 + l, none⟩ = some (.int .i64 y) := (hb2V.cell (p := ⟨b2, o2 + l, none⟩) hb2).trans F2.out
            obtain ⟨k1, kf⟩ := hrV.cellAt k (by rw [icells_len, vec_len]; exact hlt)
            rw [vec_at _ _ hlt] at k1
            have hnb1 := rR_bd (t := t) (x := x) (k := k) (l := l) HT.out (by rw [HQ.out]; exact hlt) (by rw [HD.out]; exact hl) (fun b hb => ⟨(HGL.out b hb).1, (HGL.out b hb).2.1⟩)
            have hzb1 := cC_bd (t := t) (x := x) (k := k) (l := l) HT.out (by rw [HQ.out]; omega) (by rw [HD.out]; exact hlt2) (fun a ha => ⟨((HGD.out a ha).2 l hlt2).1, ((HGD.out a ha).2 l hlt2).2.1⟩)
            rw [HD.out] at hnb1
            have SR := Lib.hid (rR_step (t := t) (x := x) (q := p) (d := n) (k := k) (l := l))
            have SC := Lib.hid (cC_step (t := t) (x := x) (d := n) (k := k) (l := l))
            obtain ⟨nn, hne⟩ : ∃ nn, rR t x n k l k = nn := ⟨_, rfl⟩
            obtain ⟨zz, hze⟩ : ∃ zz, cC t x k l l = zz := ⟨_, rfl⟩
            rw [hne] at k1 hnb1 SR
            rw [hze] at hzb1 SC
            rw [HY.out] at SR SC
            have HZE := Lib.hid hze
            have hw1 : IntKind.i64.wrap (nn - y) = nn - y := by rw [IntKind.wrap_i64]; omega
            have hw2 : IntKind.i64.wrap (zz - y) = zz - y := by rw [IntKind.wrap_i64]; omega
            obtain ⟨X, hX⟩ : ∃ X, X = V2.drew := ⟨_, rfl⟩
            obtain ⟨Y, hY⟩ : ∃ Y, Y = X.setCell ⟨G1, k, none⟩ (.int .i64 (nn - y)) := ⟨_, rfl⟩
            obtain ⟨Z, hZ⟩ : ∃ Z, Z = Y.drew := ⟨_, rfl⟩
            have hbX : Below W.heap.size W X := by rw [hX]; exact hb2V.drew
            have hrX : Own1 TN X B0 (.slice (some ⟨G1, 0, none⟩) p c1) (icells (vec p (rR t x n k l))) := by rw [hX]; exact hrV
            have hcX : Own1 TN X B0 (.slice (some ⟨G2, 0, none⟩) n c2) (icells (vec n (cC t x k l))) := by rw [hX]; exact hcV
            have kX : X.cell? ⟨G1, k, none⟩ = some (.int .i64 nn) := by rw [hX]; exact k1
            have kfX : X.frozen? ⟨G1, k, none⟩ = false := by rw [hX]; exact kf
            have hYo : ∀ j, j ≠ G1 → Y.heap[j]? = X.heap[j]? := fun j hj => by rw [hY]; exact Below.heap_setCell X ⟨G1, k, none⟩ _ j hj
            have hbY : Below W.heap.size W Y := by rw [hY]; exact hbX.setCell (p := ⟨G1, k, none⟩) hWG1 _
            have hrY : Own1 TN Y B0 (.slice (some ⟨G1, 0, none⟩) p c1) (icells (vec p (rR t x n k (l + 1)))) := by
              rw [hY, ← SR.out]
              have h := hrX.setAt k (.int .i64 (nn - y))
              rw [show (icells (vec p (rR t x n k l))).set k (.int .i64 (nn - y)) = icells ((vec p (rR t x n k l)).set k (nn - y)) by simp [icells, List.map_set]] at h
              exact h
            have hcY : Own1 TN Y B0 (.slice (some ⟨G2, 0, none⟩) n c2) (icells (vec n (cC t x k l))) := hcX.same fun j e => hYo j (by have e2 : some G2 = some j := e; injection e2 with e2; omega)
            have e1Y : Y.cell? ⟨bz, oz + k, none⟩ = some (.slice (some ⟨b2, o2, none⟩) n ck) := (hbY.cell (p := ⟨bz, oz + k, none⟩) hbz).trans FZ.out
            have e2Y : Y.cell? ⟨b2, o2 + l, none⟩ = some (.int .i64 y) := (hbY.cell (p := ⟨b2, o2 + l, none⟩) hb2).trans F2.out
            obtain ⟨k2Y, kf2Y⟩ := hcY.cellAt l (by rw [icells_len, vec_len]; exact hlt2)
            rw [vec_at _ _ hlt2, HZE.out] at k2Y
            have hbZ : Below W.heap.size W (Z.setCell ⟨G2, l, none⟩ (.int .i64 (zz - y))) := by rw [hZ]; exact hbY.drew.setCell (p := ⟨G2, l, none⟩) hWG2 _
            have k2Z : Z.cell? ⟨G2, l, none⟩ = some (.int .i64 zz) := by rw [hZ]; exact k2Y
            have kf2Z : Z.frozen? ⟨G2, l, none⟩ = false := by rw [hZ]; exact kf2Y
            have HcZ := Lib.hid (show Own1 TN (Z.setCell ⟨G2, l, none⟩ (.int .i64 (zz - y))) B0 (.slice (some ⟨G2, 0, none⟩) n c2) (icells (vec n (cC t x k (l + 1)))) by
              rw [hZ, ← SC.out]
              have h := (show Own1 TN Y.drew B0 (.slice (some ⟨G2, 0, none⟩) n c2) (icells (vec n (cC t x k l))) from hcY).setAt l (.int .i64 (zz - y))
              rw [show (icells (vec n (cC t x k l))).set l (.int .i64 (zz - y)) = icells ((vec n (cC t x k l)).set l (zz - y)) by simp [icells, List.map_set]] at h
              exact h)
            have HrZ := Lib.hid (show Own1 TN (Z.setCell ⟨G2, l, none⟩ (.int .i64 (zz - y))) B0 (.slice (some ⟨G1, 0, none⟩) p c1) (icells (vec p (rR t x n k (l + 1)))) by
              rw [hZ]
              exact (show Own1 TN Y.drew B0 (.slice (some ⟨G1, 0, none⟩) p c1) (icells (vec p (rR t x n k (l + 1)))) from hrY).same fun j e => Below.heap_setCell Y.drew ⟨G2, l, none⟩ _ j (by have e2 : some G1 = some j := e; injection e2 with e2; show j ≠ G2; omega))
            have HbZ := Lib.hid hbZ
            have HYE := Lib.hid hY; have HXE := Lib.hid hX; have HZZ := Lib.hid hZ
            have E1Y := Lib.hid e1Y; have E2Y := Lib.hid e2Y; have K2Y := Lib.hid k2Y; have K2Z := Lib.hid k2Z; have KF2Z := Lib.hid kf2Z; have KX := Lib.hid kX; have KFX := Lib.hid kfX
            clear hne hze hb2V hrV hcV hbX hrX hcX hYo hbY hrY hcY hbZ hY hX hZ e1Y e2Y k2Y kf2Y k2Z kf2Z kX kfX kf
            go_wp2
            go_still_tail 15, (by kernel_rfl)
            change wpList _ _ _ _ _ V2.drew
            rw [← HXE.out]
            clear e1 e2 k1
            have kX := KX.out
            have kfX := KFX.out
            go_wp2
            rw [← HYE.out]
            clear kX kfX
            have e1 := E1Y.out
            have e2 := E2Y.out
            have k2 := K2Y.out
            go_still_tail 15, (by kernel_rfl)
            change wpList _ _ _ _ _ Y.drew
            rw [← HZZ.out]
            clear e1 e2 k2
            have k3 := K2Z.out
            have kf3 := KF2Z.out
            go_wp2
            go_roundw
            case rel => exact ⟨l + 1, by omega, by go_num, fun b hb => by
              by_cases e : b = l
              · subst e; exact HOK.out
              · exact HGL.out b (by omega), HrZ.out, HcZ.out, HbZ.out⟩
            case measure => simp [intOf]; omega
        · have hli : ¬ (l : Int) < (n : Int) := by omega
          have hln : l = n := by omega
          have H1 := Lib.hid (show Own1 TN wr B0 (.slice (some ⟨G1, 0, none⟩) p c1) (icells (vec p (rR t x n (k + 1) 0))) by rw [← rR_next, ← hln]; rw [hln] at hr; rw [hln]; exact hr)
          have H2 := Lib.hid (show Own1 TN wr B0 (.slice (some ⟨G2, 0, none⟩) n c2) (icells (vec n (cC t x (k + 1) 0))) by rw [← cC_next]; rw [hln] at hc; exact hc)
          clear hgl hr hc hbr
          go_wp2
          go_roundw
          case rel => exact ⟨k + 1, by omega, by go_num, fun a ha => by
            by_cases e : a = k
            · subst e; exact ⟨HN.out, fun b hb => HGL.out b (by omega)⟩
            · exact HGD.out a (by omega), H1.out, H2.out, HBR.out⟩
          case measure => simp [intOf]; omega
    · have hki : ¬ (k : Int) < (p : Int) := by omega
      have hkp : k = p := by omega
      obtain ⟨az, haz⟩ : ∃ az, allz (vec p (rR t x d p 0)) = az := ⟨_, rfl⟩
      obtain ⟨bz, hbz⟩ : ∃ bz, allz (vec d (cC t x p 0)) = bz := ⟨_, rfl⟩
      have HAZ := Lib.hid haz
      have HBZ := Lib.hid hbz
      have HE := Lib.hid (show (az && bz) = g by
        have h := fit_end (t := t) (m := m) (x := x) HMK.out (by rw [HQ.out, HP.out]) (fun a ha => by rw [HD.out]; exact (hgood a (by rw [HQ.out] at ha; omega)).1) (fun a b ha hb => (hgood a (by rw [HQ.out] at ha; omega)).2 b (by rw [HD.out] at hb; exact hb))
        rw [HQ.out, HD.out, haz, hbz, HG.out] at h; exact h)
      rw [hkp] at hr hc
      have HI1 := Lib.hid hr.inI.is
      have HI2 := Lib.hid hc.inI.is
      clear hgood hr hc hbr hkp haz hbz
      go_wp2_with fail
      refine (sZero_is wr _ _ HI1.out (by rw [vec_len]; omega) az HAZ.out wr (Below.refl _ _)).mono ?_
      rintro e w5 ⟨rfl, b5⟩
      cases az
      · go_wp2
        go_ret
        exact ⟨by rw [← HE.out]; rfl, HBR.out.trans (b5.mono HBR.out.size)⟩
      · go_wp2_with fail
        refine (sZero_is wr _ _ HI2.out (by rw [vec_len]; omega) bz HBZ.out _ b5).mono ?_
        rintro e w6 ⟨rfl, b6⟩
        go_wp2
        go_ret
        exact ⟨by rw [← HE.out]; rfl, HBR.out.trans (b6.mono HBR.out.size)⟩
end Go.Proofs.Ytdjjkfhdgnlkeaa
