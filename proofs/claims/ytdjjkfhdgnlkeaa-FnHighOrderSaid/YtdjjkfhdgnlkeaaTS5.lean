/- Contracts of the model: TableSums, TableTotal. -/
import Derived.Test.YtdjjkfhdgnlkeaaTS4
set_option maxRecDepth 100000
namespace Go.Proofs.Ytdjjkfhdgnlkeaa
open Go.RowKit
set_option maxHeartbeats 4000000 in
theorem sSums_is (W : World) (t : Tb) (v : Value) (hv : IsR W v t) (r s : List Int) (g : Bool) (hr : rsumI t = r) (hs : csumI t = s) (hg : tabOk t = g) (w : World) (hb : Below W.heap.size W w) :
    Calls Try.prog 35 #[v] w (OutS r s g w) := by
  obtain ⟨i0, hi0, hz0, hs0, hs1⟩ := info_parts (P := Try.prog) (e := TN) (z := .int .i64 0) (size := 1) (bytes := 8) (by kernel_rfl)
  have HG := Lib.hid hg
  have HRS := Lib.hid hr
  have HCS := Lib.hid hs
  have hv0 := hv.below hb
  clear hv hb
  obtain ⟨A, c, rfl, a1, a2, a3⟩ := hv0
  obtain ⟨q, hq⟩ : ∃ q, q = t.length := ⟨_, rfl⟩
  have HV := Lib.hid (show IsR w (.slice A q c) t by rw [hq]; exact ⟨A, c, rfl, a1, a2, a3⟩)
  have HQ := Lib.hid hq
  have HR := Lib.hid a3
  rw [← hq]
  clear a1 a2 a3 hg hr hs hq
  go_enter Try.func35, Try.ntmps35
  go_wp2_with fail
  refine (sTab_is w t _ HV.out g HG.out _ (Below.refl _ _)).mono ?_
  rintro e w1 ⟨rfl, b1⟩
  have HB1 := Lib.hid b1
  have hz1 := b1.size
  cases g
  · have HE := Lib.hid (show r = [] by rw [← HRS.out, rsumI, HG.out]; rfl)
    have HE2 := Lib.hid (show s = [] by rw [← HCS.out, csumI, HG.out]; rfl)
    have HO := Lib.hid (show InI ((w1.alloc (.cells #[] TN)).alloc (.cells #[] TN)) w.heap.size ((w1.alloc (.cells #[] TN)).alloc (.cells #[] TN)).heap.size (.slice (some ⟨w1.heap.size, 0, none⟩) 0 0) [] from ((own1_new (T := TN) hz1).alloc _).inI)
    have HO2 := Lib.hid (show InI ((w1.alloc (.cells #[] TN)).alloc (.cells #[] TN)) w.heap.size ((w1.alloc (.cells #[] TN)).alloc (.cells #[] TN)).heap.size (.slice (some ⟨w1.heap.size + 1, 0, none⟩) 0 0) [] by
      have h := own1_new (T := TN) (w := w1.alloc (.cells #[] TN)) (B := w.heap.size) (by simp; omega)
      have e : (w1.alloc (.cells #[] TN)).heap.size = w1.heap.size + 1 := by simp
      rw [e] at h
      exact h.inI)
    have HB2 := Lib.hid ((b1.alloc hz1 (.cells #[] TN)).alloc (by simp; omega) (.cells #[] TN))
    clear b1 hi0 hz0 hs0 hs1
    go_wp2
    refine bodyPost_ret (results_tmp3 rfl _ _ _) rfl ?_
    exact ⟨_, _, rfl, by rw [HE.out]; exact HO.out, by rw [HE2.out]; exact HO2.out, fun k e e2 => by
      have h1 : some w1.heap.size = some k := e
      have h2 : some (w1.heap.size + 1) = some k := e2
      rw [← h1] at h2; injection h2 with h2; omega, HB2.out⟩
  have ht := tab_iff.1 HG.out
  have HE := Lib.hid (show r = rsum t by rw [← HRS.out, rsumI, if_pos HG.out])
  have HE2 := Lib.hid (show s = csum t by rw [← HCS.out, csumI, if_pos HG.out])
  have hq4 : 1 ≤ q ∧ q ≤ 4 := by rw [HQ.out]; exact ⟨ht.h1, ht.h4⟩
  obtain ⟨d, hd⟩ : ∃ d, d = wd t := ⟨_, rfl⟩
  have hd4 : 1 ≤ d ∧ d ≤ 4 := by rw [hd]; exact ⟨ht.w1, ht.w4⟩
  have HD := Lib.hid hd
  have HTT := Lib.hid ht
  have HLN := Lib.hid (show ∀ i, i < q → (t.getD i []).length = d from fun i hi => by rw [hd]; exact tab_lens HG.out (by rw [← HQ.out]; exact hi))
  obtain ⟨b, o, A0, c0, rfl, hbW, hc, _, _, _⟩ := HR.out.at_ 0 (by rw [← HQ.out]; omega)
  rw [← wd_zero, ← hd, Nat.add_zero] at hc
  have HC0 := Lib.hid hc
  clear hc ht hd b1
  go_wp2_with (first
    | (at_make
       refine wpList_make_full _ rfl _ _ 28 rfl w1.heap.size TN i0 (.int .i64 0) 1 Try.underlying28 hi0 hz0 hs0 _ _ _ _ q rfl rfl rfl rfl (by rw [hs1]; omega) (by simp only [maxLen]; omega) (Nat.le_refl _) ?_
       intro w2 ho hg
       have HO1 := Lib.hid (made_zrow ho)
       have hB2 : Below w1.heap.size w1 w2 := (Below.refl _ _).grown hg (Nat.le_refl _) (fun k hk => by cases hk)
       have hz2 := hB2.size
       have b2 := HB1.out.trans (hB2.mono hz1)
       have e0 := (b2.cell (p := ⟨b, o, none⟩) hbW).trans HC0.out
       have HB2 := Lib.hid b2
       clear ho hg hB2 b2)
    | (at_make
       refine wpList_make_full _ rfl _ _ 28 rfl w2.heap.size TN i0 (.int .i64 0) 1 Try.underlying28 hi0 hz0 hs0 _ _ _ _ d rfl rfl rfl rfl (by rw [hs1]; omega) (by simp only [maxLen]; omega) (Nat.le_refl _) ?_
       intro w3 ho hg
       have HO2 := Lib.hid (made_zrow ho)
       have hB3 : Below w2.heap.size w2 w3 := (Below.refl _ _).grown hg (Nat.le_refl _) (fun k hk => by cases hk)
       have HO3 := Lib.hid (HO1.out.below hB3)
       have HB3 := Lib.hid (HB2.out.trans (hB3.mono HB2.out.size))
       clear ho hg hB3 e0))
  have hlt12 : w1.heap.size < w2.heap.size := (HO1.out.ob _ rfl).2
  have HR0 := Lib.hid (show Own1 TN w3 w1.heap.size (.slice (some ⟨w1.heap.size, 0, none⟩) q q) (icells (vec q (rsTo t 0 0))) by rw [rsTo_start]; exact HO3.out)
  have HC1 := Lib.hid (show Own1 TN w3 w2.heap.size (.slice (some ⟨w2.heap.size, 0, none⟩) d d) (icells (vec d (csTo t 0 0))) by rw [csTo_start]; exact HO2.out)
  clear HO1 HO2 HO3 hi0 hz0 hs0 hs1
  obtain ⟨G1, hG1⟩ : ∃ G1, w1.heap.size = G1 := ⟨_, rfl⟩
  obtain ⟨G2, hG2⟩ : ∃ G2, w2.heap.size = G2 := ⟨_, rfl⟩
  rw [hG1] at HR0 hlt12 hz1 ⊢
  rw [hG2] at HC1 hlt12 ⊢
  clear hz2 hG1 hG2
  go_loopw [7] (fun i wr => ∃ k : Nat, k ≤ q ∧ i = .int .i64 k ∧ Own1 TN wr G1 (.slice (some ⟨G1, 0, none⟩) q q) (icells (vec q (rsTo t k 0))) ∧ Own1 TN wr G2 (.slice (some ⟨G2, 0, none⟩) d d) (icells (vec d (csTo t k 0))) ∧ Below w.heap.size w wr) (fun i _ => q - (intOf i).toNat)
  case atStart => exact ⟨0, Nat.zero_le _, rfl, HR0.out, HC1.out, HB3.out⟩
  case round =>
    obtain ⟨k, hk, rfl, hr, hc, hb⟩ := hrel
    clear HR0 HC1 HB3
    by_cases hlt : k < q
    · have hki : (k : Int) < (q : Int) := by omega
      have hkt : k < t.length := by rw [← HQ.out]; exact hlt
      have hlen := HLN.out k hlt
      obtain ⟨b', o', A1, cc, hA, _, hc1, _, _, hr1⟩ := HR.out.at_ k hkt
      injection hA with hA
      injection hA with p1 p2 _
      subst p1 p2
      rw [hlen] at hc1
      have HC1 := Lib.hid hc1
      have HR1 := Lib.hid hr1
      have HLEN := Lib.hid hlen
      have HKT := Lib.hid hkt
      have H1 := Lib.hid hr; have H2 := Lib.hid hc; have HB := Lib.hid hb
      clear hr hc hb hc1 hr1 hlen hkt
      go_wp2
      go_loopw [8] (fun j wr' => ∃ x : Nat, x ≤ d ∧ j = .int .i64 x ∧ Own1 TN wr' G1 (.slice (some ⟨G1, 0, none⟩) q q) (icells (vec q (rsTo t k x))) ∧ Own1 TN wr' G2 (.slice (some ⟨G2, 0, none⟩) d d) (icells (vec d (csTo t k x))) ∧ Below w.heap.size w wr') (fun j _ => d - (intOf j).toNat)
      case atStart => exact ⟨0, Nat.zero_le _, rfl, H1.out, H2.out, HB.out⟩
      case round =>
        obtain ⟨x, hx, rfl, hr, hc, hb⟩ := hrel
        clear H1 H2 HB
        have e1 := (hb.cell (p := ⟨b, o + k, none⟩) hbW).trans HC1.out
        by_cases hxd : x < d
        · have hxi : (x : Int) < (d : Int) := by omega
          have hxw : x < wd t := by rw [← HD.out]; exact hxd
          obtain ⟨b2, o2, hA2, hb2, hc2⟩ := HR1.out.int_ x (by rw [HLEN.out]; exact hxd)
          subst hA2
          have e2 := (hb.cell (p := ⟨b2, o2 + x, none⟩) hb2).trans hc2
          obtain ⟨k1, kf⟩ := hr.cellAt k (by rw [icells_len, vec_len]; exact hlt)
          rw [vec_at _ _ hlt] at k1
          obtain ⟨k2, kf2⟩ := hc.cellAt x (by rw [icells_len, vec_len]; exact hxd)
          rw [vec_at _ _ hxd] at k2
          have hy := cell_bd HTT.out HKT.out hxw
          have hn := rsTo_bd HTT.out k x HKT.out
          have hz := csTo_bd HTT.out k hxw
          have SR := Lib.hid (rsTo_step t q (i := k) (j := x) (by rw [HLEN.out]; exact hxd))
          have SC := Lib.hid (csTo_step t d (i := k) (j := x) HKT.out)
          obtain ⟨y, hye⟩ : ∃ y, (t.getD k []).getD x 0 = y := ⟨_, rfl⟩
          obtain ⟨n, hne⟩ : ∃ n, rsTo t k x k = n := ⟨_, rfl⟩
          obtain ⟨z, hze⟩ : ∃ z, csTo t k x x = z := ⟨_, rfl⟩
          rw [hye] at e2 hy SR SC
          rw [hne] at k1 hn SR
          rw [hze] at k2 hz SC
          obtain ⟨hy0, hy1⟩ := hy
          obtain ⟨hn0, hn1⟩ := hn
          obtain ⟨hz0, hz1'⟩ := hz
          have hw1 : IntKind.i64.wrap (n + y) = n + y := by rw [IntKind.wrap_i64]; omega
          have hw2 : IntKind.i64.wrap (z + y) = z + y := by rw [IntKind.wrap_i64]; omega
          have hb2G : b2 < G1 := by omega
          have hbG : b < G1 := by omega
          obtain ⟨X, hX⟩ : ∃ X, X = wr.drew := ⟨_, rfl⟩
          obtain ⟨Y, hY⟩ : ∃ Y, Y = X.setCell ⟨G1, k, none⟩ (.int .i64 (n + y)) := ⟨_, rfl⟩
          obtain ⟨Z, hZ⟩ : ∃ Z, Z = Y.drew := ⟨_, rfl⟩
          have hbX : Below w.heap.size w X := by rw [hX]; exact hb.drew
          have hrX : Own1 TN X G1 (.slice (some ⟨G1, 0, none⟩) q q) (icells (vec q (rsTo t k x))) := by rw [hX]; exact hr
          have hcX : Own1 TN X G2 (.slice (some ⟨G2, 0, none⟩) d d) (icells (vec d (csTo t k x))) := by rw [hX]; exact hc
          have kX : X.cell? ⟨G1, k, none⟩ = some (.int .i64 n) := by rw [hX]; exact k1
          have kfX : X.frozen? ⟨G1, k, none⟩ = false := by rw [hX]; exact kf
          have hYo : ∀ j, j ≠ G1 → Y.heap[j]? = X.heap[j]? := fun j hj => by rw [hY]; exact Below.heap_setCell X ⟨G1, k, none⟩ _ j hj
          have hbY : Below w.heap.size w Y := by rw [hY]; exact hbX.setCell (p := ⟨G1, k, none⟩) (show w.heap.size ≤ G1 from hz1) _
          have hrY : Own1 TN Y G1 (.slice (some ⟨G1, 0, none⟩) q q) (icells (vec q (rsTo t k (x + 1)))) := by
            rw [hY, ← SR.out]
            have h := hrX.setAt k (.int .i64 (n + y))
            rw [show (icells (vec q (rsTo t k x))).set k (.int .i64 (n + y)) = icells ((vec q (rsTo t k x)).set k (n + y)) by simp [icells, List.map_set]] at h
            exact h
          have hcY : Own1 TN Y G2 (.slice (some ⟨G2, 0, none⟩) d d) (icells (vec d (csTo t k x))) := hcX.same fun j e => hYo j (by have e2 : some G2 = some j := e; injection e2 with e2; omega)
          have e1Y := (hbY.cell (p := ⟨b, o + k, none⟩) hbW).trans HC1.out
          have e2Y := (hbY.cell (p := ⟨b2, o2 + x, none⟩) hb2).trans hc2
          rw [hye] at e2Y
          obtain ⟨k2Y, kf2Y⟩ := hcY.cellAt x (by rw [icells_len, vec_len]; exact hxd)
          rw [vec_at _ _ hxd, hze] at k2Y
          have hbZ : Below w.heap.size w (Z.setCell ⟨G2, x, none⟩ (.int .i64 (z + y))) := by rw [hZ]; exact hbY.drew.setCell (p := ⟨G2, x, none⟩) (show w.heap.size ≤ G2 by omega) _
          have k2Z : Z.cell? ⟨G2, x, none⟩ = some (.int .i64 z) := by rw [hZ]; exact k2Y
          have kf2Z : Z.frozen? ⟨G2, x, none⟩ = false := by rw [hZ]; exact kf2Y
          have HcZ := Lib.hid (show Own1 TN (Z.setCell ⟨G2, x, none⟩ (.int .i64 (z + y))) G2 (.slice (some ⟨G2, 0, none⟩) d d) (icells (vec d (csTo t k (x + 1)))) by
            rw [hZ, ← SC.out]
            have h := (show Own1 TN Y.drew G2 (.slice (some ⟨G2, 0, none⟩) d d) (icells (vec d (csTo t k x))) from hcY).setAt x (.int .i64 (z + y))
            rw [show (icells (vec d (csTo t k x))).set x (.int .i64 (z + y)) = icells ((vec d (csTo t k x)).set x (z + y)) by simp [icells, List.map_set]] at h
            exact h)
          have HrZ := Lib.hid (show Own1 TN (Z.setCell ⟨G2, x, none⟩ (.int .i64 (z + y))) G1 (.slice (some ⟨G1, 0, none⟩) q q) (icells (vec q (rsTo t k (x + 1)))) by
            rw [hZ]
            exact (show Own1 TN Y.drew G1 (.slice (some ⟨G1, 0, none⟩) q q) (icells (vec q (rsTo t k (x + 1)))) from hrY).same fun j e => Below.heap_setCell Y.drew ⟨G2, x, none⟩ _ j (by have e2 : some G1 = some j := e; injection e2 with e2; show j ≠ G2; omega))
          have HbZ := Lib.hid hbZ
          have HY := Lib.hid hY; have HX := Lib.hid hX; have HZ := Lib.hid hZ
          have E1Y := Lib.hid e1Y; have E2Y := Lib.hid e2Y; have K2Y := Lib.hid k2Y; have K2Z := Lib.hid k2Z; have KF2Z := Lib.hid kf2Z; have KX := Lib.hid kX; have KFX := Lib.hid kfX
          clear hye hne hze hc2 hr hc hb hbX hrX hcX hYo hbY hrY hcY hbZ hY hX hZ e1Y e2Y k2Y kf2Y k2Z kf2Z kX kfX k2 kf2 kf hxw
          go_wp2
          go_still_tail 15, (by kernel_rfl)
          change wpList _ _ _ _ _ wr.drew
          rw [← HX.out]
          clear e1 e2 k1
          have kX := KX.out
          have kfX := KFX.out
          go_wp2
          rw [← HY.out]
          clear kX kfX
          have e1 := E1Y.out
          have e2 := E2Y.out
          have k2 := K2Y.out
          go_still_tail 15, (by kernel_rfl)
          change wpList _ _ _ _ _ Y.drew
          rw [← HZ.out]
          clear e1 e2 k2
          have k3 := K2Z.out
          have kf3 := KF2Z.out
          go_wp2
          go_roundw
          case rel => exact ⟨x + 1, by omega, by go_num, HrZ.out, HcZ.out, HbZ.out⟩
          case measure => simp [intOf]; omega
        · have hxi : ¬ (x : Int) < (d : Int) := by omega
          have hxd2 : x = d := by omega
          have H1 := Lib.hid (show Own1 TN wr G1 (.slice (some ⟨G1, 0, none⟩) q q) (icells (vec q (rsTo t (k + 1) 0))) by rw [← rsTo_next, HLEN.out, ← hxd2]; exact hr)
          have H2 := Lib.hid (show Own1 TN wr G2 (.slice (some ⟨G2, 0, none⟩) d d) (icells (vec d (csTo t (k + 1) 0))) by rw [← csTo_next, ← hxd2]; rw [← hxd2] at hc; exact hc)
          have HB := Lib.hid hb
          clear hr hc hb hxd2
          go_wp2
          go_roundw
          case rel => exact ⟨k + 1, by omega, by go_num, H1.out, H2.out, HB.out⟩
          case measure => simp [intOf]; omega
    · have hki : ¬ (k : Int) < (q : Int) := by omega
      have hkq : k = t.length := by rw [← HQ.out]; omega
      have H1 := Lib.hid (show InI wr w.heap.size wr.heap.size (.slice (some ⟨G1, 0, none⟩) q q) r by
        rw [hkq, HQ.out, rsTo_end] at hr
        rw [HE.out, HQ.out]; exact (hr.less hz1).inI)
      have H2 := Lib.hid (show InI wr w.heap.size wr.heap.size (.slice (some ⟨G2, 0, none⟩) d d) s by
        rw [hkq, HD.out, csTo_end] at hc
        rw [HE2.out, HD.out]; exact (hc.less (show w.heap.size ≤ G2 by omega)).inI)
      have HB := Lib.hid hb
      clear hr hc hb hkq
      go_wp2
      refine bodyPost_ret (results_tmp3 rfl _ _ _) rfl ?_
      exact ⟨_, _, rfl, H1.out, H2.out, fun j e e2 => by
        have h1 : some G1 = some j := e
        have h2 : some G2 = some j := e2
        rw [← h1] at h2; injection h2 with h2; omega, HB.out⟩
theorem sum_to_bd {x : List Int} (h : ∀ v ∈ x, 0 ≤ v ∧ v ≤ 1000) (k : Nat) (hl : x.length ≤ 1000) : 0 ≤ (x.take k).sum ∧ (x.take k).sum ≤ 1000000 := by
  have key : ∀ y : List Int, (∀ v ∈ y, 0 ≤ v ∧ v ≤ 1000) → 0 ≤ y.sum ∧ y.sum ≤ 1000 * y.length := fun y => by
    induction y with
    | nil => intro _; simp
    | cons v y ih =>
      intro h
      have h1 := ih fun u hu => h u (List.mem_cons_of_mem _ hu)
      have h2 := h v (by simp)
      rw [List.sum_cons, List.length_cons]; omega
  have h1 := key (x.take k) fun v hv => h v (List.mem_of_mem_take hv)
  have h2 : (x.take k).length ≤ x.length := by rw [List.length_take]; omega
  omega
theorem rsum_bd {t : Tb} (h : Tab t) : ∀ v ∈ rsum t, 0 ≤ v ∧ v ≤ 396 := fun v hv => by
  obtain ⟨r, hr, rfl⟩ := List.mem_map.1 hv
  have := sum_bd99 r (h.bd r hr)
  have := h.len r hr
  have := h.w4
  omega
end Go.Proofs.Ytdjjkfhdgnlkeaa
