/- Contracts of the program: tables subtracted. -/
import Derived.Test.YtjgohakiodcjmaaDF
import Derived.Test.YtjgohakiodcjmaaIMC
import Derived.Test.YtjgohakiodcjmaaIMD
namespace Go.Proofs.Ytjgohakiodcjmaa
open Go.RowKit Go.Shelf
attribute [local go_sem] Oper.semAt_some
def subBy (t u : Tb) {q d : Nat} (pre : List (Pc q d)) : Tb := mat q d fun a b => if gotB pre a b = true then cT t a b - cT u a b else 0
theorem subBy_nil (t u : Tb) {q d : Nat} : subBy t u ([] : List (Pc q d)) = List.replicate q (zerow d) := by
  have h := zeros_mat q d
  unfold zeros zrow at h
  unfold subBy zerow
  rw [h]
  exact mat_ext fun a b _ _ => by rw [gotB_nil]; rfl
theorem subBy_snoc (t u : Tb) {q d : Nat} (pre : List (Pc q d)) (x : Pc q d) :
    (subBy t u pre).set x.1.val (((subBy t u pre).getD x.1.val []).set x.2.val (cT t x.1.val x.2.val - cT u x.1.val x.2.val)) = subBy t u (pre ++ [x]) := by
  rw [subBy, mat_set _ _ _ x.1.isLt x.2.isLt, subBy]
  refine mat_ext fun a b _ _ => ?_
  rw [gotB_snoc]
  by_cases h : a = x.1.val ∧ b = x.2.val
  · rw [if_pos h, h.1, h.2]; simp
  · rw [if_neg h]
    have : decide (x.1.val = a ∧ x.2.val = b) = false := decide_eq_false fun e => h ⟨e.1.symm, e.2.symm⟩
    rw [this, Bool.or_false]
theorem subBy_all (t u : Tb) : subBy t u (plc t.length (wd t)) = diffT t u := by
  rw [diffT, subBy]
  exact mat_ext fun a b ha hb => by rw [if_pos (gotB_all ha hb)]
set_option maxRecDepth 100000 in
set_option maxHeartbeats 1000000 in
theorem iSub_is (W : World) (t : Tb) (v : Value) (hv : IsR W v t) (u : Tb) (v2 : Value) (hv2 : IsR W v2 u) (ht : Tab t) (hu : Tab u) (hl : u.length = t.length) (hwd : wd u = wd t) (w : World) (hb : Below W.heap.size W w) :
    Calls Try.prog 42 #[grV t.length (wd t) v, grV u.length (wd u) v2] w (OutR1 (diffT t u) w) := by
  have hv0 := hv.below hb
  have hu0 := hv2.below hb
  rw [hl, hwd]
  obtain ⟨q, hq⟩ : ∃ q, q = t.length := ⟨_, rfl⟩
  obtain ⟨d, hd⟩ : ∃ d, d = wd t := ⟨_, rfl⟩
  have HQ := Lib.hid hq
  have HD := Lib.hid hd
  obtain ⟨A, c, rfl, _, _, a3⟩ := hv0
  obtain ⟨A', c', rfl, _, _, e3⟩ := hu0
  rw [hl, ← hq, ← hd]
  have hp : (1 ≤ q ∧ q ≤ 4) ∧ 1 ≤ d ∧ d ≤ 4 := by rw [hq, hd]; exact ⟨⟨ht.h1, ht.h4⟩, ht.w1, ht.w4⟩
  obtain ⟨b, o, _, _, rfl, _, _, _, _, _⟩ := a3.at_ 0 (by rw [← hq]; omega)
  obtain ⟨b', o', _, _, rfl, _, _, _, _, _⟩ := e3.at_ 0 (by rw [hl, ← hq]; omega)
  have HR := Lib.hid a3
  have HS := Lib.hid e3
  have HT := Lib.hid ht
  have HU := Lib.hid hu
  have HL := Lib.hid hl
  have HW := Lib.hid hwd
  obtain ⟨wa, hwa, ba, hza, ka, kb⟩ := two_blk w #[.int .i64 q, .int .i64 d, .slice (some ⟨b, o, none⟩) q c] #[.int .i64 q, .int .i64 d, .slice (some ⟨b', o', none⟩) q c'] TGI TGI
  have HWa := Lib.hid hwa.symm
  have HBa := Lib.hid ba
  clear ht hu hl hwd hq hd hv hv2 hb a3 e3 hwa
  refine (callsIn_wide (n := 6)).1 ?_
  refine callsIn_of_wp_marks Try.func42 rfl trivial ?_ rfl
  simp only [Try.ntmps42, List.size_toArray, List.length_cons, List.length_nil, Nat.reduceAdd, Nat.reduceSub, Array.replicate_succ, Array.replicate_zero, List.push_toArray, List.append_toArray, List.nil_append, List.cons_append]
  gi_wp2_with fail
  rw [HWa.out]
  refine ⟨trivial, ?_⟩
  refine (callsIn_wide.2 (iNew_any q d (by omega) (by omega) wa)).mono ?_
  rintro e wc ⟨g2, c2, rfl, ho, bc⟩
  have hzc := bc.size
  obtain ⟨W5, hW5, b5, hz5, k6, k5⟩ := two_blk wc #[.int .i64 q, .int .i64 d, .slice (some ⟨g2, 0, none⟩) q c2] #[.int .i64 q, .int .i64 d] TGI TG
  have hx : Below wa.heap.size wa (wc.alloc (.cells #[.int .i64 q, .int .i64 d, .slice (some ⟨g2, 0, none⟩) q c2] TGI)) := bc.alloc hzc _
  obtain ⟨x0, x1, _, _, _, _⟩ := blkG3 ((hx.block w.heap.size (by omega)).trans ka)
  gi_wp2_with fail
  refine ⟨trivial, ?_⟩
  refine (callsIn_wide.2 (iPlaces_any q d _)).mono ?_
  rintro e w3 ⟨rfl, rfl⟩
  clear x0 x1 hx
  gi_wp2
  rw [← hW5]
  have hlt5 : wc.heap.size + 1 < W5.heap.size := by omega
  have hxx : Below wa.heap.size wa W5 := bc.trans (b5.mono hzc)
  have k4 : W5.heap[w.heap.size]? = some (.cells #[.int .i64 q, .int .i64 d, .slice (some ⟨b, o, none⟩) q c] TGI (0, 0)) := (hxx.block w.heap.size (by omega)).trans ka
  have k7 : W5.heap[w.heap.size + 1]? = some (.cells #[.int .i64 q, .int .i64 d, .slice (some ⟨b', o', none⟩) q c'] TGI (0, 0)) := (hxx.block (w.heap.size + 1) (by omega)).trans kb
  have HB5 := Lib.hid (show Below w.heap.size w W5 from ba.trans (hxx.mono ba.size))
  have hTc : wc.heap.size ≤ W5.heap.size := b5.size
  have hw1b : w.heap.size + 1 < wa.heap.size := by omega
  have HO := Lib.hid (show Mine W5 wa.heap.size wc.heap.size (.slice (some ⟨g2, 0, none⟩) q c2) (subBy t u ([] : List (Pc q d))) by rw [subBy_nil]; exact ho.below b5)
  clear hxx ka kb hW5 hz5 b5 hza ho
  refine' wpIn_rangeFunc_ownG (α := Pc q d) rfl (by omega) (gf := 59) (lb := #[.pointer (some ⟨wc.heap.size + 1, 0, none⟩)]) rfl trivial (enters_of Try.func59 (by kernel_rfl) rfl)
    (places_stops 5 (by omega) (wc.heap.size + 1) q d (by omega) (by omega) W5 (by omega) k5) kB_t (kB_b hlt5) (Below.refl _ _) (fun _ => rfl)
    (fun pre X => (((Mine X wa.heap.size wc.heap.size (.slice (some ⟨g2, 0, none⟩) q c2) (subBy t u pre) ∧ X.heap[w.heap.size]? = some (.cells #[.int .i64 q, .int .i64 d, .slice (some ⟨b, o, none⟩) q c] TGI (0, 0))) ∧ X.heap[w.heap.size + 1]? = some (.cells #[.int .i64 q, .int .i64 d, .slice (some ⟨b', o', none⟩) q c'] TGI (0, 0))) ∧ X.heap[wc.heap.size]? = some (.cells #[.int .i64 q, .int .i64 d, .slice (some ⟨g2, 0, none⟩) q c2] TGI (0, 0))) ∧ Below w.heap.size w X)
    (fun _ _ _ => False)
    (OwnFrom.and (OwnFrom.and (OwnFrom.and (OwnFrom.and (Mine.from_ _ _ hTc) cells_from) cells_from) cells_from) (ownFrom_below (Nat.le_refl _) (by omega)))
    (fun _ _ _ _ _ hs _ _ => hs)
    ⟨⟨⟨⟨HO.out, k4⟩, k7⟩, k6⟩, HB5.out⟩
    _ ?assign ?body ?done ?stop
  case assign =>
    intro l x X K hK
    gi_wp2
    exact hK
  case body =>
    rintro l pre ⟨⟨i, hi⟩, ⟨j, hj⟩⟩ X ⟨⟨⟨⟨hmi, hgr⟩, hgs⟩, htr⟩, hbX⟩ hlen
    have hit : i < t.length := by rw [← HQ.out]; exact hi
    have hiu : i < u.length := by rw [HL.out]; exact hit
    have hjt : j < wd t := by rw [← HD.out]; exact hj
    have hln : (t.getD i []).length = d := by rw [tab_len HT.out hit, HD.out]
    have hlu : (u.getD i []).length = d := by rw [tab_len HU.out hiu, HW.out, HD.out]
    obtain ⟨b9, o9, b2, o2, c3, hA, hb1, hc1, _, hb3, hc2⟩ := HR.out.cell2 (i := i) (j := j) hit (by rw [hln]; exact hj)
    injection hA with hA
    injection hA with g1 g3 _
    subst g1 g3
    have e1 := (hbX.cell (p := ⟨b, o + i, none⟩) hb1).trans hc1
    have e2 : X.cell? ⟨b2, o2 + j, none⟩ = some (.int .i64 (cT t i j)) := (hbX.cell (p := ⟨b2, o2 + j, none⟩) hb3).trans hc2
    rw [hln] at e1
    obtain ⟨b8, o8, b3, o3, c4, hA, hb4, hc4, _, hb5, hc5⟩ := HS.out.cell2 (i := i) (j := j) hiu (by rw [hlu]; exact hj)
    injection hA with hA
    injection hA with g1 g3 _
    subst g1 g3
    have e3 := (hbX.cell (p := ⟨b', o' + i, none⟩) hb4).trans hc4
    have e4 : X.cell? ⟨b3, o3 + j, none⟩ = some (.int .i64 (cT u i j)) := (hbX.cell (p := ⟨b3, o3 + j, none⟩) hb5).trans hc5
    rw [hlu] at e3
    have hst := subBy_snoc t u pre ((⟨i, hi⟩, ⟨j, hj⟩) : Pc q d)
    obtain ⟨g', c8, gi, ci, hv', m0, _, hgi, hne, m1, mf, hset⟩ := hmi.cell (i := i) (j := j) (by rw [subBy, mat_len]; exact hi) (by rw [subBy, mat_rlen _ _ _ hi]; exact hj)
    injection hv' with hv1 hv2 hv3
    injection hv1 with hv1
    injection hv1 with hv1 _ _
    subst hv1
    rw [show ((subBy t u pre).getD i []).length = d by rw [subBy, mat_rlen _ _ _ hi]] at m0
    have hcx := cT_bd HT.out hit hjt
    have hcy := cT_bd HU.out hiu (by rw [HW.out]; exact hjt)
    dsimp only at hst
    obtain ⟨x, hx⟩ : ∃ x, cT t i j = x := ⟨_, rfl⟩
    obtain ⟨y, hy⟩ : ∃ y, cT u i j = y := ⟨_, rfl⟩
    obtain ⟨z, hz⟩ : ∃ z, ((subBy t u pre).getD i []).getD j 0 = z := ⟨_, rfl⟩
    rw [hx] at e2 hcx hst
    rw [hy] at e4 hcy hst
    rw [hz] at m1
    have hwr : IntKind.i64.wrap (x - y) = x - y := by rw [IntKind.wrap_i64]; omega
    have HSET := Lib.hid (show Mine (X.setCell ⟨gi, j, none⟩ (.int .i64 (x - y))) wa.heap.size wc.heap.size (.slice (some ⟨g2, 0, none⟩) q c2) (subBy t u (pre ++ [((⟨i, hi⟩, ⟨j, hj⟩) : Pc q d)])) by
      have := hset (x - y); rw [← hst]; exact this)
    obtain ⟨_, _, e0, _, _, _⟩ := blkG3 hgr
    obtain ⟨_, _, s0, _, _, _⟩ := blkG3 hgs
    obtain ⟨_, _, t0, _, _, _⟩ := blkG3 htr
    have HBX := Lib.hid hbX
    have HGR := Lib.hid hgr
    have HGS := Lib.hid hgs
    have HTR := Lib.hid htr
    have hii : (i : Int) < (q : Int) := by omega
    have hji : (j : Int) < (d : Int) := by omega
    clear hc1 hc2 hc4 hc5 hb4 hb5 hln hlu hlen hbX hgr hgs hb1 hb3 hst hset hv2 hv3 htr hy hz hx hmi hcx hcy hit hiu hjt
    gi_wp2
    refine region_still_round 24 (by kernel_rfl) (by kernel_rfl) (by kernel_rfl) ?_
    simp only [List.take_succ_cons, List.take_zero, List.drop_succ_cons, List.drop_zero]
    iterate 24 still_step
    try refine wpStill_nil ?_
    change wpList _ _ _ _ _ X.drew
    obtain ⟨Z, hZ⟩ : ∃ Z, Z = X.drew := ⟨_, rfl⟩
    have zt : Z.cell? ⟨gi, j, none⟩ = some (.int .i64 z) := by rw [hZ]; exact m1
    have zf : Z.frozen? ⟨gi, j, none⟩ = false := by rw [hZ]; exact mf
    have HZB := Lib.hid (show Below w.heap.size w Z by rw [hZ]; exact HBX.out.drew)
    have HZG := Lib.hid (show Z.heap[w.heap.size]? = some (.cells #[.int .i64 q, .int .i64 d, .slice (some ⟨b, o, none⟩) q c] TGI (0, 0)) by rw [hZ]; exact HGR.out)
    have HZS := Lib.hid (show Z.heap[w.heap.size + 1]? = some (.cells #[.int .i64 q, .int .i64 d, .slice (some ⟨b', o', none⟩) q c'] TGI (0, 0)) by rw [hZ]; exact HGS.out)
    have HZT := Lib.hid (show Z.heap[wc.heap.size]? = some (.cells #[.int .i64 q, .int .i64 d, .slice (some ⟨g2, 0, none⟩) q c2] TGI (0, 0)) by rw [hZ]; exact HTR.out)
    have HZ2 := Lib.hid (show KB (wc.heap.size + 1) X Z ∧ KeepsOthers X Z from by rw [hZ]; exact ⟨rfl, KeepsOthers.drew X⟩)
    have HS2 := Lib.hid (show Mine (Z.setCell ⟨gi, j, none⟩ (.int .i64 (x - y))) wa.heap.size wc.heap.size (.slice (some ⟨g2, 0, none⟩) q c2) (subBy t u (pre ++ [((⟨i, hi⟩, ⟨j, hj⟩) : Pc q d)])) by rw [hZ]; exact HSET.out)
    rw [← hZ]
    clear hZ e0 s0 t0 m0 m1 mf e1 e2 e3 e4
    have HGI := Lib.hid hgi
    clear hgi
    go_wp2
    refine ⟨(HZ2.out.2.trans (KeepsOthers.setCell Z _ _)).from _, kB_t HZ2.out.1 (Below.heap_setCell Z ⟨gi, j, none⟩ _ _ (by have := HGI.out.2; show wc.heap.size + 1 ≠ gi; omega)), ⟨⟨⟨HS2.out, ?_⟩, ?_⟩, ?_⟩, HZB.out.setCell (p := ⟨gi, j, none⟩) (by have := HGI.out.1; show w.heap.size ≤ gi; omega) _⟩
    · exact (Below.heap_setCell Z ⟨gi, j, none⟩ _ _ (by have := HGI.out.1; show w.heap.size ≠ gi; omega)).trans HZG.out
    · exact (Below.heap_setCell Z ⟨gi, j, none⟩ _ _ (by have := HGI.out.1; show w.heap.size + 1 ≠ gi; omega)).trans HZS.out
    · exact (Below.heap_setCell Z ⟨gi, j, none⟩ _ _ (by have := HGI.out.2; show wc.heap.size ≠ gi; omega)).trans HZT.out
  case done =>
    rintro D ys X hD rfl ⟨⟨⟨⟨hmi, _⟩, _⟩, htr⟩, hbX⟩ hK
    have hall : subBy t u (plc q d) = diffT t u := by
      have := HQ.out; have := HD.out; subst q d; exact subBy_all t u
    rw [hall] at hmi
    obtain ⟨_, _, t0, _, _, _⟩ := blkG3 htr
    have HK := Lib.hid hK
    have HBX := Lib.hid hbX
    have HMI := Lib.hid hmi
    clear hK hbX hall hmi htr
    gi_wp2
    refine ⟨by simp, .inl ⟨_, _, rfl, run_takeDeferred HK.out, ?_⟩⟩
    refine ⟨.slice (some ⟨g2, 0, none⟩) q c2, by simp [results, Try.results42, go_sem], _, rfl, ?_, HBX.out.trans (belowK_b (w := w) (Nat.le_refl _) _ D _ _ (by omega) HK.out rfl rfl)⟩
    refine ((HMI.out.same (Nat.le_of_eq (by simp)) fun k _ hT => ?_).lower (by omega)).up
    exact World.putObj_heap_other (by omega)
  case stop =>
    rintro D c pre X hD _ h _
    exact h.elim
end Go.Proofs.Ytjgohakiodcjmaa
