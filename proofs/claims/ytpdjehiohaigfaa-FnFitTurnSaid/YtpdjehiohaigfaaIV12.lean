/- Contracts of the program: told cells. -/
import Derived.Test.YtpdjehiohaigfaaIVB
import Derived.Test.YtpdjehiohaigfaaSB5
namespace Go.Proofs.Ytpdjehiohaigfaa
open Go.RowKit Go.Shelf
attribute [local go_sem] Oper.semAt_some
set_option maxRecDepth 100000 in
set_option maxHeartbeats 2000000 in
theorem iTold_is (W : World) (t : Tb) (v : Value) (hv : IsR W v t) (m : Mk) (u : Value) (hu : IsM W u m) (i j : Int) (g : Bool) (hg : toldB t m i j = g) (w : World) (hb : Below W.heap.size W w) :
    Calls Try.prog 23 #[v, u, .int .i64 i, .int .i64 j] w (Back (.bool g) W) := by
  have HV := Lib.hid hv
  have HU := Lib.hid hu
  have HB := Lib.hid hb
  obtain ⟨h, hh⟩ : ∃ h, hiI t m i j = h := ⟨_, rfl⟩
  obtain ⟨lo, hlo⟩ : ∃ lo, loI t m i j = lo := ⟨_, rfl⟩
  obtain ⟨ok, hok⟩ : ∃ ok, bOk t m i j = ok := ⟨_, rfl⟩
  have HH := Lib.hid hh
  have HLO := Lib.hid hlo
  rw [toldB, hok, hh, hlo] at hg
  have HG := Lib.hid hg
  cases ok
  · have h1 : h = -1 := by rw [← hh]; exact hiI_no hok
    subst h1
    clear hv hu hb hok hg hh hlo
    go_enter Try.func23, Try.ntmps23
    go_wp2_with fail
    refine (iHigh_is W t _ HV.out m _ HU.out i j (-1) HH.out _ HB.out).mono ?_
    rintro e w1 ⟨rfl, b1⟩
    go_wp2
    go_ret
    exact ⟨by rw [← HG.out]; rfl, b1⟩
  obtain ⟨hmk, hi0, hiq, hj0, hjd⟩ := bOk_iff.1 hok
  obtain ⟨a, rfl⟩ := Int.eq_ofNat_of_zero_le hi0
  obtain ⟨b, rfl⟩ := Int.eq_ofNat_of_zero_le hj0
  have ht := mk_tab hmk
  have hS := shp_of hmk
  have haq : a < t.length := by omega
  have hbd : b < wd t := by omega
  have hbd2 := hiI_bd hmk haq hbd
  have hbd3 := loI_bd hmk haq hbd
  rw [hh] at hbd2
  rw [hlo] at hbd3
  have h14 := ht.h4
  obtain ⟨Am, cm, hum, b1, b2, b3⟩ := hu
  have hml := (mk_parts.1 hmk).2.1
  obtain ⟨bm, om, M0, d0, hM, hbm, f0, y1, y2, y3⟩ := b3.at_ a (by omega)
  obtain ⟨bm2, om2, hM2, hbm2, f2⟩ := flag_at y3 b (by rw [hS.mr a haq]; exact hbd)
  subst hM hM2
  rw [hS.mr a haq] at f0 y1
  rw [hml] at hum
  subst hum
  obtain ⟨q, hq⟩ : ∃ q, t.length = q := ⟨_, rfl⟩
  obtain ⟨d, hd⟩ : ∃ d, wd t = d := ⟨_, rfl⟩
  rw [hq] at HU haq hiq ⊢
  rw [hd] at f0 hbd hjd
  obtain ⟨fl, hfl⟩ : ∃ fl, hF m a b = fl := ⟨_, rfl⟩
  have f3 : W.cell? ⟨bm2, om2 + b, none⟩ = some (.bool fl) := by rw [← hfl]; exact f2
  have HGG := Lib.hid (show (fl && decide (lo = h)) = g by rw [← hg, ← hfl]; rfl)
  have haqn : (a : Int) < (q : Int) := by omega
  have hbdn : (b : Int) < (d : Int) := by omega
  have hh0 : 0 ≤ h := hbd2.1
  have F0 := Lib.hid f0
  have F3 := Lib.hid f3
  clear hv hb hok hg ht hmk h14 b1 b2 b3 y1 y2 y3 f2 hml hfl hi0 hj0 hiq hjd hq hd hh hlo f0 f3 hS
  go_enter Try.func23, Try.ntmps23
  go_wp2_with fail
  refine (iHigh_is W t _ HV.out m _ HU.out a b h HH.out _ HB.out).mono ?_
  rintro e w1 ⟨rfl, b1⟩
  have f0 : w1.cell? ⟨bm, om + a, none⟩ = some (.slice (some ⟨bm2, om2, none⟩) d d0) := (b1.cell (p := ⟨bm, om + a, none⟩) hbm).trans F0.out
  have f3 : w1.cell? ⟨bm2, om2 + b, none⟩ = some (.bool fl) := (b1.cell (p := ⟨bm2, om2 + b, none⟩) hbm2).trans F3.out
  cases fl
  · go_wp2
    go_ret
    exact ⟨by rw [← HGG.out]; rfl, b1⟩
  · go_wp2_with fail
    refine (iLow_is W t _ HV.out m _ HU.out a b lo HLO.out _ b1).mono ?_
    rintro e w2 ⟨rfl, b2⟩
    clear f0 f3
    go_wp2
    go_ret
    by_cases e9 : lo = h
    · exact ⟨retb (by rw [← HGG.out, Bool.true_and]; simp [e9]), b2⟩
    · have e8 : ¬ h = lo := fun e7 => e9 e7.symm
      exact ⟨retb (by rw [← HGG.out, Bool.true_and]; simp [e9, e8]), b2⟩
/-- The told cells among those that have come. -/
noncomputable def tP (t : Tb) (m : Mk) {q d : Nat} (pre : List (Pc q d)) : Int := (pre.map fun x => tC t m x.1.val x.2.val).sum
theorem sm_fin {n : Nat} (f : Nat → Int) : ((List.finRange n).map fun i => f i.val).sum = sm n f := by
  rw [← sm_list, List.length_map, List.length_finRange]
  refine sm_congr fun i hi => ?_
  rw [getD_of _ _ (by simpa using hi)]; simp
theorem tP_all (t : Tb) (m : Mk) (q d : Nat) : tP t m (plc q d) = sm q (fun a => sm d (tC t m a)) := by
  unfold tP
  rw [plc_sum, ← sm_fin]
  congr 1
  refine List.map_congr_left fun a _ => ?_
  exact sm_fin (tC t m a.val)
theorem tP_bd (t : Tb) (m : Mk) {q d : Nat} : ∀ pre : List (Pc q d), 0 ≤ tP t m pre ∧ tP t m pre ≤ pre.length
  | [] => by simp [tP]
  | x :: pre => by
    have h1 := tP_bd t m pre
    have h2 := tC_bd t m x.1.val x.2.val
    unfold tP at h1 ⊢
    simp only [List.map_cons, List.sum_cons, List.length_cons]
    omega
set_option maxRecDepth 100000 in
set_option maxHeartbeats 4000000 in
theorem iMany_is (W : World) (t : Tb) (v : Value) (hv : IsR W v t) (m : Mk) (u : Value) (hu : IsM W u m) (g : Int) (hg : toldN t m = g) (w : World) (hb : Below W.heap.size W w) :
    Calls Try.prog 21 #[v, u] w (Back (.int .i64 g) W) := by
  have HV := Lib.hid hv
  have HU := Lib.hid hu
  have HB := Lib.hid hb
  have HG := Lib.hid hg
  have hWw := hb.size
  obtain ⟨mk, hmk⟩ : ∃ mk, mkOk t m = mk := ⟨_, rfl⟩
  have HMK := Lib.hid hmk
  obtain ⟨A, c, rfl, _, _, _⟩ := id hv
  obtain ⟨Au, cu, rfl, _, _, _⟩ := id hu
  obtain ⟨q, hq⟩ : ∃ q, t.length = q := ⟨_, rfl⟩
  obtain ⟨d, hd⟩ : ∃ d, wd t = d := ⟨_, rfl⟩
  obtain ⟨mq, hmq⟩ : ∃ mq, m.length = mq := ⟨_, rfl⟩
  have HQ := Lib.hid hq
  have HD := Lib.hid hd
  rw [hq] at HV ⊢
  rw [hmq] at HU ⊢
  obtain ⟨W1, hW1, b1, hz1, hf1⟩ := two_fit w #[.slice A q c] #[.slice Au mq cu] 23 24
  have HW1 := Lib.hid hW1.symm
  have HB1 := Lib.hid (hb.trans (b1.mono hWw))
  have HF1 := Lib.hid hf1
  have HZ1 := Lib.hid hz1
  obtain ⟨k0, k1, _⟩ := hf1 W1 (Below.refl _ _)
  have p0 : W1.cell? ⟨w.heap.size, 0, none⟩ = some (.slice A q c) := cell_of_row _ _ 0 _ _ _ k0
  have p1 : W1.cell? ⟨w.heap.size + 1, 0, none⟩ = some (.slice Au mq cu) := cell_of_row _ _ 0 _ _ _ k1
  rw [← HW1.out] at p0 p1
  clear hv hu hb hg hmk hq hd hmq hW1 b1 hz1 hf1 k0 k1
  refine (callsIn_wide (n := 6)).1 ?_
  refine callsIn_of_wp_marks Try.func21 rfl trivial ?_ rfl
  simp only [Try.ntmps21, List.size_toArray, List.length_cons, List.length_nil, Nat.reduceAdd, Nat.reduceSub, Array.replicate_succ, Array.replicate_zero, List.push_toArray, List.append_toArray, List.nil_append, List.cons_append]
  gi_wp2_with fail
  rw [HW1.out]
  refine ⟨trivial, ?_⟩
  refine (callsIn_wide.2 (iFitOf_is W1 t _ (HV.out.below HB1.out) m _ (HU.out.below HB1.out) mk HMK.out W1 (Below.refl _ _))).mono ?_
  rintro e w2 ⟨h2, hres⟩
  have hz2 := h2.size
  clear p0 p1
  cases mk
  · rcases hres with ⟨_, rfl⟩ | ⟨hh, _⟩
    · have HE := Lib.hid (show g = -1 by rw [← HG.out]; exact toldN_no HMK.out)
      have HB2 := Lib.hid (HB1.out.trans (h2.mono HB1.out.size))
      clear h2
      gi_wp2
      exact ⟨_, results_tmp rfl _ _ _, by rw [HE.out]; rfl, HB2.out.alloc HB2.out.size _⟩
    · cases hh
  rcases hres with ⟨hh, _⟩ | ⟨_, v', rfl, hm⟩
  · cases hh
  have ht := mk_tab HMK.out
  have hp : (1 ≤ q ∧ q ≤ 4) ∧ 1 ≤ d ∧ d ≤ 4 := by
    have := ht.h1; have := ht.h4; have := ht.w1; have := ht.w4; have := HQ.out; have := HD.out; omega
  obtain ⟨gv, cv, _, _, hvv, _⟩ := Mine.cell hm (i := 0) (j := 0) ht.h1 (by rw [ht.rlen ht.h1]; exact ht.w1)
  rw [HQ.out] at hvv
  subst hvv
  rw [HQ.out, HD.out]
  have HE := Lib.hid (show g = sm q (fun a => sm d (tC t m a)) by rw [← HG.out, toldN_yes HMK.out, HQ.out, HD.out])
  obtain ⟨W5, hW5, b5, hz5, k4, kt, k5⟩ := three_blk w2 #[.int .i64 q, .int .i64 d, .slice (some ⟨gv, 0, none⟩) q cv, .slice Au mq cu] #[.int .i64 0] #[.int .i64 q, .int .i64 d] TF TN TG
  have HW5 := Lib.hid hW5.symm
  have hlt5 : w2.heap.size + 1 + 1 < W5.heap.size := by omega
  have HB2 := Lib.hid h2
  have HB5 := Lib.hid b5
  have HFX := Lib.hid (show ∀ X, Below w2.heap.size w2 X → X.cell? ⟨w.heap.size, 0, none⟩ = some (.slice A q c) ∧ X.cell? ⟨w.heap.size + 1, 0, none⟩ = some (.slice Au mq cu) ∧ Below W.heap.size W X from fun X h => by
    have h9 := HB2.out.trans (h.mono hz2)
    obtain ⟨a0, a1, _⟩ := HF1.out X h9
    exact ⟨cell_of_row _ _ 0 _ _ _ a0, cell_of_row _ _ 0 _ _ _ a1, HB1.out.trans (h9.mono HB1.out.size)⟩)
  clear ht hW5 hz5 b5 h2 hm
  gi_wp2_with fail
  refine ⟨trivial, ?_⟩
  refine (callsIn_wide.2 (iPlaces_any q d _)).mono ?_
  rintro e w3 ⟨rfl, rfl⟩
  gi_wp2
  rw [HW5.out]
  have hN : (plc q d).length ≤ 16 := by rw [plc_len]; exact Nat.mul_le_mul hp.1.2 hp.2.2
  refine' wpIn_rangeFunc_ownG (α := Pc q d) rfl (by omega) (gf := 62) (lb := #[.pointer (some ⟨w2.heap.size + 1 + 1, 0, none⟩)]) rfl trivial (enters_of Try.func62 (by kernel_rfl) rfl)
    (places_stops 5 (by omega) (w2.heap.size + 1 + 1) q d (by omega) (by omega) W5 (by omega) k5) kB_t (kB_b hlt5) (Below.refl _ _) (fun _ => rfl)
    (fun pre X => (Boxed X (w2.heap.size + 1) TN (.int .i64 (tP t m pre)) ∧ W5.heap.size ≤ X.heap.size) ∧ Below w2.heap.size w2 X)
    (fun _ _ _ => False)
    (OwnFrom.and (fun s X Y row hs hg hr => ⟨boxed_own _ TN (fun (_ : Unit) => Value.int .i64 (tP t m s)) () X Y row hs.1 hg (fun r e => (hr r e).2), Nat.le_trans hs.2 hg.size⟩) (ownFrom_below (Nat.le_refl _) (by omega)))
    (fun _ _ _ _ _ hs _ _ => hs)
    ⟨⟨kt, Nat.le_refl _⟩, HB5.out⟩
    _ ?assign ?body ?done ?stop
  case assign =>
    intro l x X K hK
    gi_wp2
    exact hK
  case body =>
    rintro l pre ⟨⟨i, hi⟩, ⟨j, hj⟩⟩ X ⟨⟨hbx, hsX⟩, hbX⟩ hlen
    obtain ⟨e0, e1, hWX⟩ := HFX.out X hbX
    obtain ⟨gt, hgt⟩ : ∃ gt, toldB t m i j = gt := ⟨_, rfl⟩
    have HGT := Lib.hid hgt
    have HBX := Lib.hid hbX
    have HBOX := Lib.hid hbx
    have HWX := Lib.hid hWX
    have HLEN := Lib.hid (show pre.length < 16 by omega)
    have HSN := Lib.hid (show tP t m (pre ++ [((⟨i, hi⟩, ⟨j, hj⟩) : Pc q d)]) = tP t m pre + if gt = true then 1 else 0 by
      unfold tP; rw [List.map_append, List.sum_append, ← hgt]; simp [tC])
    clear hbx hbX hWX hlen hgt
    gi_wp2_with fail
    refine ⟨trivial, ?_⟩
    refine (callsIn_wide.2 (iTold_is X t _ (HV.out.below HWX.out) m _ (HU.out.below HWX.out) i j gt HGT.out X (Below.refl _ _))).mono ?_
    rintro e X2 ⟨rfl, h2⟩
    have hzX := HBX.out.size
    have HB2X := Lib.hid (HBX.out.trans (h2.mono hzX))
    have hbx2 : Boxed X2 (w2.heap.size + 1) TN (.int .i64 (tP t m pre)) := (h2.block _ HBOX.out.lt).trans HBOX.out
    have HKX := Lib.hid (keepsF h2 W5.heap.size)
    have HKB := Lib.hid (show KB (w2.heap.size + 1 + 1) X X2 from h2.block _ (by omega))
    have hs2 : W5.heap.size ≤ X2.heap.size := Nat.le_trans hsX h2.size
    cases gt
    · have HBX2 := Lib.hid hbx2
      clear hbx2 h2
      gi_wp2
      exact ⟨HKX.out, HKB.out, ⟨by rw [HSN.out]; simpa using HBX2.out, hs2⟩, HB2X.out⟩
    · have et := hbx2.cell
      have ef := hbx2.frozen
      obtain ⟨s, hs⟩ : ∃ s, tP t m pre = s := ⟨_, rfl⟩
      have hbd := tP_bd t m pre
      have hl16 := HLEN.out
      rw [hs] at et hbd hbx2
      have hwr : IntKind.i64.wrap (s + 1) = s + 1 := by rw [IntKind.wrap_i64]; omega
      have HS := Lib.hid hs
      have HBX2 := Lib.hid hbx2
      clear hbx2 h2 hs hbd hl16
      gi_wp2
      refine ⟨HKX.out.trans ((KeepsOthers.setCell X2 ⟨w2.heap.size + 1, 0, none⟩ (.int .i64 (s + 1))).from _), kB_t HKB.out (Below.heap_setCell X2 ⟨w2.heap.size + 1, 0, none⟩ _ _ (by show w2.heap.size + 1 + 1 ≠ w2.heap.size + 1; omega)), ⟨?_, by simpa [World.setCell] using hs2⟩, HB2X.out.setCell (p := ⟨w2.heap.size + 1, 0, none⟩) (by show w2.heap.size ≤ w2.heap.size + 1; omega) _⟩
      rw [HSN.out, HS.out, if_pos trivial]; exact HBX2.out.set _
  case done =>
    rintro D ys X hD rfl ⟨⟨hbx, _⟩, hbX⟩ hK
    have hwX : Below w.heap.size w X := (HF1.out X (HB2.out.trans (hbX.mono hz2))).2.2
    have hwD : w.heap.size ≤ D := by have := HZ1.out; have := HB2.out.size; omega
    have hsum : tP t m (plc q d) = g := by rw [HE.out]; exact tP_all t m q d
    rw [hsum] at hbx
    have et := hbx.cell
    have HK := Lib.hid hK
    have HBX := Lib.hid hbX
    clear hK hbX hsum hbx
    gi_wp2
    refine ⟨by simp, .inl ⟨_, _, rfl, run_takeDeferred HK.out, ?_⟩⟩
    exact ⟨_, results_tmp rfl _ _ _, rfl, HB.out.trans (Below.mono (hwX.trans (belowK_b (w := w) (Nat.le_refl _) _ D _ _ hwD HK.out rfl rfl)) hWw)⟩
  case stop =>
    rintro D c pre X hD _ h _
    exact h.elim
end Go.Proofs.Ytpdjehiohaigfaa
