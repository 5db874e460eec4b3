/- Contracts of the model: TableFold. -/
import Derived.Test.YtmmabdioncgkoaaTS8
namespace Go.Proofs.Ytmmabdioncgkoaa
open Go.RowKit
theorem fold_no1 {t : Tb} {a b : Int} (h : tabOk t = false) : foldOk t a b = false := by simp [foldOk, h]
theorem fold_no2 {t : Tb} {a b : Int} (h : in3 b 0 (t.length - 1) = false) : foldOk t a b = false := by simp [foldOk, h]
theorem fold_no3 {t : Tb} {a b : Int} (h : in3 a 0 (b - 1) = false) : foldOk t a b = false := by simp [foldOk, h]
theorem foldI_no {t : Tb} {a b : Int} (h : foldOk t a b = false) : foldI t a b = [] := by rw [foldI, h]; rfl
theorem erase_two {α : Type} (l : List α) (b : Nat) : l.eraseIdx b = l.take b ++ l.drop (b + 1) := List.eraseIdx_eq_take_drop_succ l b
theorem Rws.wide {w : World} {B B' T T' : Nat} {no : Option Nat} {hs : List Value} {ll : List (List Int)} (h : Rws w B T no hs ll) (hB : B' ≤ B) (hT : T ≤ T') : Rws w B' T' no hs ll :=
  ⟨h.1, fun i hi => ⟨(h.2.1 i hi).1.less hB, fun k e => ⟨by have := ((h.2.1 i hi).2 k e).1; omega, ((h.2.1 i hi).2 k e).2⟩⟩, h.2.2⟩
set_option maxHeartbeats 8000000 in
theorem sFold_is (W : World) (t : Tb) (v : Value) (hv : IsR W v t) (a b : Int) (m : Tb) (g : Bool) (hm : foldI t a b = m) (hg : foldOk t a b = g) (w : World) (hb : Below W.heap.size W w) :
    Calls Try.prog 34 #[v, .int .i64 a, .int .i64 b] w (OutRT m g w) := by
  have HG := Lib.hid hg
  have HM := Lib.hid hm
  have hv0 := hv.below hb
  clear hv hb
  obtain ⟨A, c, rfl, a1, a2, a3⟩ := hv0
  obtain ⟨q, hq⟩ : ∃ q, q = t.length := ⟨_, rfl⟩
  have HV := Lib.hid (show IsR w (.slice A q c) t by rw [hq]; exact ⟨A, c, rfl, a1, a2, a3⟩)
  have HQ := Lib.hid hq
  have HR := Lib.hid a3
  rw [← hq]
  obtain ⟨tt, htt⟩ : ∃ tt, tabOk t = tt := ⟨_, rfl⟩
  have HT := Lib.hid htt
  clear a1 a2 a3 hg hm hq htt
  go_enter Try.func34, Try.ntmps34
  go_wp2_with fail
  refine (sTab_is w t _ HV.out tt HT.out _ (Below.refl _ _)).mono ?_
  rintro e w1 ⟨rfl, b1⟩
  have HB1 := Lib.hid b1
  have hz1 := b1.size
  have HO0 := Lib.hid (show Mine (w1.alloc (.cells #[] TI)) w.heap.size (w1.alloc (.cells #[] TI)).heap.size (.slice (some ⟨w1.heap.size, 0, none⟩) 0 0) [] from (mine_new hz1).up)
  have HB0 := Lib.hid (b1.alloc hz1 (.cells #[] TI))
  clear b1
  cases tt
  · have hno := fold_no1 (a := a) (b := b) HT.out
    have HE := Lib.hid (show g = false by rw [← HG.out, hno])
    have HE2 := Lib.hid (show m = [] by rw [← HM.out, foldI_no hno])
    clear hno
    go_wp2
    go_ret2
    exact ⟨.slice (some ⟨w1.heap.size, 0, none⟩) 0 0, by rw [HE.out]; rfl, by rw [HE2.out]; exact HO0.out, HB0.out⟩
  have ht := tab_iff.1 HT.out
  have hq4 : 1 ≤ q ∧ q ≤ 4 := by rw [HQ.out]; exact ⟨ht.h1, ht.h4⟩
  obtain ⟨d, hd⟩ : ∃ d, d = wd t := ⟨_, rfl⟩
  have hd4 : 1 ≤ d ∧ d ≤ 4 := by rw [hd]; exact ⟨ht.w1, ht.w4⟩
  have HD := Lib.hid hd
  have HTT := Lib.hid ht
  clear ht hd
  go_wp2_with fail
  refine (l6In_any b 0 ((q : Int) - 1) _).mono ?_
  rintro e w' ⟨rfl, rfl⟩
  cases h2 : in3 b 0 ((q : Int) - 1)
  · have hno := fold_no2 (t := t) (a := a) (b := b) (by rw [← HQ.out]; exact h2)
    have HE := Lib.hid (show g = false by rw [← HG.out, hno])
    have HE2 := Lib.hid (show m = [] by rw [← HM.out, foldI_no hno])
    clear hno h2
    go_wp2
    go_ret2
    exact ⟨.slice (some ⟨w1.heap.size, 0, none⟩) 0 0, by rw [HE.out]; rfl, by rw [HE2.out]; exact HO0.out, HB0.out⟩
  have h2' := in3_parts.1 h2
  have H2 := Lib.hid h2
  clear h2
  go_wp2_with fail
  refine (l6In_any a 0 (b - 1) _).mono ?_
  rintro e w' ⟨rfl, rfl⟩
  cases h3 : in3 a 0 (b - 1)
  · have hno := fold_no3 (t := t) (a := a) (b := b) h3
    have HE := Lib.hid (show g = false by rw [← HG.out, hno])
    have HE2 := Lib.hid (show m = [] by rw [← HM.out, foldI_no hno])
    clear hno h3
    go_wp2
    go_ret2
    exact ⟨.slice (some ⟨w1.heap.size, 0, none⟩) 0 0, by rw [HE.out]; rfl, by rw [HE2.out]; exact HO0.out, HB0.out⟩
  have h3' := in3_parts.1 h3
  have H3 := Lib.hid h3
  clear h3 HO0 HB0
  obtain ⟨i, rfl⟩ : ∃ i : Nat, a = i := ⟨a.toNat, by omega⟩
  obtain ⟨j, rfl⟩ : ∃ j : Nat, b = j := ⟨b.toNat, by omega⟩
  have hij : i < j := by omega
  have hjq : j < q := by omega
  have HFO := Lib.hid (show tabOk (foldT t i j) = g by
    rw [← HG.out, foldOk, HT.out, ← HQ.out, H2.out, H3.out]; simp)
  have HFM := Lib.hid (show m = if g = true then foldT t i j else [] by
    rw [← HM.out, foldI, HG.out]; simp)
  clear h2' h3'
  go_wp2_with fail
  refine (sCopy_is w t _ HV.out (by rw [← HQ.out]; omega) (fun r hr => by rw [HTT.out.len r hr, ← HD.out]; omega) w1 HB1.out).mono ?_
  rintro e w2 ⟨v2, rfl, ho2, h2⟩
  have hit : i < t.length := by rw [← HQ.out]; omega
  have hjt : j < t.length := by rw [← HQ.out]; omega
  have HIT := Lib.hid hit; have HJT := Lib.hid hjt
  have HO := Lib.hid (show Mine w2 w1.heap.size w2.heap.size v2 (t.set i (rowTo t i j 0)) by rw [rowTo_zero HT.out hit, set_getD t hit]; exact ho2)
  have HB2 := Lib.hid (HB1.out.trans (h2.mono hz1))
  clear ho2 h2 hit hjt
  obtain ⟨T, hT⟩ : ∃ T, T = w2.heap.size := ⟨_, rfl⟩
  rw [← hT] at HO
  obtain ⟨g2, c2, hv2⟩ : ∃ g2 c2, v2 = .slice (some ⟨g2, 0, none⟩) q c2 := by
    obtain ⟨g2, c2, _, _, h, _⟩ := HO.out.cell (i := i) (j := 0) (by rw [List.length_set]; exact HIT.out) (by rw [getD_set_self _ HIT.out, rowTo_len, ← HD.out]; omega)
    exact ⟨g2, c2, by rw [h, List.length_set, ← HQ.out]⟩
  subst hv2
  obtain ⟨b0, o0, A0, c0, rfl, hbW, hc, _, _, _⟩ := HR.out.at_ 0 (by rw [← HQ.out]; omega)
  rw [← wd_zero, ← HD.out, Nat.add_zero] at hc
  have HC0 := Lib.hid hc
  have hT2 := HB2.out.size
  clear hc
  go_wp2
  go_loopw [9] (fun y wr => ∃ k : Nat, k ≤ d ∧ y = .int .i64 k ∧ Mine wr w1.heap.size T (.slice (some ⟨g2, 0, none⟩) q c2) (t.set i (rowTo t i j k)) ∧ Below w.heap.size w wr) (fun y _ => d - (intOf y).toNat)
  case atStart => exact ⟨0, Nat.zero_le _, rfl, HO.out, HB2.out⟩
  case round =>
    obtain ⟨k, hk, rfl, ho, hb⟩ := hrel
    clear HO HB2
    have e0 := (hb.cell (p := ⟨b0, o0, none⟩) hbW).trans HC0.out
    by_cases hlt : k < d
    · have hki : (k : Int) < (d : Int) := by omega
      have hkw : k < wd t := by rw [← HD.out]; exact hlt
      obtain ⟨g', c', gi, ci, hv', k0, _, ⟨hgi, hgT⟩, _, k1, kf, hset⟩ := ho.cell (i := i) (j := k) (by rw [List.length_set]; exact HIT.out) (by rw [getD_set_self _ HIT.out, rowTo_len]; exact hkw)
      injection hv' with hv1 hv2 hv3
      injection hv1 with hv1
      injection hv1 with hv1 _ _
      subst hv1
      have hji : i ≠ j := by omega
      have hrj : (t.set i (rowTo t i j k)).getD j [] = t.getD j [] := by rw [getD_set _ _ _ _ _ hji]
      obtain ⟨g'', c'', gj, cj, hw', j0, _, _, _, j1, _, _⟩ := ho.cell (i := j) (j := k) (by rw [List.length_set]; exact HJT.out) (by rw [hrj, tab_lens HT.out HJT.out]; exact hkw)
      injection hw' with hw1 hw2 hw3
      injection hw1 with hw1
      injection hw1 with hw1 _ _
      subst hw1
      rw [getD_set_self _ HIT.out, rowTo_len, ← HD.out] at k0
      rw [getD_set_self _ HIT.out, rowTo_get _ _ _ hkw] at k1
      rw [hrj, tab_lens HT.out HJT.out, ← HD.out] at j0
      rw [hrj] at j1
      have HSET := Lib.hid (show Mine (wr.setCell ⟨gi, k, none⟩ (.int .i64 ((t.getD i []).getD k 0 + (t.getD j []).getD k 0))) w1.heap.size T (.slice (some ⟨g2, 0, none⟩) q c2) (t.set i (rowTo t i j (k + 1))) by
        have h := hset ((t.getD i []).getD k 0 + (t.getD j []).getD k 0)
        rw [getD_set_self _ HIT.out, rowTo_step, List.set_set] at h
        exact h)
      have hx := cell_bd HTT.out HIT.out hkw
      have hy := cell_bd HTT.out HJT.out hkw
      obtain ⟨x, hxe⟩ : ∃ x, (t.getD i []).getD k 0 = x := ⟨_, rfl⟩
      obtain ⟨y, hye⟩ : ∃ y, (t.getD j []).getD k 0 = y := ⟨_, rfl⟩
      rw [hxe, hye] at HSET
      rw [hxe] at k1 hx
      rw [hye] at j1 hy
      have hwx : IntKind.i64.wrap (x + y) = x + y := by rw [IntKind.wrap_i64]; omega
      have HBS := Lib.hid (hb.setCell (p := ⟨gi, k, none⟩) (Nat.le_trans hz1 hgi) (.int .i64 (x + y)))
      have hii : (i : Int) < (q : Int) := by omega
      have hjj : (j : Int) < (q : Int) := by omega
      clear hset ho hb hv2 hv3 hw2 hw3 hrj hji hkw hxe hye hx hy
      go_wp2
      go_still_tail 21, (by kernel_rfl)
      change wpList _ _ _ _ _ wr.drew
      obtain ⟨X, hX⟩ : ∃ X, X = wr.drew := ⟨_, rfl⟩
      have kf' : X.frozen? ⟨gi, k, none⟩ = false := by rw [hX]; exact kf
      have k1' : X.cell? ⟨gi, k, none⟩ = some (.int .i64 x) := by rw [hX]; exact k1
      have HS2 := Lib.hid (show Mine (X.setCell ⟨gi, k, none⟩ (.int .i64 (x + y))) w1.heap.size T (.slice (some ⟨g2, 0, none⟩) q c2) (t.set i (rowTo t i j (k + 1))) by rw [hX]; exact HSET.out)
      have HB2 := Lib.hid (show Below w.heap.size w (X.setCell ⟨gi, k, none⟩ (.int .i64 (x + y))) by rw [hX]; exact ⟨HBS.out.os, HBS.out.tape, HBS.out.output, HBS.out.size, HBS.out.block⟩)
      rw [← hX]
      clear hX k0 k1 kf j0 j1 e0 HSET HBS
      go_wp2
      go_roundw
      case rel => exact ⟨k + 1, by omega, by go_num, HS2.out, HB2.out⟩
      case measure => simp [intOf]; omega
    · have hki : ¬ (k : Int) < (d : Int) := by omega
      have hkd : k = wd t := by rw [← HD.out]; omega
      rw [hkd, rowTo_all HT.out HIT.out HJT.out] at ho
      have HOX := Lib.hid ho
      have HBX := Lib.hid hb
      clear ho hb hkd
      go_wp2
      obtain ⟨hTw, _, hs, hown, hrws⟩ := HOX.out
      have HRWS := Lib.hid hrws
      have hsl : hs.length = q := by rw [hrws.1, List.length_set, HQ.out]
      have hone := hrws.heads.cell1
      obtain ⟨A2, c3, hv3, hcl, hcm, hrow, _⟩ := hown.form
      injection hv3 with hv4 hv6 hv5
      clear hv6
      subst hv4 hv5
      rw [hsl] at hcl
      have hj1 : j + 1 ≤ q := by omega
      obtain ⟨B2, hsl2, hB2⟩ := sliceTailR (some ⟨g2, 0, none⟩) q c2 (j + 1) hj1 hcl
      have r2 := hB2 wr _ hs hsl hrow
      have r1 := hrow.front1 j
      have hsl3 : ∀ w, (Instr.sliceAt TII (.slice (some ⟨g2, 0, none⟩) q c2) (some (.int .i64 ((j : Int) + 1))) none none).run Try.prog w = .ok (.slice B2 (q - (j + 1)) (c2 - (j + 1))) w := fun w => by
        have h := hsl2 w
        rw [show (((j + 1 : Nat)) : Int) = (j : Int) + 1 from rfl] at h
        exact h
      have N1 := Lib.hid (show j = (hs.take j).length by rw [List.length_take, hsl]; omega)
      have N2 := Lib.hid (show q - (j + 1) = (hs.drop (j + 1)).length by rw [List.length_drop, hsl])
      have hone1 := Lib.hid (show ∀ u ∈ hs.take j, u.oneCell' = true from fun u hu => hone u (List.mem_of_mem_take hu))
      have hone2 := Lib.hid (show ∀ u ∈ hs.drop (j + 1), u.oneCell' = true from fun u hu => hone u (List.mem_of_mem_drop hu))
      have HS2 := Lib.hid hsl
      have hjc : (j : Int) ≤ (c2 : Int) := by omega
      have hjq' : (j : Int) ≤ (q : Int) := by omega
      have hwj : IntKind.i64.wrap ((j : Int) + 1) = (j : Int) + 1 := by rw [IntKind.wrap_i64]; omega
      have o0 : Own1 TI ((wr.alloc (.cells #[] TI)).drew) wr.heap.size (.slice (some ⟨wr.heap.size, 0, none⟩) 0 0) [] := own1_new (Nat.le_refl _)
      have b0' : Below wr.heap.size wr ((wr.alloc (.cells #[] TI)).drew) := ((Below.refl _ _).alloc (Nat.le_refl _) _).drew
      clear hB2 hsl2 hrow hone hrws hown hsl hcm e0
      go_region_law (first
        | (refine step1 one_II rfl (.tmp 61) (.tmp 64) rfl wr.heap.size (.slice (some ⟨wr.heap.size, 0, none⟩) 0 0) [] rfl o0 wr.heap.size (some ⟨g2, 0, none⟩) j c2 (hs.take j) N1.out rfl (r1.below b0' (Nat.le_refl _)) hone1.out (by rw [← N1.out]; simp; omega) b0'.size ?_
           intro v3 w3 ho3 hg3 _
           have hb3 : Below wr.heap.size wr w3 := below_own1 b0' o0 hg3)
        | (refine step1 one_II rfl (.tmp 65) (.tmp 69) rfl wr.heap.size v3 ([] ++ hs.take j) (by simp [Act.eval]) ho3 wr.heap.size B2 (q - (j + 1)) (c2 - (j + 1)) (hs.drop (j + 1)) N2.out rfl (r2.below hb3 (Nat.le_refl _)) hone2.out (by rw [List.nil_append, ← N1.out, ← N2.out]; omega) hb3.size ?_
           intro v4 w4 ho4 hg4 _
           have hb4 : Below wr.heap.size wr w4 := below_own1 hb3 ho3 hg4
           clear ho3 hg3 hg4))
      rw [List.nil_append, ← erase_two] at ho4
      have hzw := hb4.size
      have HV4 := Lib.hid (show Mine w4 w.heap.size w4.heap.size v4 (foldT t i j) from
        ⟨Nat.le_refl _, fun k e => (ho4.ob k e).2, hs.eraseIdx j, ho4.less HBX.out.size,
          (((HRWS.out.same fun k _ hk _ => hb4.block k (Nat.lt_of_lt_of_le hk hTw)).erase (by rw [List.length_set]; exact HJT.out) fun k _ hk e => by
            have := (ho4.ob k e.symm).1; omega).wide hz1 (Nat.le_trans hTw hzw))⟩)
      have HB4 := Lib.hid (HBX.out.trans (hb4.mono HBX.out.size))
      clear ho4 hb4 hb3 r1 r2 o0 b0' hsl3
      go_wp2_with fail
      refine (sTab_is w4 (foldT t i j) v4 HV4.out.is g HFO.out _ (Below.refl _ _)).mono ?_
      rintro e w5 ⟨rfl, b5⟩
      have HB5 := Lib.hid (HB4.out.trans (b5.mono HB4.out.size))
      have hz5 := HB5.out.size
      cases g
      · have HE2 := Lib.hid (show m = [] by rw [HFM.out]; rfl)
        have HO5 := Lib.hid (show Mine (w5.alloc (.cells #[] TI)) w.heap.size (w5.alloc (.cells #[] TI)).heap.size (.slice (some ⟨w5.heap.size, 0, none⟩) 0 0) [] from (mine_new hz5).up)
        have HB6 := Lib.hid (HB5.out.alloc hz5 (.cells #[] TI))
        clear b5
        go_wp2
        go_ret2
        exact ⟨_, rfl, by rw [HE2.out]; exact HO5.out, HB6.out⟩
      · have HE2 := Lib.hid (show m = foldT t i j by rw [HFM.out]; rfl)
        have HO5 := Lib.hid (HV4.out.below b5).up
        clear b5
        go_wp2
        go_ret2
        exact ⟨_, rfl, by rw [HE2.out]; exact HO5.out, HB5.out⟩
end Go.Proofs.Ytmmabdioncgkoaa
