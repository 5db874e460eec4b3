/- The model's differences of tables. -/
import Derived.Test.YtkdffgcmnanniaaDF
import Derived.Test.YtkdffgcmnanniaaTS7
import Derived.Test.YtkdffgcmnanniaaRQ
namespace Go.Proofs.Ytkdffgcmnanniaa
open Go.RowKit
theorem Later.of {P : Program} {f : FuncId} {args : Array Value} {v : Value} {w X : World} (h : Calls P f args X (Back v w)) : Calls P f args X fun e w'' => e = .returned v ∧ ∃ M : Later w, w'' = M.y := Later.back h fun _ _ h => h
/-- The first rows and cells subtracted. -/
def parT (t u : Tb) (k j : Nat) : Tb := mat t.length (wd t) fun a b => if a < k ∨ (a = k ∧ b < j) then cT t a b - cT u a b else cT t a b
theorem parT_zero {t : Tb} (h : Tab t) (u : Tb) : parT t u 0 0 = t := by
  have e := tab_as h
  refine Eq.trans ?_ e.symm
  exact mat_ext fun a b _ _ => by rw [if_neg (by omega)]
theorem parT_step (t u : Tb) {k j : Nat} (hk : k < t.length) (hj : j < wd t) : (parT t u k j).set k (((parT t u k j).getD k []).set j (cT t k j - cT u k j)) = parT t u k (j + 1) := by
  rw [parT, mat_set _ _ _ hk hj, parT]
  refine mat_ext fun a b _ _ => ?_
  by_cases h : a = k ∧ b = j
  · rw [if_pos h, if_pos (by omega), h.1, h.2]
  · rw [if_neg h]
    by_cases h2 : a < k ∨ (a = k ∧ b < j)
    · rw [if_pos h2, if_pos (by omega)]
    · rw [if_neg h2, if_neg (by omega)]
theorem parT_next (t u : Tb) (k : Nat) : parT t u k (wd t) = parT t u (k + 1) 0 := mat_ext fun a b _ hb => by
  by_cases h : a < k ∨ (a = k ∧ b < wd t)
  · rw [if_pos h, if_pos (by omega)]
  · rw [if_neg h, if_neg (by omega)]
theorem parT_all (t u : Tb) : parT t u t.length 0 = diffT t u := mat_ext fun a b ha _ => by rw [if_pos (by omega)]
theorem parT_len (t u : Tb) (k j : Nat) : (parT t u k j).length = t.length := mat_len _ _ _
theorem parT_rlen (t u : Tb) (k j : Nat) {i : Nat} (hi : i < t.length) : ((parT t u k j).getD i []).length = wd t := mat_rlen _ _ _ hi
theorem parT_cell (t u : Tb) {k j : Nat} (hi : k < t.length) (hj : j < wd t) : ((parT t u k j).getD k []).getD j 0 = cT t k j := by
  rw [parT, mat_cell _ _ _ hi hj, if_neg (by omega)]
set_option maxRecDepth 100000 in
set_option maxHeartbeats 4000000 in
theorem sDiff_is (W : World) (t : Tb) (v : Value) (hv : IsR W v t) (u : Tb) (v2 : Value) (hv2 : IsR W v2 u) (m : Tb) (g : Bool) (hm : diffI t u = m) (hg : diffOk t u = g) (w : World) (hb : Below W.heap.size W w) :
    Calls Try.prog 14 #[v, v2] w (OutRT m g w) := by
  have HG := Lib.hid hg
  have HM := Lib.hid hm
  have hv0 := hv.below hb
  have hu0 := hv2.below hb
  clear hv hv2 hb hg hm
  obtain ⟨A, c, rfl, a1, a2, a3⟩ := hv0
  obtain ⟨A', c', rfl, e1, e2, e3⟩ := hu0
  obtain ⟨q, hq⟩ : ∃ q, q = t.length := ⟨_, rfl⟩
  obtain ⟨n, hn⟩ : ∃ n, n = u.length := ⟨_, rfl⟩
  have HV := Lib.hid (show IsR w (.slice A q c) t by rw [hq]; exact ⟨A, c, rfl, a1, a2, a3⟩)
  have HU := Lib.hid (show IsR w (.slice A' n c') u by rw [hn]; exact ⟨A', c', rfl, e1, e2, e3⟩)
  have HQ := Lib.hid hq
  have HN := Lib.hid hn
  have HR := Lib.hid a3
  have HS := Lib.hid e3
  rw [← hq, ← hn]
  obtain ⟨tt, htt⟩ : ∃ tt, tabOk t = tt := ⟨_, rfl⟩
  obtain ⟨uu, huu⟩ : ∃ uu, tabOk u = uu := ⟨_, rfl⟩
  have HT := Lib.hid htt
  have HT2 := Lib.hid huu
  clear a1 a2 a3 e1 e2 e3 hq hn htt huu
  cases tt
  · have hno : diffOk t u = false := by rw [diffOk, HT.out]; rfl
    have HE := Lib.hid (show g = false by rw [← HG.out]; exact hno)
    have HE2 := Lib.hid (show m = [] by rw [← HM.out, diffI_no hno])
    clear hno
    go_enter Try.func14, Try.ntmps14
    go_wp2_with fail
    refine region_quiet_later (by kernel_rfl) (by kernel_rfl) ?_
    repeat (go_big_quiet_step (first
      | (go_at_call 35
         first
         | (with_reducible exact Later.of (sTab_is w t _ HV.out false HT.out _ (Later.h _)))
         | (with_reducible fail))))
    refine wpQuiet_nil ?_
    rintro _ ⟨L, rfl⟩
    obtain ⟨w1, hw1, b1⟩ : ∃ w1, L.y = w1 ∧ Below w.heap.size w w1 := ⟨_, rfl, L.h⟩
    rw [hw1]
    clear hw1 L
    have hz1 := b1.size
    have HO0 := Lib.hid (show Mine (w1.alloc (.cells #[] TI)) w.heap.size (w1.alloc (.cells #[] TI)).heap.size (.slice (some ⟨w1.heap.size, 0, none⟩) 0 0) [] from (mine_new hz1).up)
    have HB0 := Lib.hid (b1.alloc hz1 (.cells #[] TI))
    clear b1
    go_wp2
    go_ret2
    exact ⟨_, by rw [HE.out]; rfl, by rw [HE2.out]; exact HO0.out, HB0.out⟩
  cases uu
  · have hno : diffOk t u = false := by rw [diffOk, HT.out, HT2.out]; rfl
    have HE := Lib.hid (show g = false by rw [← HG.out]; exact hno)
    have HE2 := Lib.hid (show m = [] by rw [← HM.out, diffI_no hno])
    clear hno
    go_enter Try.func14, Try.ntmps14
    go_wp2_with fail
    refine region_quiet_later (by kernel_rfl) (by kernel_rfl) ?_
    repeat (go_big_quiet_step (first
      | (go_at_call 35
         first
         | (with_reducible exact Later.of (sTab_is w t _ HV.out true HT.out _ (Later.h _)))
         | (with_reducible exact Later.of (sTab_is w u _ HU.out false HT2.out _ (Later.h _))))))
    refine wpQuiet_nil ?_
    rintro _ ⟨L, rfl⟩
    obtain ⟨w1, hw1, b1⟩ : ∃ w1, L.y = w1 ∧ Below w.heap.size w w1 := ⟨_, rfl, L.h⟩
    rw [hw1]
    clear hw1 L
    have hz1 := b1.size
    have HO0 := Lib.hid (show Mine (w1.alloc (.cells #[] TI)) w.heap.size (w1.alloc (.cells #[] TI)).heap.size (.slice (some ⟨w1.heap.size, 0, none⟩) 0 0) [] from (mine_new hz1).up)
    have HB0 := Lib.hid (b1.alloc hz1 (.cells #[] TI))
    clear b1
    go_wp2
    go_ret2
    exact ⟨_, by rw [HE.out]; rfl, by rw [HE2.out]; exact HO0.out, HB0.out⟩
  have ht := tab_iff.1 HT.out
  have hu := tab_iff.1 HT2.out
  have hq4 : 1 ≤ q ∧ q ≤ 4 := by rw [HQ.out]; exact ⟨ht.h1, ht.h4⟩
  have hn4 : 1 ≤ n ∧ n ≤ 4 := by rw [HN.out]; exact ⟨hu.h1, hu.h4⟩
  by_cases hqn : n = q
  rotate_left
  · have hno : diffOk t u = false := by rw [diffOk, HT.out, HT2.out, ← HQ.out, ← HN.out, decide_eq_false hqn]; rfl
    have hx1 : ((q : Int) == (n : Int)) = false := by rw [beq_eq_false_iff_ne]; omega
    have hx2 : ((q : Int) != (n : Int)) = true := by simp; omega
    have HE := Lib.hid (show g = false by rw [← HG.out]; exact hno)
    have HE2 := Lib.hid (show m = [] by rw [← HM.out, diffI_no hno])
    clear hno
    go_enter Try.func14, Try.ntmps14
    go_wp2_with fail
    refine region_quiet_later (by kernel_rfl) (by kernel_rfl) ?_
    repeat (go_big_quiet_step (first
      | (go_at_call 35
         first
         | (with_reducible exact Later.of (sTab_is w t _ HV.out true HT.out _ (Later.h _)))
         | (with_reducible exact Later.of (sTab_is w u _ HU.out true HT2.out _ (Later.h _))))))
    refine wpQuiet_nil ?_
    rintro _ ⟨L, rfl⟩
    obtain ⟨w1, hw1, b1⟩ : ∃ w1, L.y = w1 ∧ Below w.heap.size w w1 := ⟨_, rfl, L.h⟩
    rw [hw1]
    clear hw1 L
    have hz1 := b1.size
    have HO0 := Lib.hid (show Mine (w1.alloc (.cells #[] TI)) w.heap.size (w1.alloc (.cells #[] TI)).heap.size (.slice (some ⟨w1.heap.size, 0, none⟩) 0 0) [] from (mine_new hz1).up)
    have HB0 := Lib.hid (b1.alloc hz1 (.cells #[] TI))
    clear b1
    clear hx1 hx2 ht hu hqn
    go_wp2
    go_ret2
    exact ⟨_, by rw [HE.out]; rfl, by rw [HE2.out]; exact HO0.out, HB0.out⟩
  have hx1 : ((q : Int) == (n : Int)) = true := by rw [beq_iff_eq]; omega
  have hx2 : ((q : Int) != (n : Int)) = false := by simp; omega
  have HNQ := Lib.hid hqn
  clear hqn
  obtain ⟨d, hd⟩ : ∃ d, d = wd t := ⟨_, rfl⟩
  obtain ⟨d', hd'⟩ : ∃ d', d' = wd u := ⟨_, rfl⟩
  have HD := Lib.hid hd
  have HD' := Lib.hid hd'
  have hd4 : 1 ≤ d ∧ d ≤ 4 := by rw [hd]; exact ⟨ht.w1, ht.w4⟩
  have hdd4 : 1 ≤ d' ∧ d' ≤ 4 := by rw [hd']; exact ⟨hu.w1, hu.w4⟩
  obtain ⟨b, o, A0, c0, rfl, hbW, hc, _, _, _⟩ := HR.out.at_ 0 (by rw [← HQ.out]; omega)
  obtain ⟨b', o', A0', c0', rfl, hbW', hc', _, _, _⟩ := HS.out.at_ 0 (by rw [← HN.out]; omega)
  rw [← wd_zero, ← hd, Nat.add_zero] at hc
  rw [← wd_zero, ← hd', Nat.add_zero] at hc'
  have L0 := Later.cell1 hc
  have L1 := Later.cell1 hc'
  have HC0 := Lib.hid hc
  clear hc hc' hd hd'
  have hq0 : (0 : Int) < (q : Int) := by omega
  have hn0 : (0 : Int) < (n : Int) := by omega
  by_cases hwd : d' = d
  rotate_left
  · have hno : diffOk t u = false := by rw [diffOk, HT.out, HT2.out, ← HD.out, ← HD'.out, decide_eq_false hwd, Bool.and_false]; rfl
    have hx3 : ((d : Int) == (d' : Int)) = false := by rw [beq_eq_false_iff_ne]; omega
    have hx4 : ((d : Int) != (d' : Int)) = true := by simp; omega
    have HE := Lib.hid (show g = false by rw [← HG.out]; exact hno)
    have HE2 := Lib.hid (show m = [] by rw [← HM.out, diffI_no hno])
    clear hno
    go_enter Try.func14, Try.ntmps14
    go_wp2_with fail
    refine region_quiet_later (by kernel_rfl) (by kernel_rfl) ?_
    repeat (go_big_quiet_step (first
      | (go_at_call 35
         first
         | (with_reducible exact Later.of (sTab_is w t _ HV.out true HT.out _ (Later.h _)))
         | (with_reducible exact Later.of (sTab_is w u _ HU.out true HT2.out _ (Later.h _))))))
    refine wpQuiet_nil ?_
    rintro _ ⟨L, rfl⟩
    obtain ⟨w1, hw1, b1⟩ : ∃ w1, L.y = w1 ∧ Below w.heap.size w w1 := ⟨_, rfl, L.h⟩
    rw [hw1]
    clear hw1 L
    have hz1 := b1.size
    have HO0 := Lib.hid (show Mine (w1.alloc (.cells #[] TI)) w.heap.size (w1.alloc (.cells #[] TI)).heap.size (.slice (some ⟨w1.heap.size, 0, none⟩) 0 0) [] from (mine_new hz1).up)
    have HB0 := Lib.hid (b1.alloc hz1 (.cells #[] TI))
    clear b1
    clear hx1 hx2 hx3 hx4 ht hu hwd L0 L1
    go_wp2
    go_ret2
    exact ⟨_, by rw [HE.out]; rfl, by rw [HE2.out]; exact HO0.out, HB0.out⟩
  have hx3 : ((d : Int) == (d' : Int)) = true := by rw [beq_iff_eq]; omega
  have hx4 : ((d : Int) != (d' : Int)) = false := by simp; omega
  have HTT := Lib.hid ht
  have HUU := Lib.hid hu
  have HFO := Lib.hid (show tabOk (diffT t u) = g by
    rw [← HG.out, diffOk, HT.out, HT2.out, ← HQ.out, ← HN.out, ← HD.out, ← HD'.out, HNQ.out, hwd]; simp)
  have HFM := Lib.hid (show m = if g = true then diffT t u else [] by
    rw [← HM.out, diffI, HG.out])
  have HWD := Lib.hid hwd
  clear ht hu hwd
  go_enter Try.func14, Try.ntmps14
  go_wp2_with fail
  refine region_quiet_later (by kernel_rfl) (by kernel_rfl) ?_
  repeat (go_big_quiet_step (first
    | (go_at_call 35
       first
       | (with_reducible exact Later.of (sTab_is w t _ HV.out true HT.out _ (Later.h _)))
       | (with_reducible exact Later.of (sTab_is w u _ HU.out true HT2.out _ (Later.h _))))))
  refine wpQuiet_nil ?_
  rintro _ ⟨L, rfl⟩
  obtain ⟨w1, hw1, b1⟩ : ∃ w1, L.y = w1 ∧ Below w.heap.size w w1 := ⟨_, rfl, L.h⟩
  rw [hw1]
  clear hw1 L L0 L1 hx1 hx2 hx3 hx4
  have HB1 := Lib.hid b1
  have hz1 := b1.size
  clear b1
  go_wp2_with fail
  refine (sCopy_is w t _ HV.out (by rw [← HQ.out]; omega) (fun r hr => by rw [HTT.out.len r hr, ← HD.out]; omega) w1 HB1.out).mono ?_
  rintro e w2 ⟨v2, rfl, ho2, h2⟩
  have HO := Lib.hid (show Mine w2 w1.heap.size w2.heap.size v2 (parT t u 0 0) by rw [parT_zero HTT.out u]; exact ho2)
  have HB2 := Lib.hid (HB1.out.trans (h2.mono hz1))
  clear ho2 h2
  obtain ⟨T, hT⟩ : ∃ T, T = w2.heap.size := ⟨_, rfl⟩
  rw [← hT] at HO
  have hql : q = t.length := HQ.out
  obtain ⟨g2, c2, hv2⟩ : ∃ g2 c2, v2 = .slice (some ⟨g2, 0, none⟩) q c2 := by
    obtain ⟨g2, c2, _, _, h, _⟩ := HO.out.cell (i := 0) (j := 0) (by rw [parT_len]; omega) (by rw [parT_rlen _ _ _ _ (by omega), ← HD.out]; omega)
    exact ⟨g2, c2, by rw [h, parT_len, ← HQ.out]⟩
  subst hv2
  have hT2 := HB2.out.size
  clear hql
  go_wp2
  go_loopw [7] (fun y wr => ∃ k : Nat, k ≤ q ∧ y = .int .i64 k ∧ Mine wr w1.heap.size T (.slice (some ⟨g2, 0, none⟩) q c2) (parT t u k 0) ∧ Below w.heap.size w wr) (fun y _ => q - (intOf y).toNat)
  case atStart => exact ⟨0, Nat.zero_le _, rfl, HO.out, HB2.out⟩
  case round =>
    obtain ⟨k, hk, rfl, ho, hb⟩ := hrel
    have HO5 := Lib.hid ho
    have HB5 := Lib.hid hb
    clear ho hb HO HB2
    by_cases hlt : k < q
    · have hki : (k : Int) < (q : Int) := by omega
      go_wp2
      go_loopw [8] (fun y wr => ∃ j : Nat, j ≤ d ∧ y = .int .i64 j ∧ Mine wr w1.heap.size T (.slice (some ⟨g2, 0, none⟩) q c2) (parT t u k j) ∧ Below w.heap.size w wr) (fun y _ => d - (intOf y).toNat)
      case atStart => exact ⟨0, Nat.zero_le _, rfl, HO5.out, HB5.out⟩
      case round =>
        obtain ⟨j, hj, rfl, ho, hb⟩ := hrel
        clear HO5 HB5
        have e0 := (hb.cell (p := ⟨b, o, none⟩) hbW).trans HC0.out
        have hkt : k < t.length := by rw [← HQ.out]; exact hlt
        have HKT := Lib.hid hkt
        by_cases hjd : j < d
        · have hji : (j : Int) < (d : Int) := by omega
          have hjw : j < wd t := by rw [← HD.out]; exact hjd
          have hku : k < u.length := by rw [← HN.out, HNQ.out]; exact hlt
          have hju : j < wd u := by rw [← HD'.out, HWD.out]; exact hjd
          obtain ⟨g', c', gi, ci, hv', k0, _, ⟨hgi, hgT⟩, _, k1, kf, hset⟩ := ho.cell (i := k) (j := j) (by rw [parT_len]; exact hkt) (by rw [parT_rlen _ _ _ _ hkt]; exact hjw)
          injection hv' with hv1 hv2 hv3
          injection hv1 with hv1
          injection hv1 with hv1 _ _
          subst hv1
          rw [parT_rlen _ _ _ _ hkt, ← HD.out] at k0
          rw [parT_cell _ _ hkt hjw] at k1
          obtain ⟨b9, o9, b2, o2, c9, hA, hb1, hc1, _, hb3, hc2⟩ := HS.out.cell2 (i := k) (j := j) hku (by rw [tab_lens HT2.out hku]; exact hju)
          injection hA with hA
          injection hA with x1 x2 _
          subst x1 x2
          have e1 := (hb.cell (p := ⟨b', o' + k, none⟩) hb1).trans hc1
          have e2 := (hb.cell (p := ⟨b2, o2 + j, none⟩) hb3).trans hc2
          rw [tab_lens HT2.out hku, ← HD'.out] at e1
          have HSET := Lib.hid (show Mine (wr.setCell ⟨gi, j, none⟩ (.int .i64 (cT t k j - cT u k j))) w1.heap.size T (.slice (some ⟨g2, 0, none⟩) q c2) (parT t u k (j + 1)) by
            have h := hset (cT t k j - cT u k j)
            rw [parT_step t u hkt hjw] at h
            exact h)
          have hx := cT_bd HTT.out hkt hjw
          have hy := cT_bd HUU.out hku hju
          have e2' : wr.cell? ⟨b2, o2 + j, none⟩ = some (.int .i64 (cT u k j)) := e2
          obtain ⟨x, hxe⟩ : ∃ x, cT t k j = x := ⟨_, rfl⟩
          obtain ⟨y, hye⟩ : ∃ y, cT u k j = y := ⟨_, rfl⟩
          rw [hxe, hye] at HSET
          rw [hxe] at k1 hx
          rw [hye] at e2' hy
          have hwx : IntKind.i64.wrap (x - y) = x - y := by rw [IntKind.wrap_i64]; omega
          have HBS := Lib.hid (hb.setCell (p := ⟨gi, j, none⟩) (Nat.le_trans hz1 hgi) (.int .i64 (x - y)))
          have hkn : (k : Int) < (n : Int) := by have := HNQ.out; omega
          have hjd' : (j : Int) < (d' : Int) := by have := HWD.out; omega
          clear hset ho hb hv2 hv3 hxe hye hx hy hc1 hc2 hb1 hb3 hkt hjw hku hju e2
          go_wp2
          go_still_tail 21, (by kernel_rfl)
          change wpList _ _ _ _ _ wr.drew
          obtain ⟨X, hX⟩ : ∃ X, X = wr.drew := ⟨_, rfl⟩
          have kf' : X.frozen? ⟨gi, j, none⟩ = false := by rw [hX]; exact kf
          have k1' : X.cell? ⟨gi, j, none⟩ = some (.int .i64 x) := by rw [hX]; exact k1
          have HS2 := Lib.hid (show Mine (X.setCell ⟨gi, j, none⟩ (.int .i64 (x - y))) w1.heap.size T (.slice (some ⟨g2, 0, none⟩) q c2) (parT t u k (j + 1)) by rw [hX]; exact HSET.out)
          have HB2 := Lib.hid (show Below w.heap.size w (X.setCell ⟨gi, j, none⟩ (.int .i64 (x - y))) by rw [hX]; exact ⟨HBS.out.os, HBS.out.tape, HBS.out.output, HBS.out.size, HBS.out.block⟩)
          rw [← hX]
          clear hX k0 k1 kf e0 e1 e2' HSET HBS
          go_wp2
          go_roundw
          case rel => exact ⟨j + 1, by omega, by go_num, HS2.out, HB2.out⟩
          case measure => simp [intOf]; omega
        · have hji : ¬ (j : Int) < (d : Int) := by omega
          have hjw : j = wd t := by rw [← HD.out]; omega
          rw [hjw, parT_next] at ho
          have HO5 := Lib.hid ho
          have HB5 := Lib.hid hb
          clear ho hb hjw hkt
          go_wp2
          go_roundw
          case rel => exact ⟨k + 1, by omega, by go_num, HO5.out, HB5.out⟩
          case measure => simp [intOf]; omega
    · have hki : ¬ (k : Int) < (q : Int) := by omega
      have hkq : k = t.length := by rw [← HQ.out]; omega
      rw [hkq, parT_all] at HO5
      clear hkq
      have hz5 := HB5.out.size
      have hTw := HO5.out.1
      go_wp2_with fail
      refine (sTab_is wr (diffT t u) _ HO5.out.is g HFO.out _ (Below.refl _ _)).mono ?_
      rintro e w5 ⟨rfl, b5⟩
      have HB6 := Lib.hid (HB5.out.trans (b5.mono HB5.out.size))
      have hz6 := HB6.out.size
      cases g
      · have HE2 := Lib.hid (show m = [] by rw [HFM.out]; rfl)
        have HO6 := Lib.hid (show Mine (w5.alloc (.cells #[] TI)) w.heap.size (w5.alloc (.cells #[] TI)).heap.size (.slice (some ⟨w5.heap.size, 0, none⟩) 0 0) [] from (mine_new hz6).up)
        have HB7 := Lib.hid (HB6.out.alloc hz6 (.cells #[] TI))
        clear b5
        go_wp2
        go_ret2
        exact ⟨_, rfl, by rw [HE2.out]; exact HO6.out, HB7.out⟩
      · have HE2 := Lib.hid (show m = diffT t u by rw [HFM.out]; rfl)
        have HO6 := Lib.hid (Mine.lower (HO5.out.below b5).up hz1)
        clear b5
        go_wp2
        go_ret2
        exact ⟨_, rfl, by rw [HE2.out]; exact HO6.out, HB6.out⟩
set_option maxRecDepth 100000 in
theorem sRisk_is (W : World) (t : Tb) (v : Value) (hv : IsR W v t) (u : Tb) (v2 : Value) (hv2 : IsR W v2 u) (k : Int) (g : Int) (hg : riskI t u k = g) (w : World) (hb : Below W.heap.size W w) :
    Calls Try.prog 19 #[v, v2, .int .i64 k] w (Back (.int .i64 g) W) := by
  have HV := Lib.hid hv
  have HU := Lib.hid hv2
  have HB := Lib.hid hb
  have hz := hb.size
  obtain ⟨r, hr⟩ : ∃ r, diffOk t u = r := ⟨_, rfl⟩
  have HR := Lib.hid hr
  have HG := Lib.hid hg
  clear hv hv2 hb hr hg
  go_enter Try.func19, Try.ntmps19
  go_wp2_with fail
  refine (sDiff_is W t _ HV.out u _ HU.out _ r rfl HR.out w HB.out).mono ?_
  rintro e w1 ⟨v1, rfl, ho1, h1⟩
  have HB1 := Lib.hid (HB.out.trans (h1.mono hz))
  cases r
  · have HE := Lib.hid (show g = -1 by rw [← HG.out, riskI_no HR.out])
    go_wp2
    go_ret
    exact ⟨by rw [HE.out]; rfl, HB1.out⟩
  · rw [diffI_yes HR.out] at ho1
    have hd := (dok_iff.1 HR.out).d
    have HO := Lib.hid ho1.is
    have HS := Lib.hid (show msmallI (diffT t u) k = msmall (diffT t u) k by rw [msmallI, if_pos (tab_iff.2 hd)])
    have HT := Lib.hid (tab_iff.2 hd)
    have HE := Lib.hid (show ((mmany (msmall (diffT t u) k) : Nat) : Int) = g by rw [← HG.out, riskI_yes HR.out])
    have H9 := Lib.hid (show mmany (msmall (diffT t u) k) ≤ 1000000000 from mm_bd (dok_iff.1 HR.out) k)
    clear ho1 h1 hd
    go_wp2_with fail
    refine (sSmall_is w1 _ _ HO.out k _ true HS.out HT.out w1 (Below.refl _ _)).mono ?_
    rintro e w2 ⟨v3, rfl, ho3, h3⟩
    have HO3 := Lib.hid ho3.is
    have HB3 := Lib.hid (HB1.out.trans (h3.mono HB1.out.size))
    clear ho3 h3
    go_wp2_with fail
    refine (sMaskMany_is w2 _ _ HO3.out H9.out g HE.out w2 (Below.refl _ _)).mono ?_
    rintro e w3 ⟨rfl, b3⟩
    have HB4 := Lib.hid (HB3.out.trans (b3.mono HB3.out.size))
    clear b3
    go_wp2
    go_ret
    exact ⟨rfl, HB4.out⟩
end Go.Proofs.Ytkdffgcmnanniaa
