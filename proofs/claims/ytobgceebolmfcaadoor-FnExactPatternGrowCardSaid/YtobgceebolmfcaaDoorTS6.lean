/- Contracts of the model: tables copied; masks that are valid, masks counted. -/
import Derived.Test.YtobgceebolmfcaaDoorTS5
import Derived.Test.YtobgceebolmfcaaDoorMW
namespace Go.Proofs.YtobgceebolmfcaaDoor
open Go.RowKit
theorem take_snocT (t : Tb) (k : Nat) (hk : k < t.length) : t.take (k + 1) = t.take k ++ [t.getD k []] := by
  rw [List.take_succ_eq_append_getElem hk, getD_of _ _ hk]
set_option maxHeartbeats 2000000 in
theorem sCopy_is (W : World) (t : Tb) (v : Value) (hv : IsR W v t) (hl : t.length ≤ 1000) (hr6 : ∀ r ∈ t, r.length ≤ 100000) (w : World) (hb : Below W.heap.size W w) :
    Calls Tryd.prog 95 #[v] w (OutR1 t w) := by
  have hv0 := hv.below hb
  clear hv hb
  obtain ⟨A, c, rfl, a1, a2, a3⟩ := hv0
  obtain ⟨q, hq⟩ : ∃ q, q = t.length := ⟨_, rfl⟩
  have HQ := Lib.hid hq
  have HR := Lib.hid a3
  have H6 := Lib.hid hr6
  rw [← hq]
  have hq6 : q ≤ 1000 := by omega
  clear a1 a2 a3 hq hr6 hl
  go_enter Tryd.func95, Tryd.ntmps95
  go_wp2
  go_loopw [3, 4] (fun v i wr => ∃ k : Nat, k ≤ q ∧ i = .int .i64 k ∧ Mine wr w.heap.size wr.heap.size v (t.take k) ∧ Below w.heap.size w wr) (fun _ i _ => q - (intOf i).toNat)
  case atStart => exact ⟨0, Nat.zero_le _, rfl, (mine_new (Nat.le_refl _)).up, (Below.refl _ _).alloc (Nat.le_refl _) _⟩
  case round =>
    obtain ⟨k, hk, rfl, ho, hb⟩ := hrel
    have HOL := Lib.hid ho
    have HB5 := Lib.hid hb
    have hz5 := hb.size
    clear ho hb
    by_cases hlt : k < q
    · have hki : (k : Int) < (q : Int) := by omega
      have hkt : k < t.length := by rw [← HQ.out]; exact hlt
      have HT := Lib.hid (take_snocT t k hkt)
      obtain ⟨b1, o1, Ai, ci, hA, hb1, c0, g1, g2, r0⟩ := (HR.out.below HB5.out (Nat.le_refl _)).at_ k hkt
      subst hA
      have HR0 := Lib.hid r0
      have hx6 : (t.getD k []).length ≤ 100000 := H6.out _ (by rw [getD_of _ _ hkt]; exact List.getElem_mem _)
      obtain ⟨row, hrow⟩ : ∃ row, t.getD k [] = row := ⟨_, rfl⟩
      rw [hrow] at HT HR0 c0 hx6
      have HX6 := Lib.hid hx6
      have hb1w : b1 < wr.heap.size := by omega
      have HL4 := Lib.hid (show (t.take k).length + 1 ≤ 1000000 by rw [List.length_take]; omega)
      clear hrow g1 g2 r0 hx6 hkt
      go_wp2_with (first
        | (at_builtin
           refine app1 one_I rfl (.tmp 13) (.tmp 17) rfl wr.heap.size _ [] rfl (own1_new (Nat.le_refl _)) w.heap.size Ai row.length ci (icells row) (icells_len row).symm rfl ((HR0.out.below ((Below.refl wr.heap.size wr).alloc (Nat.le_refl _) _) (by omega))) (icells_one row) (by rw [icells_len]; have := HX6.out; simp; omega) (by simp) ?_
           intro v6 w6 ho6 hg6 _
           rw [List.nil_append] at ho6
           obtain ⟨A6, c6, hv6, _, _, _, _⟩ := ho6.form
           rw [icells_len] at hv6
           subst hv6
           have HB6 := Lib.hid (below_own1 (W := wr) ((Below.refl _ _).alloc (Nat.le_refl _) _) (own1_new (Nat.le_refl _)) hg6)
           have HO6 := Lib.hid ho6
           clear ho6 hg6
           have hz6 := HB6.out.size
           have HRW := Lib.hid ((HO6.out.alloc (.cells #[.slice A6 row.length c6] TI)).less hz5)
           have HFR := Lib.hid (show ∀ k, (Value.slice A6 row.length c6).ownBlock = some k → some k ≠ u3.ownBlock ∧ (wr.heap.size ≤ k ∨ k < w.heap.size) from fun k e => by
             have h1 := (HO6.out.ob k e).1
             exact ⟨fun e2 => by have := (HOL.out.ob k e2.symm).2; omega, .inl h1⟩)
           have HOL2 := Lib.hid (HOL.out.below HB6.out)
           have HB7 := Lib.hid (HB5.out.trans (HB6.out.mono hz5))
           clear HOL HB5 HB6)
        | (at_builtin
           refine appMine rfl (.tmp 12) (.tmp 19) rfl w.heap.size wr.heap.size u3 (t.take k) rfl (HOL2.out.alloc _) (w6.heap.size + 1) (some ⟨w6.heap.size, 0, none⟩) 1 (.slice A6 row.length c6) row rfl (row_lit w6 #[.slice A6 row.length c6] TI) w.heap.size (Nat.le_refl _) HRW.out HFR.out HL4.out (by simp; omega) ?_
           intro v7 w7 ho7 hg7 _
           have HB8 := Lib.hid (below_ownLL (HB7.out.alloc HB7.out.size _) (HOL2.out.own.alloc _) hg7)
           have HO7 := Lib.hid ho7
           clear ho7 hg7))
      go_roundw
      case rel => exact ⟨k + 1, by omega, by go_num, by rw [HT.out]; exact HO7.out, HB8.out⟩
      case measure => simp [intOf]; omega
    · have hki : ¬ (k : Int) < (q : Int) := by omega
      have hkq : t.take k = t := List.take_of_length_le (by rw [← HQ.out]; omega)
      rw [hkq] at HOL
      clear hkq
      go_wp2
      go_ret
      exact ⟨_, rfl, HOL.out, HB5.out⟩
set_option maxHeartbeats 1000000 in
theorem sMask_is (W : World) (t : Tb) (v : Value) (hv : IsR W v t) (m : Mk) (u : Value) (hu : IsM W u m) (g : Bool) (hg : mkOk t m = g) (w : World) (hb : Below W.heap.size W w) :
    Calls Tryd.prog 72 #[v, u] w (Back (.bool g) W) := by
  have HG := Lib.hid hg
  obtain ⟨A, c, rfl, a1, a2, a3⟩ := hv
  obtain ⟨q, hq⟩ : ∃ q, q = t.length := ⟨_, rfl⟩
  have HV := Lib.hid (show IsR W (.slice A q c) t by rw [hq]; exact ⟨A, c, rfl, a1, a2, a3⟩)
  have HQ := Lib.hid hq
  have HR := Lib.hid a3
  obtain ⟨B, c', rfl, b1, b2, b3⟩ := hu
  obtain ⟨n, hn⟩ : ∃ n, n = m.length := ⟨_, rfl⟩
  have HN := Lib.hid hn
  have HM := Lib.hid b3
  have HB := Lib.hid hb
  have hnm : n ≤ maxLen := by omega
  rw [← hq, ← hn]
  clear a1 a2 a3 b1 b2 b3 hg hq hn hb
  obtain ⟨tt, htt⟩ : ∃ tt, tabOk t = tt := ⟨_, rfl⟩
  have HT := Lib.hid htt
  clear htt
  go_enter Tryd.func72, Tryd.ntmps72
  go_wp2_with fail
  refine (sTab_is W t _ HV.out tt HT.out _ HB.out).mono ?_
  rintro e w1 ⟨rfl, b1⟩
  have HB1 := Lib.hid b1
  clear b1
  cases tt
  · have HE := Lib.hid (show g = false by rw [← HG.out, mkOk, HT.out]; rfl)
    go_wp2
    go_ret
    exact ⟨retb HE.out.symm, HB1.out⟩
  have ht := tab_iff.1 HT.out
  have hq4 : 1 ≤ q ∧ q ≤ 4 := by rw [HQ.out]; exact ⟨ht.h1, ht.h4⟩
  by_cases hnq : n = q
  · obtain ⟨d, hd⟩ : ∃ d, d = wd t := ⟨_, rfl⟩
    have hd4 : 1 ≤ d ∧ d ≤ 4 := by rw [hd]; exact ⟨ht.w1, ht.w4⟩
    have HD := Lib.hid hd
    obtain ⟨b, o, A0, c0, rfl, hbW, hc, _, _, _⟩ := HR.out.at_ 0 (by rw [← HQ.out]; omega)
    rw [← wd_zero, ← hd, Nat.add_zero] at hc
    have HC0 := Lib.hid hc
    have hbq : ((n : Int) == (q : Int)) = true := by rw [beq_iff_eq]; omega
    have hn4 : n ≤ 4 := by omega
    have HNQ := Lib.hid hnq
    clear hc ht hd hnq
    go_wp2
    go_loopw [5] (fun i wr => ∃ k : Nat, k ≤ n ∧ i = .int .i64 k ∧ (∀ j, j < k → (m.getD j []).length = d) ∧ Below W.heap.size W wr) (fun i _ => n - (intOf i).toNat)
    case atStart => exact ⟨0, Nat.zero_le _, rfl, fun j hj => absurd hj (by omega), HB1.out⟩
    case round =>
      obtain ⟨k, hk, rfl, hall, hb⟩ := hrel
      have HA := Lib.hid hall
      have HB2 := Lib.hid hb
      clear hall
      by_cases hlt : k < n
      · have hki : (k : Int) < (n : Int) := by omega
        have hkm : k < m.length := by rw [← HN.out]; exact hlt
        obtain ⟨b', o', A1, c1, hA, hb1, hc1, hl1, hm1, _⟩ := HM.out.at_ k hkm
        subst hA
        have e0 := (hb.cell (p := ⟨b, o, none⟩) hbW).trans HC0.out
        have e1 := (hb.cell (p := ⟨b', o' + k, none⟩) hb1).trans hc1
        obtain ⟨x, hx⟩ : ∃ x, x = (m.getD k []).length := ⟨_, rfl⟩
        have HX := Lib.hid hx
        have HKM := Lib.hid hkm
        rw [← hx] at e1 hl1
        have hxm : x ≤ maxLen := by omega
        clear hc1 hx hkm hb
        by_cases hxd : x = d
        · have hxb : ((x : Int) == (d : Int)) = true := by rw [beq_iff_eq]; omega
          have HS := Lib.hid (show ∀ j, j < k + 1 → (m.getD j []).length = d from fun j hj => by
            rcases Nat.lt_or_ge j k with h | h
            · exact HA.out j h
            · rw [show j = k by omega, ← HX.out]; exact hxd)
          clear hxd
          go_wp2
          go_quiet (fail)
          go_wp2
          go_roundw
          case rel => exact ⟨k + 1, by omega, by go_num, HS.out, below_draws HB2.out _⟩
          case measure => simp [intOf]; omega
        · have hxb : ((x : Int) == (d : Int)) = false := by rw [beq_eq_false_iff_ne]; omega
          have HE := Lib.hid (show g = false by
            rw [← HG.out]
            cases hk2 : mkOk t m
            · rfl
            · have h1 := (mk_parts.1 hk2).2.2 (m.getD k []) (by rw [getD_of _ _ HKM.out]; exact List.getElem_mem _)
              rw [← HX.out, ← HD.out] at h1; exact absurd h1 hxd)
          clear hxd
          go_wp2
          go_quiet (fail)
          go_wp2
          go_ret
          exact ⟨retb HE.out.symm, below_draws HB2.out _⟩
      · have hki : ¬ (k : Int) < (n : Int) := by omega
        have HE := Lib.hid (show g = true by
          rw [← HG.out]
          refine mk_parts.2 ⟨tab_iff.1 HT.out, by rw [← HN.out, ← HQ.out]; exact HNQ.out, fun r hr => ?_⟩
          obtain ⟨j, hj, rfl⟩ := List.getElem_of_mem hr
          have h1 := HA.out j (by rw [← HN.out] at hj; omega)
          rw [getD_of _ _ hj] at h1
          rw [h1, HD.out])
        clear hb
        go_wp2
        go_ret
        exact ⟨retb HE.out.symm, HB2.out⟩
  · have hbq : ((n : Int) == (q : Int)) = false := by rw [beq_eq_false_iff_ne]; omega
    have HE := Lib.hid (show g = false by
      rw [← HG.out]
      cases hk2 : mkOk t m
      · rfl
      · have h1 := (mk_parts.1 hk2).2.1
        rw [← HN.out, ← HQ.out] at h1; exact absurd h1 hnq)
    clear hnq ht
    go_wp2
    go_ret
    exact ⟨retb HE.out.symm, HB1.out⟩
end Go.Proofs.YtobgceebolmfcaaDoor
