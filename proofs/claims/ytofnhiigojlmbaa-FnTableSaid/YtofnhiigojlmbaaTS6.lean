/- Contracts of the model: tables copied; masks that are valid, masks counted. -/
import Derived.Test.YtofnhiigojlmbaaTS5
import Derived.Test.YtofnhiigojlmbaaMW
namespace Go.Proofs.Ytofnhiigojlmbaa
open Go.RowKit
theorem take_snocT (t : Tb) (k : Nat) (hk : k < t.length) : t.take (k + 1) = t.take k ++ [t.getD k []] := by
  rw [List.take_succ_eq_append_getElem hk, getD_of _ _ hk]
set_option maxHeartbeats 1000000 in
theorem sMask_is (W : World) (t : Tb) (v : Value) (hv : IsR W v t) (m : Mk) (u : Value) (hu : IsM W u m) (g : Bool) (hg : mkOk t m = g) (w : World) (hb : Below W.heap.size W w) :
    Calls Try.prog 21 #[v, u] w (Back (.bool g) W) := by
  have HG := Lib.hid hg
  obtain ⟨A, c, rfl, a1, a2, a3⟩ := hv
  obtain ⟨q, hq⟩ : ∃ q, q = t.length := ⟨_, rfl⟩
  have HV := Lib.hid (show IsR W (.slice A q c) t by rw [hq]; exact ⟨A, c, rfl, a1, a2, a3⟩)
  have HQ := Lib.hid hq
  have HR := Lib.hid a3
  obtain ⟨B, c', rfl, b1, b2, b3⟩ := hu
  obtain ⟨n, hn⟩ : ∃ n, n = m.length := ⟨_, rfl⟩
  have HN := Lib.hid hn
  have HM := Lib.hid b3
  have HB := Lib.hid hb
  have hnm : n ≤ maxLen := by omega
  rw [← hq, ← hn]
  clear a1 a2 a3 b1 b2 b3 hg hq hn hb
  obtain ⟨tt, htt⟩ : ∃ tt, tabOk t = tt := ⟨_, rfl⟩
  have HT := Lib.hid htt
  clear htt
  go_enter Try.func21, Try.ntmps21
  go_wp2_with fail
  refine (sTab_is W t _ HV.out tt HT.out _ HB.out).mono ?_
  rintro e w1 ⟨rfl, b1⟩
  have HB1 := Lib.hid b1
  clear b1
  cases tt
  · have HE := Lib.hid (show g = false by rw [← HG.out, mkOk, HT.out]; rfl)
    go_wp2
    go_ret
    exact ⟨retb HE.out.symm, HB1.out⟩
  have ht := tab_iff.1 HT.out
  have hq4 : 1 ≤ q ∧ q ≤ 4 := by rw [HQ.out]; exact ⟨ht.h1, ht.h4⟩
  by_cases hnq : n = q
  · obtain ⟨d, hd⟩ : ∃ d, d = wd t := ⟨_, rfl⟩
    have hd4 : 1 ≤ d ∧ d ≤ 4 := by rw [hd]; exact ⟨ht.w1, ht.w4⟩
    have HD := Lib.hid hd
    obtain ⟨b, o, A0, c0, rfl, hbW, hc, _, _, _⟩ := HR.out.at_ 0 (by rw [← HQ.out]; omega)
    rw [← wd_zero, ← hd, Nat.add_zero] at hc
    have HC0 := Lib.hid hc
    have hbq : ((n : Int) == (q : Int)) = true := by rw [beq_iff_eq]; omega
    have hn4 : n ≤ 4 := by omega
    have HNQ := Lib.hid hnq
    clear hc ht hd hnq
    go_wp2
    go_loopw [5] (fun i wr => ∃ k : Nat, k ≤ n ∧ i = .int .i64 k ∧ (∀ j, j < k → (m.getD j []).length = d) ∧ Below W.heap.size W wr) (fun i _ => n - (intOf i).toNat)
    case atStart => exact ⟨0, Nat.zero_le _, rfl, fun j hj => absurd hj (by omega), HB1.out⟩
    case round =>
      obtain ⟨k, hk, rfl, hall, hb⟩ := hrel
      have HA := Lib.hid hall
      have HB2 := Lib.hid hb
      clear hall
      by_cases hlt : k < n
      · have hki : (k : Int) < (n : Int) := by omega
        have hkm : k < m.length := by rw [← HN.out]; exact hlt
        obtain ⟨b', o', A1, c1, hA, hb1, hc1, hl1, hm1, _⟩ := HM.out.at_ k hkm
        subst hA
        have e0 := (hb.cell (p := ⟨b, o, none⟩) hbW).trans HC0.out
        have e1 := (hb.cell (p := ⟨b', o' + k, none⟩) hb1).trans hc1
        obtain ⟨x, hx⟩ : ∃ x, x = (m.getD k []).length := ⟨_, rfl⟩
        have HX := Lib.hid hx
        have HKM := Lib.hid hkm
        rw [← hx] at e1 hl1
        have hxm : x ≤ maxLen := by omega
        clear hc1 hx hkm hb
        by_cases hxd : x = d
        · have hxb : ((x : Int) == (d : Int)) = true := by rw [beq_iff_eq]; omega
          have HS := Lib.hid (show ∀ j, j < k + 1 → (m.getD j []).length = d from fun j hj => by
            rcases Nat.lt_or_ge j k with h | h
            · exact HA.out j h
            · rw [show j = k by omega, ← HX.out]; exact hxd)
          clear hxd
          go_wp2
          go_quiet (fail)
          go_wp2
          go_roundw
          case rel => exact ⟨k + 1, by omega, by go_num, HS.out, below_draws HB2.out _⟩
          case measure => simp [intOf]; omega
        · have hxb : ((x : Int) == (d : Int)) = false := by rw [beq_eq_false_iff_ne]; omega
          have HE := Lib.hid (show g = false by
            rw [← HG.out]
            cases hk2 : mkOk t m
            · rfl
            · have h1 := (mk_parts.1 hk2).2.2 (m.getD k []) (by rw [getD_of _ _ HKM.out]; exact List.getElem_mem _)
              rw [← HX.out, ← HD.out] at h1; exact absurd h1 hxd)
          clear hxd
          go_wp2
          go_quiet (fail)
          go_wp2
          go_ret
          exact ⟨retb HE.out.symm, below_draws HB2.out _⟩
      · have hki : ¬ (k : Int) < (n : Int) := by omega
        have HE := Lib.hid (show g = true by
          rw [← HG.out]
          refine mk_parts.2 ⟨tab_iff.1 HT.out, by rw [← HN.out, ← HQ.out]; exact HNQ.out, fun r hr => ?_⟩
          obtain ⟨j, hj, rfl⟩ := List.getElem_of_mem hr
          have h1 := HA.out j (by rw [← HN.out] at hj; omega)
          rw [getD_of _ _ hj] at h1
          rw [h1, HD.out])
        clear hb
        go_wp2
        go_ret
        exact ⟨retb HE.out.symm, HB2.out⟩
  · have hbq : ((n : Int) == (q : Int)) = false := by rw [beq_eq_false_iff_ne]; omega
    have HE := Lib.hid (show g = false by
      rw [← HG.out]
      cases hk2 : mkOk t m
      · rfl
      · have h1 := (mk_parts.1 hk2).2.1
        rw [← HN.out, ← HQ.out] at h1; exact absurd h1 hnq)
    clear hnq ht
    go_wp2
    go_ret
    exact ⟨retb HE.out.symm, HB1.out⟩
end Go.Proofs.Ytofnhiigojlmbaa
