/- The laws' helpers of chapter 11: a mask turned. -/
import Derived.Test.YtcmnbodnjemjoaaTL2
namespace Go.Proofs.Ytcmnbodnjemjoaa
open Go.RowKit
def colM (m : Mk) (j : Nat) : List Bool := m.map fun r => r.getD j false
def turnTk (m : Mk) (k : Nat) : Mk := (List.range k).map (colM m)
theorem turnTk_succ (m : Mk) (k : Nat) : turnTk m (k + 1) = turnTk m k ++ [colM m k] := by simp [turnTk, List.range_succ]
theorem mturn_tk (m : Mk) {d : Nat} (h1 : 1 ≤ m.length) (hd : ∀ r ∈ m, r.length = d) : mturn m = turnTk m d := by
  cases m with
  | nil => simp at h1
  | cons r m => simp only [mturn, List.headD_cons, turnTk, hd r (by simp)]; rfl
theorem colM_snoc (m : Mk) (j p : Nat) (hp : p < m.length) : colM (m.take (p + 1)) j = colM (m.take p) j ++ [(m.getD p []).getD j false] := by
  rw [take_snocK m p hp]; simp [colM]
set_option maxHeartbeats 2000000 in
theorem lTurnM_is (W : World) (m : Mk) (v : Value) (hv : IsM W v m) (d : Nat) (h1 : 1 ≤ m.length) (hm : m.length ≤ 1000) (hd : ∀ r ∈ m, r.length = d) (hd6 : d ≤ 1000) (res : Mk) (hres : mturn m = res) (w : World) (hb : Below W.heap.size W w) :
    Calls Try.prog 41 #[v] w (OutM1 res w) := by
  have HT := Lib.hid (show res = turnTk m d by rw [← hres]; exact mturn_tk m h1 hd)
  obtain ⟨A, c, rfl, _, _, a3⟩ := hv.below hb
  obtain ⟨q, hq⟩ : ∃ q, q = m.length := ⟨_, rfl⟩
  have HQ := Lib.hid hq
  have HR := Lib.hid a3
  have HD := Lib.hid hd
  rw [← hq] at h1 hm ⊢
  obtain ⟨b, o, A0, c0, hA, hbW, hc, _, _, _⟩ := a3.at_ 0 (by rw [← hq]; omega)
  subst hA
  have hl0 : (m.getD 0 []).length = d := hd _ (by rw [getD_of _ _ (by rw [← hq]; omega)]; exact List.getElem_mem _)
  rw [hl0, Nat.add_zero] at hc
  have HC := Lib.hid hc
  have hq0 : (0 : Int) < (q : Int) := by omega
  have hq0n : 0 < q := by omega
  clear hv hb hres a3 hq hd hc hl0
  go_enter Try.func41, Try.ntmps41
  go_wp2
  go_loopw [3, 4] (fun v i wr => ∃ k : Nat, k ≤ d ∧ i = .int .i64 k ∧ MineB wr w.heap.size wr.heap.size v (turnTk m k) ∧ Below w.heap.size w wr) (fun _ i _ => d - (intOf i).toNat)
  case atStart => exact ⟨0, Nat.zero_le _, rfl, (mineB_new (Nat.le_refl _)).up, (Below.refl _ _).alloc (Nat.le_refl _) _⟩
  case round =>
    obtain ⟨k, hk, rfl, ho, hb⟩ := hrel
    have HO := Lib.hid ho
    have HB := Lib.hid hb
    have hz := hb.size
    have e0 := (hb.cell (p := ⟨b, o, none⟩) hbW).trans HC.out
    clear ho hb
    by_cases hlt : k < d
    · have hki : (k : Int) < (d : Int) := by omega
      obtain ⟨wo, hwo⟩ : ∃ wo, wo = wr := ⟨_, rfl⟩
      subst hwo
      go_wp2
      go_loopw [5, 6] (fun v j wr' => ∃ p : Nat, p ≤ q ∧ j = .int .i64 p ∧ Own1 TBo wr' wo.heap.size v (bcells (colM (m.take p) k)) ∧ Below wo.heap.size wo wr') (fun _ j _ => q - (intOf j).toNat)
      case atStart => exact ⟨0, Nat.zero_le _, rfl, own1_new (Nat.le_refl _), (Below.refl _ _).alloc (Nat.le_refl _) _⟩
      case round =>
        obtain ⟨p, hp, rfl, hro, hb⟩ := hrel
        have HRO := Lib.hid hro
        have HBQ := Lib.hid hb
        have hzq := hb.size
        have hbw : Below w.heap.size w wr := HB.out.trans (hb.mono hz)
        clear hro hb e0
        by_cases hpq : p < q
        · have hpi : (p : Int) < (q : Int) := by omega
          obtain ⟨b', o', A1, c1, hA1, hb1, k1, _, _, r1⟩ := HR.out.at_ p (by rw [← HQ.out]; exact hpq)
          injection hA1 with hA1
          injection hA1 with p1 p2 _
          subst p1 p2
          have hln : (m.getD p []).length = d := HD.out _ (by rw [getD_of _ _ (by rw [← HQ.out]; exact hpq)]; exact List.getElem_mem _)
          rw [hln] at k1
          have e1 := (hbw.cell (p := ⟨b, o + p, none⟩) hbW).trans k1
          obtain ⟨b2, o2, hA2, hb2, k2⟩ := r1.bool_ k (by rw [hln]; exact hlt)
          subst hA2
          have e2 := (hbw.cell (p := ⟨b2, o2 + k, none⟩) hb2).trans k2
          have HSN := Lib.hid (colM_snoc m k p (by rw [← HQ.out]; exact hpq))
          have HLQ := Lib.hid (show (bcells (colM (m.take p) k)).length + 1 ≤ 1000000 by rw [bcells_len, colM, List.length_map, List.length_take]; omega)
          obtain ⟨f, hf⟩ : ∃ f, (m.getD p []).getD k false = f := ⟨_, rfl⟩
          rw [hf] at e2 HSN
          have hbG : b < wr.heap.size := by have := hbw.size; omega
          have hb2G : b2 < wr.heap.size := by have := hbw.size; omega
          clear hf k1 k2 hbw r1 hln
          go_wp2_with (at_builtin
                       refine app1 one_BS rfl (.tmp 28) (.tmp 36) rfl wo.heap.size _ _ rfl (HRO.out.alloc _) (wr.heap.size + 1) (some ⟨wr.heap.size, 0, none⟩) 1 1 [.bool f] rfl rfl (row_lit wr #[.bool f] TBo) (by simp; rfl) HLQ.out (by simp; omega) ?_
                       intro v2 w2 ho2 hg2 _
                       have HO2 := Lib.hid ho2
                       have HB2 := Lib.hid (below_own1 (HBQ.out.alloc hzq _) (HRO.out.alloc _) hg2)
                       clear ho2 hg2)
          go_roundw
          case rel => exact ⟨p + 1, by omega, by go_num, by rw [HSN.out, bcells_app]; exact HO2.out, HB2.out⟩
          case measure => simp [intOf]; omega
        · have hpi : ¬ (p : Int) < (q : Int) := by omega
          have hpm : m.take p = m := List.take_of_length_le (by rw [← HQ.out]; omega)
          rw [hpm] at HRO
          have HOQ := Lib.hid (HO.out.below HBQ.out)
          have HBW := Lib.hid hbw
          clear hpm hbw
          obtain ⟨A6, c6, hv6, _, _, _, _⟩ := HRO.out.form
          rw [bcells_len, colM, List.length_map, ← HQ.out] at hv6
          subst hv6
          have HRW := Lib.hid ((HRO.out.alloc (.cells #[.slice A6 q c6] TBS)).less hz)
          have HFR := Lib.hid (show ∀ k, (Value.slice A6 q c6).ownBlock = some k → some k ≠ u3.ownBlock ∧ (wo.heap.size ≤ k ∨ k < w.heap.size) from fun k e => by
            have h1 := (HRO.out.ob k e).1
            exact ⟨fun e2 => by have := (HO.out.ob k e2.symm).2; omega, .inl h1⟩)
          have HL4 := Lib.hid (show (turnTk m k).length + 1 ≤ 1000000 by simp [turnTk]; omega)
          have HTS := Lib.hid (turnTk_succ m k)
          go_wp2_with (at_builtin
                       refine appMineB rfl (.tmp 38) (.tmp 40) rfl w.heap.size wo.heap.size u3 (turnTk m k) rfl (HOQ.out.alloc _) (wr.heap.size + 1) (some ⟨wr.heap.size, 0, none⟩) 1 (.slice A6 q c6) (colM m k) rfl (row_lit wr #[.slice A6 q c6] TBS) w.heap.size (Nat.le_refl _) HRW.out HFR.out HL4.out (by simp; omega) ?_
                       intro v7 w7 ho7 hg7 _
                       have HB8 := Lib.hid (below_ownLB (HBW.out.alloc HBW.out.size _) (HOQ.out.own.alloc _) hg7)
                       have HO7 := Lib.hid ho7
                       clear ho7 hg7)
          go_roundw
          case rel => exact ⟨k + 1, by omega, by go_num, by rw [HTS.out]; exact HO7.out, HB8.out⟩
          case measure => simp [intOf]; omega
    · have hki : ¬ (k : Int) < (d : Int) := by omega
      have hkd : k = d := by omega
      rw [hkd, ← HT.out] at HO
      clear hkd
      go_wp2
      go_ret
      exact ⟨_, rfl, HO.out, HB.out⟩
end Go.Proofs.Ytcmnbodnjemjoaa
