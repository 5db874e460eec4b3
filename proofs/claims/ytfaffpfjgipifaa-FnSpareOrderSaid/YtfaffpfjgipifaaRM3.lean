/- Contributions: what the model tells of sensitive cells. -/
import Derived.Test.YtfaffpfjgipifaaRM2
import Derived.Test.YtfaffpfjgipifaaQI
namespace Go.Proofs.Ytfaffpfjgipifaa
open Go.RowKit
theorem topI_ok {l : List Int} (h : pOk l = true) {n : Int} (hn : 0 ≤ n) : topI l n = tp l n.toNat := by unfold topI; rw [if_pos ⟨h, hn⟩]
theorem topI_nat {l : List Int} (h : pOk l = true) (n : Nat) : topI l (n : Int) = tp l n := topI_ok h (by omega)
theorem topI_all {l : List Int} (h : pOk l = true) : topI l 20 = l.sum := by
  rw [topI_ok h (by omega)]; exact tp_all (pOk_parts.1 h).1
theorem topI_no {l : List Int} {n : Int} (h : ¬ (pOk l = true ∧ 0 ≤ n)) : topI l n = -1 := by unfold topI; rw [if_neg h]
theorem pOk_nn {l : List Int} (h : pOk l = true) : Nn l := fun x hx => ((pOk_parts.1 h).2 x hx).1
theorem topI_bd {l : List Int} (h : pOk l = true) {n : Int} (hn : 0 ≤ n) : 0 ≤ topI l n ∧ topI l n ≤ 2000000 := by
  rw [topI_ok h hn]; exact ((Bd.ds h).take n.toNat).sum
theorem rest_eq (l : List Int) : ((ds l).drop 2).sum = l.sum - tp l 2 := by
  have h : ((ds l).take 2).sum + ((ds l).drop 2).sum = (ds l).sum := by rw [← List.sum_append, List.take_append_drop]
  rw [ds_sum] at h; unfold tp; omega
theorem lackI_eq (l : List Int) (pc : Int) : lackI (ds l) pc = tp l 1 * pc - 100 * (l.sum - tp l 2) := by
  show ((ds l).take 1).sum * pc - 100 * ((ds l).drop 2).sum = _
  rw [rest_eq]; rfl
theorem leadP_eq (l : List Int) (n pc : Int) : leadP (ds l) n pc ↔ pc * l.sum < tp l n.toNat * 100 := by
  show pc * (ds l).sum < ((ds l).take n.toNat).sum * 100 ↔ _
  rw [ds_sum]; exact Iff.rfl
theorem posN_eq (l : List Int) : posN (ds l) = posN l := ((ds_perm l).filter _).length_eq
set_option maxHeartbeats 1000000 in
theorem sTop_is (W : World) (l : List Int) (v : Value) (hv : IsI W v l) (n : Int) (g : Int) (hg : topI l n = g) (w : World) (hb : Below W.heap.size W w) :
    Calls Try.prog 31 #[v, .int .i64 n] w (Back (.int .i64 g) W) := by
  have HV := Lib.hid (hv.below hb)
  have HB := Lib.hid hb
  have HG := Lib.hid hg
  clear hv hb hg
  by_cases hok : pOk l = true
  · have HOK := Lib.hid hok
    have HD := Lib.hid (Bd.ds hok)
    have HL := Lib.hid (show l.length ≤ 100 by have := (pOk_parts.1 hok).1; omega)
    by_cases hn : 0 ≤ n
    · have HGG := Lib.hid ((topI_ok hok hn).symm.trans HG.out)
      obtain ⟨q, hq⟩ : ∃ q, q = (ds l).length := ⟨_, rfl⟩
      have HQ := Lib.hid hq
      have hq9 : q ≤ 20 := by rw [hq]; exact (Bd.ds hok).1
      clear hok hq
      go_enter Try.func31, Try.ntmps31
      go_wp2_with (first
        | (go_at_call 29; (with_reducible refine (sPV_any l _ _ HV.out true HOK.out).mono ?_); rintro e w' ⟨rfl, rfl⟩)
        | (go_at_call 37; (with_reducible refine (sSort_any l _ _ HV.out HL.out).mono ?_); rintro e w1 ⟨v1, rfl, ho1, hb1⟩
           have HB1 := Lib.hid hb1
           obtain ⟨A1, c1, hv1, _, hc1, hr1⟩ := ho1.is
           rw [← HQ.out] at hv1
           subst hv1
           have HR1 := Lib.hid hr1
           clear ho1 hb1 hr1))
      go_loopw [6, 7] (fun s i wr => ∃ k : Nat, k ≤ q ∧ (k : Int) ≤ n ∧ i = .int .i64 k ∧ s = .int .i64 ((ds l).take k).sum ∧ wr = w1) (fun _ i _ => q - (intOf i).toNat)
      case atStart => exact ⟨0, Nat.zero_le _, hn, rfl, by rw [List.take_zero]; rfl, rfl⟩
      case round =>
        obtain ⟨k, hk, hkn, rfl, rfl, rfl⟩ := hrel
        by_cases hgo : k < q ∧ (k : Int) < n
        · obtain ⟨hlt, hkn2⟩ := hgo
          have hki : (k : Int) < (q : Int) := by omega
          have hkl : k < (ds l).length := by rw [← HQ.out]; exact hlt
          obtain ⟨b, o, rfl, _, c0⟩ := HR1.out.int_ k hkl
          have hs1 := (HD.out.take k).sum
          have hs2 := HD.out.2 ((ds l).getD k 0) (by rw [List.getD_eq_getElem?_getD, List.getElem?_eq_getElem hkl]; exact List.getElem_mem _)
          have HSM := Lib.hid (take_sum hkl)
          clear hkl
          obtain ⟨s, hs⟩ : ∃ s, ((ds l).take k).sum = s := ⟨_, rfl⟩
          obtain ⟨x, hx⟩ : ∃ x, (ds l).getD k 0 = x := ⟨_, rfl⟩
          rw [hs] at hs1 HSM
          rw [hx] at hs2 HSM c0
          rw [hs]
          clear hs hx
          go_wp2
          go_roundw
          case rel => exact ⟨k + 1, by omega, by omega, by go_num, by rw [HSM.out], trivial⟩
          case measure => simp [intOf]; omega
        · have HE := Lib.hid (show ((ds l).take k).sum = g by
            rw [← HGG.out]; unfold tp
            by_cases hkq : k < q
            · rw [show n.toNat = k by omega]
            · rw [List.take_of_length_le (by rw [← HQ.out]; omega), List.take_of_length_le (by rw [← HQ.out]; omega)])
          rw [HE.out]
          have hcase : (k : Int) < (q : Int) ∧ ¬ (k : Int) < n ∨ ¬ (k : Int) < (q : Int) := by omega
          clear hgo hk hkn
          rcases hcase with ⟨h1, h2⟩ | h1
          all_goals
            go_wp2
            go_ret
            exact ⟨rfl, HB.out.trans (HB1.out.mono HB.out.size)⟩
    · have HGG := Lib.hid ((topI_no (l := l) (n := n) fun h => hn h.2).symm.trans HG.out)
      clear hok
      go_enter Try.func31, Try.ntmps31
      go_wp2_with (first
        | (go_at_call 29; (with_reducible refine (sPV_any l _ _ HV.out true HOK.out).mono ?_); rintro e w' ⟨rfl, rfl⟩))
      go_ret
      exact ⟨reti HGG.out, HB.out⟩
  · have hok' : pOk l = false := by simpa using hok
    have HOK := Lib.hid hok'
    have HGG := Lib.hid ((topI_no (l := l) (n := n) fun h => hok h.1).symm.trans HG.out)
    clear hok hok'
    go_enter Try.func31, Try.ntmps31
    go_wp2_with (first
      | (go_at_call 29; (with_reducible refine (sPV_any l _ _ HV.out false HOK.out).mono ?_); rintro e w' ⟨rfl, rfl⟩))
    go_ret
    exact ⟨reti HGG.out, HB.out⟩
theorem posN_take {l : List Int} {k : Nat} (hk : k < l.length) (h : 0 ≤ l.getD k 0) : (posN (l.take (k + 1)) : Int) = posN (l.take k) + (if 1 < l.getD k 0 then 1 else l.getD k 0) := by
  rw [List.getD_eq_getElem?_getD, List.getElem?_eq_getElem hk] at *
  simp only [Option.getD_some] at *
  unfold posN
  rw [List.take_succ_eq_append_getElem hk, List.filter_append, List.length_append, Int.natCast_add]
  congr 1
  rw [List.filter_cons, List.filter_nil]
  by_cases h1 : 0 < l[k]
  · rw [if_pos (by simpa using h1)]; simp; omega
  · rw [if_neg (by simpa using h1)]; simp; omega
end Go.Proofs.Ytfaffpfjgipifaa
