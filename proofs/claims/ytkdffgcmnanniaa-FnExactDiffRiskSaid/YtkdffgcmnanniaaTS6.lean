/- Contracts of the model: tables copied; masks that are valid, masks counted. -/
import Derived.Test.YtkdffgcmnanniaaTS5
import Derived.Test.YtkdffgcmnanniaaMW
namespace Go.Proofs.Ytkdffgcmnanniaa
open Go.RowKit
theorem take_snocT (t : Tb) (k : Nat) (hk : k < t.length) : t.take (k + 1) = t.take k ++ [t.getD k []] := by
  rw [List.take_succ_eq_append_getElem hk, getD_of _ _ hk]
set_option maxHeartbeats 2000000 in
theorem sCopy_is (W : World) (t : Tb) (v : Value) (hv : IsR W v t) (hl : t.length ≤ 1000) (hr6 : ∀ r ∈ t, r.length ≤ 100000) (w : World) (hb : Below W.heap.size W w) :
    Calls Try.prog 36 #[v] w (OutR1 t w) := by
  have hv0 := hv.below hb
  clear hv hb
  obtain ⟨A, c, rfl, a1, a2, a3⟩ := hv0
  obtain ⟨q, hq⟩ : ∃ q, q = t.length := ⟨_, rfl⟩
  have HQ := Lib.hid hq
  have HR := Lib.hid a3
  have H6 := Lib.hid hr6
  rw [← hq]
  have hq6 : q ≤ 1000 := by omega
  clear a1 a2 a3 hq hr6 hl
  go_enter Try.func36, Try.ntmps36
  go_wp2
  go_loopw [3, 4] (fun v i wr => ∃ k : Nat, k ≤ q ∧ i = .int .i64 k ∧ Mine wr w.heap.size wr.heap.size v (t.take k) ∧ Below w.heap.size w wr) (fun _ i _ => q - (intOf i).toNat)
  case atStart => exact ⟨0, Nat.zero_le _, rfl, (mine_new (Nat.le_refl _)).up, (Below.refl _ _).alloc (Nat.le_refl _) _⟩
  case round =>
    obtain ⟨k, hk, rfl, ho, hb⟩ := hrel
    have HOL := Lib.hid ho
    have HB5 := Lib.hid hb
    have hz5 := hb.size
    clear ho hb
    by_cases hlt : k < q
    · have hki : (k : Int) < (q : Int) := by omega
      have hkt : k < t.length := by rw [← HQ.out]; exact hlt
      have HT := Lib.hid (take_snocT t k hkt)
      obtain ⟨b1, o1, Ai, ci, hA, hb1, c0, g1, g2, r0⟩ := (HR.out.below HB5.out (Nat.le_refl _)).at_ k hkt
      subst hA
      have HR0 := Lib.hid r0
      have hx6 : (t.getD k []).length ≤ 100000 := H6.out _ (by rw [getD_of _ _ hkt]; exact List.getElem_mem _)
      obtain ⟨row, hrow⟩ : ∃ row, t.getD k [] = row := ⟨_, rfl⟩
      rw [hrow] at HT HR0 c0 hx6
      have HX6 := Lib.hid hx6
      have hb1w : b1 < wr.heap.size := by omega
      have HL4 := Lib.hid (show (t.take k).length + 1 ≤ 1000000 by rw [List.length_take]; omega)
      clear hrow g1 g2 r0 hx6 hkt
      go_wp2_with (first
        | (at_builtin
           refine app1 one_I rfl (.tmp 13) (.tmp 17) rfl wr.heap.size _ [] rfl (own1_new (Nat.le_refl _)) w.heap.size Ai row.length ci (icells row) (icells_len row).symm rfl ((HR0.out.below ((Below.refl wr.heap.size wr).alloc (Nat.le_refl _) _) (by omega))) (icells_one row) (by rw [icells_len]; have := HX6.out; simp; omega) (by simp) ?_
           intro v6 w6 ho6 hg6 _
           rw [List.nil_append] at ho6
           obtain ⟨A6, c6, hv6, _, _, _, _⟩ := ho6.form
           rw [icells_len] at hv6
           subst hv6
           have HB6 := Lib.hid (below_own1 (W := wr) ((Below.refl _ _).alloc (Nat.le_refl _) _) (own1_new (Nat.le_refl _)) hg6)
           have HO6 := Lib.hid ho6
           clear ho6 hg6
           have hz6 := HB6.out.size
           have HRW := Lib.hid ((HO6.out.alloc (.cells #[.slice A6 row.length c6] TI)).less hz5)
           have HFR := Lib.hid (show ∀ k, (Value.slice A6 row.length c6).ownBlock = some k → some k ≠ u3.ownBlock ∧ (wr.heap.size ≤ k ∨ k < w.heap.size) from fun k e => by
             have h1 := (HO6.out.ob k e).1
             exact ⟨fun e2 => by have := (HOL.out.ob k e2.symm).2; omega, .inl h1⟩)
           have HOL2 := Lib.hid (HOL.out.below HB6.out)
           have HB7 := Lib.hid (HB5.out.trans (HB6.out.mono hz5))
           clear HOL HB5 HB6)
        | (at_builtin
           refine appMine rfl (.tmp 12) (.tmp 19) rfl w.heap.size wr.heap.size u3 (t.take k) rfl (HOL2.out.alloc _) (w6.heap.size + 1) (some ⟨w6.heap.size, 0, none⟩) 1 (.slice A6 row.length c6) row rfl (row_lit w6 #[.slice A6 row.length c6] TI) w.heap.size (Nat.le_refl _) HRW.out HFR.out HL4.out (by simp; omega) ?_
           intro v7 w7 ho7 hg7 _
           have HB8 := Lib.hid (below_ownLL (HB7.out.alloc HB7.out.size _) (HOL2.out.own.alloc _) hg7)
           have HO7 := Lib.hid ho7
           clear ho7 hg7))
      go_roundw
      case rel => exact ⟨k + 1, by omega, by go_num, by rw [HT.out]; exact HO7.out, HB8.out⟩
      case measure => simp [intOf]; omega
    · have hki : ¬ (k : Int) < (q : Int) := by omega
      have hkq : t.take k = t := List.take_of_length_le (by rw [← HQ.out]; omega)
      rw [hkq] at HOL
      clear hkq
      go_wp2
      go_ret
      exact ⟨_, rfl, HOL.out, HB5.out⟩
end Go.Proofs.Ytkdffgcmnanniaa
