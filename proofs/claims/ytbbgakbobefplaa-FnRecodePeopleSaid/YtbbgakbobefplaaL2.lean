import Derived.Test.YtbbgakbobefplaaL1
namespace Go.Proofs.Ytbbgakbobefplaa
open Go.RowKit
theorem sStep_any (x : List Int) (A : Option Addr) (c : Nat) (w : World) (hr : Row w w.heap.size A (icells x)) (hl : x.length ≤ maxLen) :
    Calls Try.prog 66 #[.slice A x.length c] w (QR (.bool (stepOk x)) w) := by
  unfold maxLen at hl
  go_enter Try.func66, Try.ntmps66
  go_wp2
  go_loopw [3] (fun i wr => ∃ k m : Nat, k ≤ x.length ∧ i = .int .i64 k ∧ (∀ j, j < k → stepAt x j = true) ∧ wr = w.drewN m) (fun i _ => x.length - (intOf i).toNat)
  case atStart => exact ⟨0, 0, Nat.zero_le _, rfl, by simp, rfl⟩
  case round =>
    obtain ⟨k, m, hk, rfl, hall, hw⟩ := hrel
    have HW := Lib.hid hw; clear hw
    have HALL := Lib.hid hall; clear hall
    by_cases hlt : k < x.length
    · have hki : (k : Int) < (x.length : Int) := by omega
      obtain ⟨b, o, rfl, hb, c0⟩ := hr.int_ k hlt
      obtain ⟨a, ha⟩ : ∃ a, x.getD k 0 = a := ⟨_, rfl⟩
      rw [ha] at c0
      have c0' : wr.cell? ⟨b, o + k, none⟩ = some (.int .i64 a) := by rw [HW.out]; exact c0
      have HA := Lib.hid ha; clear ha
      cases hin : in3 a 0 k
      · have HIN := Lib.hid hin; clear hin
        go_wp2_with fail
        go_quiet (first | (go_at_call 44; refine Calls.quiet_of (l6In_q _ _ _ false HIN.out _)))
        go_wp2
        go_ret
        refine ⟨retb ?_, m + nq, by rw [HW.out, World.drewN_drewN]⟩
        rw [stepOk, all_range_no k hlt (by rw [stepAt, HA.out, HIN.out]; rfl), Bool.and_false]
      · have hin2 : 0 ≤ a ∧ a ≤ k := by simpa [in3] using hin
        obtain ⟨v, hv⟩ := Int.eq_ofNat_of_zero_le hin2.1
        have hvk : v < x.length := by omega
        obtain ⟨b2, o2, hA2, _, c1⟩ := hr.int_ v hvk
        injection hA2 with hA2
        injection hA2 with h1 h2 _
        subst h1 h2
        have c1' : wr.cell? ⟨b, o + v, none⟩ = some (.int .i64 (x.getD v 0)) := by rw [HW.out]; exact c1
        have HIN := Lib.hid hin; clear hin
        have hst : stepAt x k = decide (x.getD v 0 = (v : Int)) := by rw [stepAt, HA.out, HIN.out, hv]; simp [ig]
        have HST := Lib.hid hst; clear hst
        rw [hv] at c0' hin2 HIN
        have hvi : (v : Int) < (x.length : Int) := by omega
        clear c0 c1 hv hr HA
        generalize x.getD v 0 = y at *
        by_cases hy : y = v
        · subst hy
          go_wp2_with fail
          go_quiet (first | (go_at_call 44; refine Calls.quiet_of (l6In_q _ _ _ true HIN.out _)))
          go_wp2
          go_roundw
          case rel =>
            refine ⟨k + 1, m + nq, by omega, by go_num, fun j hj => ?_, by rw [HW.out, World.drewN_drewN]⟩
            by_cases hjk : j < k
            · exact HALL.out j hjk
            · obtain rfl : j = k := by omega
              rw [HST.out]; simp
          case measure => simp [intOf]; omega
        · go_wp2_with fail
          go_quiet (first | (go_at_call 44; refine Calls.quiet_of (l6In_q _ _ _ true HIN.out _)))
          go_wp2
          go_ret
          refine ⟨retb ?_, m + nq, by rw [HW.out, World.drewN_drewN]⟩
          rw [stepOk, all_range_no k hlt (by rw [HST.out]; simp [hy]), Bool.and_false]
    · go_wp2
      go_ret
      refine ⟨retb ?_, m, HW.out⟩
      rw [stepOk, all_range.2 fun j hj => HALL.out j (by omega), Bool.and_true]
      rw [Bool.eq_iff_iff]; simp; omega
theorem sCoarser_any (f x : List Int) (hf : stepOk f = true) (hx : stepOk x = true) (A B : Option Addr) (n1 n2 c d : Nat) (h1 : n1 = f.length) (h2 : n2 = x.length) (w : World) (ha : Row w w.heap.size A (icells f)) (hb : Row w w.heap.size B (icells x)) :
    Calls Try.prog 67 #[.slice A n1 c, .slice B n2 d] w (QR (.bool (coarser f x)) w) := by
  obtain ⟨hf1, hf2⟩ := stepOk_vals hf
  obtain ⟨hx1, hx2⟩ := stepOk_vals hx
  rw [hf1] at h1
  rw [hx1] at h2
  subst h1 h2
  have HF := Lib.hid hf2; clear hf2
  go_enter Try.func67, Try.ntmps67
  go_wp2
  go_loopw [5] (fun i wr => ∃ k m : Nat, k ≤ 4 ∧ i = .int .i64 k ∧ (∀ j, j < k → cAt f x j = true) ∧ wr = w.drewN m) (fun i _ => 4 - (intOf i).toNat)
  case atStart => exact ⟨0, 0, Nat.zero_le _, rfl, by simp, rfl⟩
  case round =>
    obtain ⟨k, m, hk, rfl, hall, hw⟩ := hrel
    have HW := Lib.hid hw; clear hw
    have HALL := Lib.hid hall; clear hall
    by_cases hlt : k < 4
    · have hki : (k : Int) < 4 := by omega
      obtain ⟨b, o, rfl, _, c0⟩ := ha.int_ k (by omega)
      obtain ⟨v, hv, hvk, _⟩ := HF.out k hlt
      rw [hv] at c0
      obtain ⟨b2, o2, rfl, _, c1⟩ := hb.int_ v (by omega)
      obtain ⟨b3, o3, hA3, _, c2⟩ := hb.int_ k (by omega)
      injection hA3 with hA3
      injection hA3 with e1 e2 _
      subst e1 e2
      have hst : cAt f x k = decide (x.getD v 0 = x.getD k 0) := by rw [cAt, hv]; simp [ig]
      have HST := Lib.hid hst; clear hst
      have c0' : wr.cell? ⟨b, o + k, none⟩ = some (.int .i64 v) := by rw [HW.out]; exact c0
      have c1' : wr.cell? ⟨b2, o2 + v, none⟩ = some (.int .i64 (x.getD v 0)) := by rw [HW.out]; exact c1
      have c2' : wr.cell? ⟨b2, o2 + k, none⟩ = some (.int .i64 (x.getD k 0)) := by rw [HW.out]; exact c2
      have hv4 : (v : Int) < 4 := by omega
      clear c0 c1 c2 hv ha hb hf hx
      generalize x.getD v 0 = y at *
      generalize x.getD k 0 = z at *
      clear hf1 hx1
      by_cases hy : y = z
      · subst hy
        go_wp2_with fail
        go_quiet (fail)
        go_wp2
        go_roundw
        case rel =>
          refine ⟨k + 1, m + nq, by omega, by go_num, fun j hj => ?_, by rw [HW.out, World.drewN_drewN]⟩
          by_cases hjk : j < k
          · exact HALL.out j hjk
          · obtain rfl : j = k := by omega
            rw [HST.out]; simp
        case measure => simp [intOf]; omega
      · have hyd : (y == z) = false := by rw [beq_eq_false_iff_ne]; exact hy
        have hyd2 : (y != z) = true := by rw [bne_iff_ne]; exact hy
        go_wp2_with fail
        go_quiet (fail)
        go_wp2
        go_ret
        refine ⟨retb ?_, m + nq, by rw [HW.out, World.drewN_drewN]⟩
        rw [coarser, all_range_no k hlt (by rw [HST.out]; simp [hy])]
    · go_wp2
      go_ret
      refine ⟨retb ?_, m, HW.out⟩
      rw [coarser, all_range.2 fun j hj => HALL.out j (by omega)]
theorem sStep_at (x : List Int) (n : Nat) (hn : n = x.length) (A : Option Addr) (c : Nat) (w : World) (hr : Row w w.heap.size A (icells x)) (hl : x.length ≤ maxLen) (t : Bool) (ht : stepOk x = t) :
    Calls Try.prog 66 #[.slice A n c] w (QR (.bool t) w) := by subst hn ht; exact sStep_any x A c w hr hl
theorem sCoarser_at (f x : List Int) (hf : stepOk f = true) (hx : stepOk x = true) (A B : Option Addr) (n1 n2 c d : Nat) (h1 : n1 = f.length) (h2 : n2 = x.length) (w : World) (ha : Row w w.heap.size A (icells f)) (hb : Row w w.heap.size B (icells x)) (t : Bool) (ht : coarser f x = t) :
    Calls Try.prog 67 #[.slice A n1 c, .slice B n2 d] w (QR (.bool t) w) := by subst ht; exact sCoarser_any f x hf hx A B n1 n2 c d h1 h2 w ha hb
end Go.Proofs.Ytbbgakbobefplaa
