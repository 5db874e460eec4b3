import Derived.Test.YtbbgakbobefplaaL2
namespace Go.Proofs.Ytbbgakbobefplaa
open Go.RowKit
theorem sLadder_any (ll : List (List Int)) (A : Option Addr) (c : Nat) (w : World) (hr : LL w w.heap.size A ll) (hl : ll.length ≤ maxLen) :
    Calls Try.prog 63 #[.slice A ll.length c] w (QR (.bool (ladOk ll)) w) := by
  unfold maxLen at hl
  go_enter Try.func63, Try.ntmps63
  go_wp2
  go_loopw [3] (fun i wr => ∃ k m : Nat, k ≤ ll.length ∧ i = .int .i64 k ∧ (∀ j, j < k → rungAt ll j = true) ∧ wr = w.drewN m) (fun i _ => ll.length - (intOf i).toNat)
  case atStart => exact ⟨0, 0, Nat.zero_le _, rfl, by simp, rfl⟩
  case round =>
    obtain ⟨k, m, hk, rfl, hall, hw⟩ := hrel
    have HW := Lib.hid hw; clear hw
    have HALL := Lib.hid hall; clear hall
    by_cases hlt : k < ll.length
    · have hki : (k : Int) < (ll.length : Int) := by omega
      obtain ⟨b, o, Ai, ci, rfl, hb, c0, h1, h2, r0⟩ := hr.at_ k hlt
      have c0' : wr.cell? ⟨b, o + k, none⟩ = some (.slice Ai (ll.getD k []).length ci) := by rw [HW.out]; exact c0
      clear c0
      have r0' : Row wr wr.heap.size Ai (icells (ll.getD k [])) := by rw [HW.out]; exact r0
      obtain ⟨x, hx⟩ : ∃ x, ll.getD k [] = x := ⟨_, rfl⟩
      have hxl : (ll.getD k []).length ≤ maxLen := by omega
      rw [hx] at c0' r0' hxl
      have HX := Lib.hid hx; clear hx
      obtain ⟨n, hn⟩ : ∃ n, n = x.length := ⟨_, rfl⟩
      rw [← hn] at c0'
      have HN := Lib.hid hn; clear hn
      clear r0
      cases hst : stepOk x
      · have HST := Lib.hid hst; clear hst
        go_wp2_with fail
        go_quiet (first | (go_at_call 66; refine Calls.quiet_of (sStep_at x n HN.out _ _ _ ?_ hxl false HST.out); exact r0'))
        go_wp2
        go_ret
        refine ⟨retb ?_, m + nq, by rw [HW.out, World.drewN_drewN]⟩
        rw [ladOk, all_range_no k hlt (by rw [rungAt, HX.out, HST.out]; rfl), Bool.and_false]
      · have HST := Lib.hid hst; clear hst
        by_cases hk0 : k = 0
        · subst hk0
          have c00 : wr.cell? ⟨b, o, none⟩ = some (.slice Ai n ci) := by simpa using c0'
          have h00 : (0 : Int) < (ll.length : Int) := by omega
          have h01 : 0 < ll.length := hlt
          go_wp2_with fail
          go_quiet (first | (go_at_call 66; refine Calls.quiet_of (sStep_at x n HN.out _ _ _ ?_ hxl true HST.out); exact r0'))
          go_wp2
          go_roundw
          case rel =>
            refine ⟨1, m + nq, by omega, by go_num, fun j hj => ?_, by rw [HW.out, World.drewN_drewN]⟩
            obtain rfl : j = 0 := by omega
            rw [rungAt, HX.out, HST.out]; rfl
          case measure => simp [intOf]; omega
        · obtain ⟨q, rfl⟩ : ∃ q, k = q + 1 := ⟨k - 1, by omega⟩
          obtain ⟨b', o', Ag, cg, hA, _, c1, g1, g2, r1⟩ := hr.at_ q (by omega)
          injection hA with hA
          injection hA with e1 e2 _
          subst e1 e2
          have c1' : wr.cell? ⟨b, o + q, none⟩ = some (.slice Ag (ll.getD q []).length cg) := by rw [HW.out]; exact c1
          have r1' : Row wr wr.heap.size Ag (icells (ll.getD q [])) := by rw [HW.out]; exact r1
          have hq := HALL.out q (by omega)
          simp only [rungAt, Bool.and_eq_true] at hq
          obtain ⟨f, hf⟩ : ∃ f, ll.getD q [] = f := ⟨_, rfl⟩
          have hfo := hq.1
          rw [hf] at c1' r1' hfo
          have HF := Lib.hid hf
          obtain ⟨n2, hn2⟩ : ∃ n2, n2 = f.length := ⟨_, rfl⟩
          rw [← hn2] at c1'
          have HN2 := Lib.hid hn2
          have HFO := Lib.hid hfo
          clear hn2 hfo hf hq c1 r1 hk0 hr
          have hq0 : (0 : Int) < ((q + 1 : Nat) : Int) := by omega
          have hwr : IntKind.i64.wrap (((q + 1 : Nat) : Int) - 1) = (q : Int) := by rw [IntWalk.i64_in _ (by omega)]; omega
          cases hco : coarser f x
          · have HCO := Lib.hid hco; clear hco
            go_wp2_with fail
            go_quiet (first
              | (go_at_call 66; refine Calls.quiet_of (sStep_at x n HN.out _ _ _ ?_ hxl true HST.out); exact r0')
              | (go_at_call 67; refine Calls.quiet_of (sCoarser_at f x HFO.out HST.out _ _ n2 n _ _ HN2.out HN.out _ ?_ ?_ false HCO.out); exact r1'; exact r0'))
            clear hwr
            go_wp2
            go_ret
            refine ⟨retb ?_, m + nq, by rw [HW.out, World.drewN_drewN]⟩
            rw [ladOk, all_range_no (q + 1) hlt (by rw [rungAt, HX.out, HST.out, Nat.add_sub_cancel, HF.out, HCO.out]; simp), Bool.and_false]
          · have HCO := Lib.hid hco; clear hco
            go_wp2_with fail
            go_quiet (first
              | (go_at_call 66; refine Calls.quiet_of (sStep_at x n HN.out _ _ _ ?_ hxl true HST.out); exact r0')
              | (go_at_call 67; refine Calls.quiet_of (sCoarser_at f x HFO.out HST.out _ _ n2 n _ _ HN2.out HN.out _ ?_ ?_ true HCO.out); exact r1'; exact r0'))
            clear hwr
            go_wp2
            go_roundw
            case rel =>
              refine ⟨q + 2, m + nq, by omega, by go_num, fun j hj => ?_, by rw [HW.out, World.drewN_drewN]⟩
              by_cases hjk : j < q + 1
              · exact HALL.out j hjk
              · obtain rfl : j = q + 1 := by omega
                rw [rungAt, HX.out, HST.out, Nat.add_sub_cancel, HF.out, HCO.out]; simp
            case measure => simp [intOf]; omega
    · go_wp2
      go_ret
      refine ⟨retb ?_, m, HW.out⟩
      rw [ladOk, all_range.2 fun j hj => HALL.out j (by omega), Bool.and_true]
      rw [Bool.eq_iff_iff]; simp; try omega
end Go.Proofs.Ytbbgakbobefplaa
