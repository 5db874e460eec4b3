/- Exact laws over rows of integers: equality. -/
import Derived.Test.YtmmabdioncgkoaaEI2
namespace Go.Proofs.Ytmmabdioncgkoaa
open Go.RowKit
theorem eqI_at (x : List Int) (A B : Option Addr) (n1 n2 c d : Nat) (h1 : n1 = x.length) (h2 : n2 = x.length) (hl : x.length ≤ maxLen) (w : World) (ha : Row w w.heap.size A (icells x)) (hb : Row w w.heap.size B (icells x)) :
    Calls Try.prog 27 #[.slice A n1 c, .slice B n2 d] w (QR (.bool true) w) := by
  obtain rfl : n2 = n1 := by omega
  have H1 := Lib.hid h1
  have hl2 : n2 ≤ 2 ^ 63 - 1 := by rw [h1]; exact hl
  clear h1 h2 hl
  go_enter Try.func27, Try.ntmps27
  go_wp2
  go_loopw [5] (fun i wr => ∃ k m : Nat, k ≤ n2 ∧ i = .int .i64 k ∧ wr = w.drewN m) (fun i _ => n2 - (intOf i).toNat)
  case atStart => exact ⟨0, 0, Nat.zero_le _, rfl, rfl⟩
  case round =>
    obtain ⟨k, m, hk, rfl, hw⟩ := hrel
    have HW := Lib.hid hw; clear hw
    by_cases hlt : k < n2
    · have hki : (k : Int) < (n2 : Int) := by omega
      obtain ⟨b, o, rfl, _, c0⟩ := ha.int_ k (by rw [← H1.out]; exact hlt)
      obtain ⟨b2, o2, rfl, _, c1⟩ := hb.int_ k (by rw [← H1.out]; exact hlt)
      have c0' : wr.cell? ⟨b, o + k, none⟩ = some (.int .i64 (x.getD k 0)) := by rw [HW.out]; exact c0
      have c1' : wr.cell? ⟨b2, o2 + k, none⟩ = some (.int .i64 (x.getD k 0)) := by rw [HW.out]; exact c1
      clear c0 c1 ha hb
      generalize x.getD k 0 = y at *
      go_wp2
      go_quiet (fail)
      go_wp2
      go_roundw
      case rel => exact ⟨k + 1, m + nq, by omega, by go_num, by rw [HW.out, World.drewN_drewN]⟩
      case measure => simp [intOf]; omega
    · go_wp2
      go_ret
      exact ⟨rfl, m, HW.out⟩
theorem eqR_at (ll : List (List Int)) (A B : Option Addr) (n1 n2 c d : Nat) (h1 : n1 = ll.length) (h2 : n2 = ll.length) (hl : ll.length ≤ maxLen) (w : World) (ha : LL w w.heap.size A ll) (hb : LL w w.heap.size B ll) :
    Calls Try.prog 16 #[.slice A n1 c, .slice B n2 d] w (QR (.bool true) w) := by
  obtain rfl : n2 = n1 := by omega
  have H1 := Lib.hid h1
  have hl2 : n2 ≤ 2 ^ 63 - 1 := by rw [h1]; exact hl
  clear h1 h2 hl
  go_enter Try.func16, Try.ntmps16
  go_wp2
  go_loopw [5] (fun i wr => ∃ k m : Nat, k ≤ n2 ∧ i = .int .i64 k ∧ wr = w.drewN m) (fun i _ => n2 - (intOf i).toNat)
  case atStart => exact ⟨0, 0, Nat.zero_le _, rfl, rfl⟩
  case round =>
    obtain ⟨k, m, hk, rfl, hw⟩ := hrel
    have HW := Lib.hid hw; clear hw
    by_cases hlt : k < n2
    · have hki : (k : Int) < (n2 : Int) := by omega
      obtain ⟨b, o, Ai, ci, rfl, _, c0, g1, g2, r0⟩ := ha.at_ k (by rw [← H1.out]; exact hlt)
      obtain ⟨b2, o2, Aj, cj, rfl, _, c1, g3, g4, r1⟩ := hb.at_ k (by rw [← H1.out]; exact hlt)
      have c0' : wr.cell? ⟨b, o + k, none⟩ = some (.slice Ai (ll.getD k []).length ci) := by rw [HW.out]; exact c0
      have c1' : wr.cell? ⟨b2, o2 + k, none⟩ = some (.slice Aj (ll.getD k []).length cj) := by rw [HW.out]; exact c1
      have r0' : Row wr wr.heap.size Ai (icells (ll.getD k [])) := by rw [HW.out]; exact r0
      have r1' : Row wr wr.heap.size Aj (icells (ll.getD k [])) := by rw [HW.out]; exact r1
      have HLN := Lib.hid (Nat.le_trans g1 g2)
      clear c0 c1 ha hb r0 r1 g1 g2 g3 g4
      generalize ll.getD k [] = x at *
      obtain ⟨nx, hnx⟩ : ∃ nx, x.length = nx := ⟨_, rfl⟩
      rw [hnx] at c0' c1'
      have HNX := Lib.hid hnx; clear hnx
      go_wp2
      go_quiet ((go_at_call 27; refine Calls.quiet_of (eqI_at x _ _ nx nx _ _ HNX.out.symm HNX.out.symm HLN.out _ ?_ ?_); exact r0'; exact r1'))
      go_wp2
      go_roundw
      case rel => exact ⟨k + 1, m + nq, by omega, by go_num, by rw [HW.out, World.drewN_drewN]⟩
      case measure => simp [intOf]; omega
    · go_wp2
      go_ret
      exact ⟨rfl, m, HW.out⟩
theorem eqR_below (ll : List (List Int)) (A B : Option Addr) (n c d : Nat) (h1 : n = ll.length) (hl : ll.length ≤ maxLen) (w : World) (ha : LL w w.heap.size A ll) (hb : LL w w.heap.size B ll) :
    Calls Try.prog 16 #[.slice A n c, .slice B n d] w fun e w' => e = .returned (.bool true) ∧ Below w.heap.size w w' :=
  (eqR_at ll A B n n c d h1 h1 hl w ha hb).mono fun e w' ⟨he, m, hw⟩ => ⟨he, by rw [hw]; exact below_draws (Below.refl _ _) m⟩
theorem szOf_no {ll : List (List Int)} (h : fits ll = false) : szOf ll = -1 := by simp [szOf, h]
theorem szOf_yes {ll : List (List Int)} (h : fits ll = true) : 0 ≤ szOf ll ∧ szOf ll ≤ 1048576 := by
  have h2 : ll.length + tot ll ≤ 1048576 := by simpa [fits] using h
  rw [szOf, if_pos h]; omega
theorem Mine.ll {w : World} {B T : Nat} {A : Option Addr} {n c : Nat} {ll : List (List Int)} (h : Mine w B T (.slice A n c) ll) : LL w w.heap.size A ll := by
  obtain ⟨A', c', hv, _, _, hl⟩ := h.own.form
  injection hv with e1 e2 e3
  subst e1
  exact hl
end Go.Proofs.Ytmmabdioncgkoaa
