/- Masks in memory, by their value: what exact laws ask of them. -/
import Derived.Test.YtofnhiigojlmbaaXR
import Derived.Test.YtofnhiigojlmbaaXC
import Derived.Test.YtofnhiigojlmbaaMW
import Derived.Test.YtofnhiigojlmbaaTM2
namespace Go.Proofs.Ytofnhiigojlmbaa
open Go.RowKit
/-- A row anew, in one block of its own. -/
def CopiedB (x : List Bool) (n : Nat) (w : World) (e : Ending) (w' : World) : Prop := ∃ g, e = .returned (.slice (some ⟨g, 0, none⟩) n n) ∧ w.heap.size ≤ g ∧ Own1 TBo w' w.heap.size (.slice (some ⟨g, 0, none⟩) n n) (bcells x) ∧ Below w.heap.size w w'
def totM (ll : List (List Bool)) : Nat := (ll.map List.length).sum
theorem totM_take (ll : List (List Bool)) (k : Nat) (hk : k < ll.length) : totM (ll.take (k + 1)) = totM (ll.take k) + (ll.getD k []).length := by
  unfold totM
  rw [List.take_succ_eq_append_getElem hk, List.map_append, List.sum_append, List.getD_eq_getElem?_getD, List.getElem?_eq_getElem hk]; simp
theorem totM_le (ll : List (List Bool)) (k : Nat) : totM (ll.take k) ≤ totM ll := by
  have h : totM ll = totM (ll.take k) + totM (ll.drop k) := by unfold totM; rw [← List.sum_append, ← List.map_append, List.take_append_drop]
  omega
theorem totM_at (ll : List (List Bool)) (k : Nat) (hk : k < ll.length) : (ll.getD k []).length ≤ totM ll := by
  have h1 := totM_take ll k hk
  have h2 := totM_le ll (k + 1)
  omega
def fitsM (ll : List (List Bool)) : Bool := decide (ll.length + totM ll ≤ 1048576)
theorem eqB_at (x : List Bool) (A B : Option Addr) (n1 n2 c d : Nat) (h1 : n1 = x.length) (h2 : n2 = x.length) (hl : x.length ≤ maxLen) (w : World) (ha : Row w w.heap.size A (bcells x)) (hb : Row w w.heap.size B (bcells x)) :
    Calls Try.prog 58 #[.slice A n1 c, .slice B n2 d] w (QR (.bool true) w) := by
  obtain rfl : n2 = n1 := by omega
  have H1 := Lib.hid h1
  have hl2 : n2 ≤ 2 ^ 63 - 1 := by rw [h1]; exact hl
  clear h1 h2 hl
  go_enter Try.func58, Try.ntmps58
  go_wp2
  go_loopw [5] (fun i wr => ∃ k m : Nat, k ≤ n2 ∧ i = .int .i64 k ∧ wr = w.drewN m) (fun i _ => n2 - (intOf i).toNat)
  case atStart => exact ⟨0, 0, Nat.zero_le _, rfl, rfl⟩
  case round =>
    obtain ⟨k, m, hk, rfl, hw⟩ := hrel
    have HW := Lib.hid hw; clear hw
    by_cases hlt : k < n2
    · have hki : (k : Int) < (n2 : Int) := by omega
      obtain ⟨b, o, rfl, _, c0⟩ := ha.bool_ k (by rw [← H1.out]; exact hlt)
      obtain ⟨b2, o2, rfl, _, c1⟩ := hb.bool_ k (by rw [← H1.out]; exact hlt)
      have c0' : wr.cell? ⟨b, o + k, none⟩ = some (.bool (x.getD k false)) := by rw [HW.out]; exact c0
      have c1' : wr.cell? ⟨b2, o2 + k, none⟩ = some (.bool (x.getD k false)) := by rw [HW.out]; exact c1
      clear c0 c1 ha hb
      generalize x.getD k false = y at *
      go_wp2
      go_quiet (fail)
      go_wp2
      go_roundw
      case rel => exact ⟨k + 1, m + nq, by omega, by go_num, by rw [HW.out, World.drewN_drewN]⟩
      case measure => simp [intOf]; omega
    · go_wp2
      go_ret
      exact ⟨rfl, m, HW.out⟩
theorem eqM_at (ll : List (List Bool)) (A B : Option Addr) (n1 n2 c d : Nat) (h1 : n1 = ll.length) (h2 : n2 = ll.length) (hl : ll.length ≤ maxLen) (w : World) (ha : LB w w.heap.size A ll) (hb : LB w w.heap.size B ll) :
    Calls Try.prog 36 #[.slice A n1 c, .slice B n2 d] w (QR (.bool true) w) := by
  obtain rfl : n2 = n1 := by omega
  have H1 := Lib.hid h1
  have hl2 : n2 ≤ 2 ^ 63 - 1 := by rw [h1]; exact hl
  clear h1 h2 hl
  go_enter Try.func36, Try.ntmps36
  go_wp2
  go_loopw [5] (fun i wr => ∃ k m : Nat, k ≤ n2 ∧ i = .int .i64 k ∧ wr = w.drewN m) (fun i _ => n2 - (intOf i).toNat)
  case atStart => exact ⟨0, 0, Nat.zero_le _, rfl, rfl⟩
  case round =>
    obtain ⟨k, m, hk, rfl, hw⟩ := hrel
    have HW := Lib.hid hw; clear hw
    by_cases hlt : k < n2
    · have hki : (k : Int) < (n2 : Int) := by omega
      obtain ⟨b, o, Ai, ci, rfl, _, c0, g1, g2, r0⟩ := ha.at_ k (by rw [← H1.out]; exact hlt)
      obtain ⟨b2, o2, Aj, cj, rfl, _, c1, g3, g4, r1⟩ := hb.at_ k (by rw [← H1.out]; exact hlt)
      have c0' : wr.cell? ⟨b, o + k, none⟩ = some (.slice Ai (ll.getD k []).length ci) := by rw [HW.out]; exact c0
      have c1' : wr.cell? ⟨b2, o2 + k, none⟩ = some (.slice Aj (ll.getD k []).length cj) := by rw [HW.out]; exact c1
      have r0' : Row wr wr.heap.size Ai (bcells (ll.getD k [])) := by rw [HW.out]; exact r0
      have r1' : Row wr wr.heap.size Aj (bcells (ll.getD k [])) := by rw [HW.out]; exact r1
      have HLN := Lib.hid (Nat.le_trans g1 g2)
      clear c0 c1 ha hb r0 r1 g1 g2 g3 g4
      generalize ll.getD k [] = x at *
      obtain ⟨nx, hnx⟩ : ∃ nx, x.length = nx := ⟨_, rfl⟩
      rw [hnx] at c0' c1'
      have HNX := Lib.hid hnx; clear hnx
      go_wp2
      go_quiet ((go_at_call 58; refine Calls.quiet_of (eqB_at x _ _ nx nx _ _ HNX.out.symm HNX.out.symm HLN.out _ ?_ ?_); exact r0'; exact r1'))
      go_wp2
      go_roundw
      case rel => exact ⟨k + 1, m + nq, by omega, by go_num, by rw [HW.out, World.drewN_drewN]⟩
      case measure => simp [intOf]; omega
    · go_wp2
      go_ret
      exact ⟨rfl, m, HW.out⟩
theorem eqM_below (ll : List (List Bool)) (A B : Option Addr) (n c d : Nat) (h1 : n = ll.length) (hl : ll.length ≤ maxLen) (w : World) (ha : LB w w.heap.size A ll) (hb : LB w w.heap.size B ll) :
    Calls Try.prog 36 #[.slice A n c, .slice B n d] w fun e w' => e = .returned (.bool true) ∧ Below w.heap.size w w' :=
  (eqM_at ll A B n n c d h1 h1 hl w ha hb).mono fun e w' ⟨he, m, hw⟩ => ⟨he, by rw [hw]; exact below_draws (Below.refl _ _) m⟩
theorem eqM_is (ll : List (List Bool)) (v u : Value) (w : World) (h1 : IsM w v ll) (h2 : IsM w u ll) :
    Calls Try.prog 36 #[v, u] w (Back (.bool true) w) := by
  obtain ⟨A, c, rfl, g1, g2, h3⟩ := h1
  obtain ⟨A2, c2, rfl, _, _, h4⟩ := h2
  exact eqM_below ll A A2 _ c c2 rfl (Nat.le_trans g1 g2) w h3 h4

theorem eqM_arg (ll : Mk) (v u : Value) (_hl : ll.length + totM ll ≤ 1048576) (w : World) (h1 : IsM w v ll) (h2 : IsM w u ll) : Calls Try.prog 36 #[v, u] w (Back (.bool true) w) := eqM_is ll v u w h1 h2
end Go.Proofs.Ytofnhiigojlmbaa
