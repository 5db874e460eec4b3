/- The laws' helpers of chapter 11. -/
import Derived.Test.YtflelekpcbmmbaaTS7
namespace Go.Proofs.Ytflelekpcbmmbaa
open Go.RowKit
theorem take_snocK (t : Mk) (k : Nat) (hk : k < t.length) : t.take (k + 1) = t.take k ++ [t.getD k []] := by
  rw [List.take_succ_eq_append_getElem hk, getD_of _ _ hk]
theorem sameInts_at (x : List Int) (A B : Option Addr) (n1 n2 c d : Nat) (h1 : n1 = x.length) (h2 : n2 = x.length) (hl : x.length ≤ maxLen) (w : World) (ha : Row w w.heap.size A (icells x)) (hb : Row w w.heap.size B (icells x)) :
    Calls Try.prog 25 #[.slice A n1 c, .slice B n2 d] w (QR (.bool true) w) := by
  obtain rfl : n2 = n1 := by omega
  have H1 := Lib.hid h1
  have hl2 : n2 ≤ 2 ^ 63 - 1 := by rw [h1]; exact hl
  clear h1 h2 hl
  go_enter Try.func25, Try.ntmps25
  go_wp2
  go_loopw [5] (fun i wr => ∃ k m : Nat, k ≤ n2 ∧ i = .int .i64 k ∧ wr = w.drewN m) (fun i _ => n2 - (intOf i).toNat)
  case atStart => exact ⟨0, 0, Nat.zero_le _, rfl, rfl⟩
  case round =>
    obtain ⟨k, m, hk, rfl, hw⟩ := hrel
    have HW := Lib.hid hw; clear hw
    by_cases hlt : k < n2
    · have hki : (k : Int) < (n2 : Int) := by omega
      obtain ⟨b, o, rfl, _, c0⟩ := ha.int_ k (by rw [← H1.out]; exact hlt)
      obtain ⟨b2, o2, rfl, _, c1⟩ := hb.int_ k (by rw [← H1.out]; exact hlt)
      have c0' : wr.cell? ⟨b, o + k, none⟩ = some (.int .i64 (x.getD k 0)) := by rw [HW.out]; exact c0
      have c1' : wr.cell? ⟨b2, o2 + k, none⟩ = some (.int .i64 (x.getD k 0)) := by rw [HW.out]; exact c1
      clear c0 c1 ha hb
      generalize x.getD k 0 = y at *
      go_wp2
      go_quiet (fail)
      go_wp2
      go_roundw
      case rel => exact ⟨k + 1, m + nq, by omega, by go_num, by rw [HW.out, World.drewN_drewN]⟩
      case measure => simp [intOf]; omega
    · go_wp2
      go_ret
      exact ⟨rfl, m, HW.out⟩
theorem sameRows_at (ll : List (List Int)) (A B : Option Addr) (n1 n2 c d : Nat) (h1 : n1 = ll.length) (h2 : n2 = ll.length) (hl : ll.length ≤ maxLen) (w : World) (ha : LL w w.heap.size A ll) (hb : LL w w.heap.size B ll) :
    Calls Try.prog 11 #[.slice A n1 c, .slice B n2 d] w (QR (.bool true) w) := by
  obtain rfl : n2 = n1 := by omega
  have H1 := Lib.hid h1
  have hl2 : n2 ≤ 2 ^ 63 - 1 := by rw [h1]; exact hl
  clear h1 h2 hl
  go_enter Try.func11, Try.ntmps11
  go_wp2
  go_loopw [5] (fun i wr => ∃ k m : Nat, k ≤ n2 ∧ i = .int .i64 k ∧ wr = w.drewN m) (fun i _ => n2 - (intOf i).toNat)
  case atStart => exact ⟨0, 0, Nat.zero_le _, rfl, rfl⟩
  case round =>
    obtain ⟨k, m, hk, rfl, hw⟩ := hrel
    have HW := Lib.hid hw; clear hw
    by_cases hlt : k < n2
    · have hki : (k : Int) < (n2 : Int) := by omega
      obtain ⟨b, o, Ai, ci, rfl, _, c0, g1, g2, r0⟩ := ha.at_ k (by rw [← H1.out]; exact hlt)
      obtain ⟨b2, o2, Aj, cj, rfl, _, c1, g3, g4, r1⟩ := hb.at_ k (by rw [← H1.out]; exact hlt)
      have c0' : wr.cell? ⟨b, o + k, none⟩ = some (.slice Ai (ll.getD k []).length ci) := by rw [HW.out]; exact c0
      have c1' : wr.cell? ⟨b2, o2 + k, none⟩ = some (.slice Aj (ll.getD k []).length cj) := by rw [HW.out]; exact c1
      have r0' : Row wr wr.heap.size Ai (icells (ll.getD k [])) := by rw [HW.out]; exact r0
      have r1' : Row wr wr.heap.size Aj (icells (ll.getD k [])) := by rw [HW.out]; exact r1
      have HLN := Lib.hid (Nat.le_trans g1 g2)
      clear c0 c1 ha hb r0 r1 g1 g2 g3 g4
      generalize ll.getD k [] = x at *
      obtain ⟨nx, hnx⟩ : ∃ nx, x.length = nx := ⟨_, rfl⟩
      rw [hnx] at c0' c1'
      have HNX := Lib.hid hnx; clear hnx
      go_wp2
      go_quiet ((go_at_call 25; refine Calls.quiet_of (sameInts_at x _ _ nx nx _ _ HNX.out.symm HNX.out.symm HLN.out _ ?_ ?_); exact r0'; exact r1'))
      go_wp2
      go_roundw
      case rel => exact ⟨k + 1, m + nq, by omega, by go_num, by rw [HW.out, World.drewN_drewN]⟩
      case measure => simp [intOf]; omega
    · go_wp2
      go_ret
      exact ⟨rfl, m, HW.out⟩
theorem qr_back {g : Value} {w : World} {e : Ending} {w' : World} (h : QR g w e w') : e = .returned g ∧ Below w.heap.size w w' := by
  obtain ⟨he, m, rfl⟩ := h
  exact ⟨he, ⟨rfl, rfl, rfl, Nat.le_refl _, fun _ _ => rfl⟩⟩
theorem lRows_is (W : World) (l : List (List Int)) (v : Value) (hv : IsR W v l) (u : Value) (hu : IsR W u l) (w : World) (hb : Below W.heap.size W w) :
    Calls Try.prog 11 #[v, u] w (Back (.bool true) W) := by
  obtain ⟨A, c, rfl, h1, h2, h3⟩ := hv.below hb
  obtain ⟨B, d, rfl, _, _, k3⟩ := hu.below hb
  refine (sameRows_at l A B l.length l.length c d rfl rfl (Nat.le_trans h1 h2) w h3 k3).mono ?_
  intro e w' h
  obtain ⟨he, hw⟩ := qr_back h
  exact ⟨he, hb.trans (hw.mono hb.size)⟩
theorem lInts_is (W : World) (l : List Int) (v : Value) (hv : IsI W v l) (u : Value) (hu : IsI W u l) (w : World) (hb : Below W.heap.size W w) :
    Calls Try.prog 25 #[v, u] w (Back (.bool true) W) := by
  obtain ⟨A, c, rfl, h1, h2, h3⟩ := hv.below hb
  obtain ⟨B, d, rfl, _, _, k3⟩ := hu.below hb
  refine (sameInts_at l A B l.length l.length c d rfl rfl (Nat.le_trans h1 h2) w h3 k3).mono ?_
  intro e w' h
  obtain ⟨he, hw⟩ := qr_back h
  exact ⟨he, hb.trans (hw.mono hb.size)⟩
theorem sum_snocL (x : List Int) (k : Nat) (hk : k < x.length) : (x.take (k + 1)).sum = (x.take k).sum + x.getD k 0 := by
  rw [List.take_succ_eq_append_getElem hk, List.sum_append, getD_of _ _ hk]; simp
theorem sum_bdL : ∀ x : List Int, (∀ y ∈ x, 0 ≤ y ∧ y ≤ 1000000) → 0 ≤ x.sum ∧ x.sum ≤ 1000000 * (x.length : Int)
  | [], _ => by simp
  | a :: x, h => by
    have h1 := h a (by simp)
    have h2 := sum_bdL x fun y hy => h y (List.mem_cons_of_mem _ hy)
    rw [List.sum_cons, List.length_cons]
    omega
theorem lSum_is (W : World) (x : List Int) (v : Value) (hv : IsI W v x) (h0 : ∀ y ∈ x, 0 ≤ y ∧ y ≤ 1000000) (hl : x.length ≤ 1000) (s : Int) (hs : x.sum = s) (w : World) (hb : Below W.heap.size W w) :
    Calls Try.prog 15 #[v] w (Back (.int .i64 s) W) := by
  obtain ⟨A, c, rfl, _, _, hr⟩ := hv.below hb
  obtain ⟨q, hq⟩ : ∃ q, q = x.length := ⟨_, rfl⟩
  have HQ := Lib.hid hq
  have HS := Lib.hid hs
  have HB := Lib.hid hb
  have HBD := Lib.hid (show ∀ k, k ≤ q → 0 ≤ (x.take k).sum ∧ (x.take k).sum ≤ 1000000000 from fun k hk => by
    have h := sum_bdL (x.take k) fun y hy => h0 y (List.mem_of_mem_take hy)
    have : (x.take k).length ≤ 1000 := by rw [List.length_take]; omega
    omega)
  rw [← hq] at hl ⊢
  clear hv hb hs hq h0
  go_enter Try.func15, Try.ntmps15
  go_wp2
  go_loopw [3, 4] (fun n i wr => ∃ k : Nat, k ≤ q ∧ i = .int .i64 k ∧ n = .int .i64 (x.take k).sum ∧ wr = w) (fun _ i _ => q - (intOf i).toNat)
  case atStart => exact ⟨0, Nat.zero_le _, rfl, by simp, rfl⟩
  case round =>
    obtain ⟨k, hk, rfl, rfl, rfl⟩ := hrel
    by_cases hlt : k < q
    · have hki : (k : Int) < (q : Int) := by omega
      obtain ⟨b, o, rfl, _, c0⟩ := hr.int_ k (by rw [← HQ.out]; exact hlt)
      have h1 := HBD.out k hk
      have h2 := HBD.out (k + 1) hlt
      have hs1 := sum_snocL x k (by rw [← HQ.out]; exact hlt)
      rw [hs1] at h2
      have HS1 := Lib.hid hs1
      obtain ⟨y, hy⟩ : ∃ y, x.getD k 0 = y := ⟨_, rfl⟩
      obtain ⟨n, hn⟩ : ∃ n, (x.take k).sum = n := ⟨_, rfl⟩
      rw [hy] at c0 h2 HS1
      rw [hn] at h1 h2 HS1 ⊢
      clear hs1 hy hn hr
      go_wp2
      go_roundw
      case rel => exact ⟨k + 1, by omega, by go_num, by rw [HS1.out], trivial⟩
      case measure => simp [intOf]; omega
    · have hki : ¬ (k : Int) < (q : Int) := by omega
      have hx : (x.take k).sum = s := by rw [List.take_of_length_le (by rw [← HQ.out]; omega)]; exact HS.out
      rw [hx]
      clear hr
      go_wp2
      go_ret
      exact ⟨rfl, HB.out⟩
end Go.Proofs.Ytflelekpcbmmbaa
