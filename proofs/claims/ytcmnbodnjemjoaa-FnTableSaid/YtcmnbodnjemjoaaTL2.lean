/- The laws' helpers of chapter 11: masks compared. -/
import Derived.Test.YtcmnbodnjemjoaaTL1
namespace Go.Proofs.Ytcmnbodnjemjoaa
open Go.RowKit
set_option maxHeartbeats 2000000 in
theorem sameMask_at (ll : List (List Bool)) (A B : Option Addr) (n1 n2 c d : Nat) (h1 : n1 = ll.length) (h2 : n2 = ll.length) (hl : ll.length ≤ maxLen) (w : World) (ha : LB w w.heap.size A ll) (hb : LB w w.heap.size B ll) :
    Calls Try.prog 40 #[.slice A n1 c, .slice B n2 d] w (QR (.bool true) w) := by
  obtain rfl : n2 = n1 := by omega
  have H1 := Lib.hid h1
  have hl2 : n2 ≤ 2 ^ 63 - 1 := by rw [h1]; exact hl
  have HA := Lib.hid ha
  have HB := Lib.hid hb
  clear h1 h2 hl ha hb
  go_enter Try.func40, Try.ntmps40
  go_wp2
  go_loopw [5] (fun i wr => ∃ k m : Nat, k ≤ n2 ∧ i = .int .i64 k ∧ wr = w.drewN m) (fun i _ => n2 - (intOf i).toNat)
  case atStart => exact ⟨0, 0, Nat.zero_le _, rfl, rfl⟩
  case round =>
    obtain ⟨k, m, hk, rfl, hw⟩ := hrel
    have HW := Lib.hid hw; clear hw
    by_cases hlt : k < n2
    · have hki : (k : Int) < (n2 : Int) := by omega
      obtain ⟨b, o, Ai, ci, hA, _, c0, g1, g2, r0⟩ := HA.out.at_ k (by rw [← H1.out]; exact hlt)
      obtain ⟨b2, o2, Aj, cj, hB, _, c1, g3, g4, r1⟩ := HB.out.at_ k (by rw [← H1.out]; exact hlt)
      subst hA hB
      obtain ⟨x, hx⟩ : ∃ x, ll.getD k [] = x := ⟨_, rfl⟩
      rw [hx] at c0 c1 r0 r1 g1
      obtain ⟨nx, hnx⟩ : ∃ nx, x.length = nx := ⟨_, rfl⟩
      rw [hnx] at c0 c1 g1
      have hnx2 : nx ≤ 2 ^ 63 - 1 := Nat.le_trans g1 g2
      have HC0 := Lib.hid (show ∀ j, (w.drewN j).cell? ⟨b, o + k, none⟩ = some (.slice Ai nx ci) from fun j => c0)
      have HC1 := Lib.hid (show ∀ j, (w.drewN j).cell? ⟨b2, o2 + k, none⟩ = some (.slice Aj nx cj) from fun j => c1)
      have HR0 := Lib.hid r0
      have HR1 := Lib.hid r1
      have HNX := Lib.hid hnx
      clear g1 g2 g3 g4 c0 c1 r0 r1 hx hnx
      have c0' : wr.cell? ⟨b, o + k, none⟩ = some (.slice Ai nx ci) := by rw [HW.out]; exact HC0.out m
      have c1' : wr.cell? ⟨b2, o2 + k, none⟩ = some (.slice Aj nx cj) := by rw [HW.out]; exact HC1.out m
      go_wp2
      go_quiet (fail)
      go_wp2
      go_loopw [6] (fun j wr' => ∃ p m2 : Nat, p ≤ nx ∧ j = .int .i64 p ∧ wr' = w.drewN m2) (fun j _ => nx - (intOf j).toNat)
      case atStart => exact ⟨0, m + nq, Nat.zero_le _, rfl, by rw [HW.out, World.drewN_drewN]⟩
      case round =>
        obtain ⟨p, m2, hp, rfl, hw2⟩ := hrel
        clear c0' c1'
        have HW2 := Lib.hid hw2; clear hw2
        by_cases hpn : p < nx
        · have hpi : (p : Int) < (nx : Int) := by omega
          have c0' : wr.cell? ⟨b, o + k, none⟩ = some (.slice Ai nx ci) := by rw [HW2.out]; exact HC0.out m2
          have c1' : wr.cell? ⟨b2, o2 + k, none⟩ = some (.slice Aj nx cj) := by rw [HW2.out]; exact HC1.out m2
          obtain ⟨b3, o3, h3, _, e0⟩ := HR0.out.bool_ p (by rw [HNX.out]; exact hpn)
          obtain ⟨b4, o4, h4, _, e1⟩ := HR1.out.bool_ p (by rw [HNX.out]; exact hpn)
          subst h3 h4
          have e0' : wr.cell? ⟨b3, o3 + p, none⟩ = some (.bool (x.getD p false)) := by rw [HW2.out]; exact e0
          have e1' : wr.cell? ⟨b4, o4 + p, none⟩ = some (.bool (x.getD p false)) := by rw [HW2.out]; exact e1
          clear e0 e1
          generalize x.getD p false = y at *
          go_wp2
          go_quiet (fail)
          go_wp2
          go_roundw
          case rel => exact ⟨p + 1, m2 + nq, by omega, by go_num, by rw [HW2.out, World.drewN_drewN]⟩
          case measure => simp [intOf]; omega
        · have hpi : ¬ (p : Int) < (nx : Int) := by omega
          have c0' : wr.cell? ⟨b, o + k, none⟩ = some (.slice Ai nx ci) := by rw [HW2.out]; exact HC0.out m2
          go_wp2
          go_roundw
          case rel => exact ⟨k + 1, m2, by omega, by go_num, HW2.out⟩
          case measure => simp [intOf]; omega
    · have hki : ¬ (k : Int) < (n2 : Int) := by omega
      go_wp2
      go_ret
      exact ⟨rfl, m, HW.out⟩
theorem lMask_is (W : World) (l : List (List Bool)) (v : Value) (hv : IsM W v l) (u : Value) (hu : IsM W u l) (w : World) (hb : Below W.heap.size W w) :
    Calls Try.prog 40 #[v, u] w (Back (.bool true) W) := by
  obtain ⟨A, c, rfl, h1, h2, h3⟩ := hv.below hb
  obtain ⟨B, d, rfl, _, _, k3⟩ := hu.below hb
  refine (sameMask_at l A B l.length l.length c d rfl rfl (Nat.le_trans h1 h2) w h3 k3).mono ?_
  intro e w' h
  obtain ⟨he, hw⟩ := qr_back h
  exact ⟨he, hb.trans (hw.mono hb.size)⟩
end Go.Proofs.Ytcmnbodnjemjoaa
