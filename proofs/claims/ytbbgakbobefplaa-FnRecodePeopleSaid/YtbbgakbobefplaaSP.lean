/- samePeople, by values. -/
import Derived.Test.YtbbgakbobefplaaIP
namespace Go.Proofs.Ytbbgakbobefplaa
open Go.RowKit
theorem samePA (l : List Pn) (A B : Option Addr) (c d : Nat) (hl : l.length ≤ 1000000) (w : World) (ha : Row w w.heap.size A (pcells l)) (hb : Row w w.heap.size B (pcells l)) :
    Calls Try.prog 17 #[.slice A l.length c, .slice B l.length d] w fun e w' => e = .returned (.bool true) ∧ Below w.heap.size w w' := by
  go_enter Try.func17, Try.ntmps17
  go_wp2
  go_loopw [5] (fun i wr => ∃ k : Nat, k ≤ l.length ∧ i = .int .i64 k ∧ Below w.heap.size w wr) (fun i _ => l.length - (intOf i).toNat)
  case atStart => exact ⟨0, Nat.zero_le _, rfl, Below.refl _ _⟩
  case round =>
    obtain ⟨k, hk, rfl, h1⟩ := hrel
    by_cases hlt : k < l.length
    · obtain ⟨x, o, rfl, hx, c0, c1, c2, c3⟩ := (ha.below h1 (Nat.le_refl _)).at_ k hlt
      obtain ⟨y, u, rfl, hy, d0, d1, d2, d3⟩ := (hb.below h1 (Nat.le_refl _)).at_ k hlt
      have hki : (k : Int) < (l.length : Int) := by omega
      go_wp2
      go_quiet (fail)
      go_wp2
      go_roundw
      case rel => exact ⟨k + 1, by omega, by go_num, below_draws h1 _⟩
      case measure => simp [intOf]; omega
    · go_wp2
      go_ret
      exact ⟨rfl, h1⟩
theorem sameP_is (W : World) (l : List Pn) (v u : Value) (hl : l.length ≤ 1000000) (hv : IsP W v l) (hu : IsP W u l) (w : World) (hb : Below W.heap.size W w) :
    Calls Try.prog 17 #[v, u] w (Back (.bool true) W) := by
  obtain ⟨A, c, rfl, _, _, h3⟩ := hv
  obtain ⟨A2, c2, rfl, _, _, h4⟩ := hu
  exact (samePA l A A2 c c2 hl w (h3.moved hb) (h4.moved hb)).mono fun _ _ h => ⟨h.1, hb.trans (h.2.mono hb.size)⟩
end Go.Proofs.Ytbbgakbobefplaa
