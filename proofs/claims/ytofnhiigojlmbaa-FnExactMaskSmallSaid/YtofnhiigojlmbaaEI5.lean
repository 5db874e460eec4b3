/- Exact laws over rows of integers: marks are held. -/
import Derived.Test.YtofnhiigojlmbaaEI4
namespace Go.Proofs.Ytofnhiigojlmbaa
open Go.RowKit
theorem heldI_any (K n : Nat) (A : Option Addr) (c : Nat) (w : World) (hr : Row w w.heap.size A (icells (mk K n))) (hl : K + n ≤ 300000000) :
    Calls Try.prog 33 #[.slice A n c, .int .i64 K] w fun e w' => e = .returned (.int .i64 ((K + n : Nat) : Int)) ∧ w = w' := by
  go_enter Try.func33, Try.ntmps33
  go_wp2
  go_loopw [1, 5] (fun k i wr => ∃ q : Nat, q ≤ n ∧ i = .int .i64 q ∧ k = .int .i64 ((K : Int) + q) ∧ w = wr) (fun _ i _ => n - (intOf i).toNat)
  case atStart => exact ⟨0, Nat.zero_le _, rfl, by simp, rfl⟩
  case round =>
    obtain ⟨q, hq, rfl, rfl, rfl⟩ := hrel
    by_cases hlt : q < n
    · have hqi : (q : Int) < (n : Int) := by omega
      obtain ⟨b, o, rfl, _, c0⟩ := hr.int_ q (by rw [mk_len]; exact hlt)
      rw [mk_get K n q hlt] at c0
      have e : ((K + q : Nat) : Int) = (K : Int) + q := by simp
      rw [e] at c0
      clear e hr
      go_wp2
      go_roundw
      case rel => exact ⟨q + 1, by omega, by go_num, by go_num, by first | rfl | trivial⟩
      case measure => simp [intOf]; omega
    · go_wp2
      go_ret
      exact ⟨reti (by omega), rfl⟩
theorem Mine.far {w w' : World} {B T B' T' : Nat} {v : Value} {ll : List (List Int)} (h : Mine w B T v ll) (hw : Within w w' B' T') (hd : T ≤ B' ∨ T' ≤ B) : Mine w' B T v ll :=
  h.same hw.2.2.2.1 fun k h1 h2 => hw.2.2.2.2 k (Nat.lt_of_lt_of_le h2 h.1) (by omega)
theorem Mine.le {w : World} {B T : Nat} {v : Value} {ll : List (List Int)} (h : Mine w B T v ll) : T ≤ w.heap.size := h.1
theorem Mine.sl {w : World} {B T : Nat} {v : Value} {ll : List (List Int)} (h : Mine w B T v ll) : ∃ A c, v = .slice A ll.length c := by
  obtain ⟨A, c, hv, _⟩ := h.own.form
  exact ⟨A, c, hv⟩
end Go.Proofs.Ytofnhiigojlmbaa
