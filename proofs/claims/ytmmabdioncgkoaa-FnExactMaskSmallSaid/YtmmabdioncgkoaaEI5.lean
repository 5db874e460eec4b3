/- Exact laws over rows of integers: marks are held. -/
import Derived.Test.YtmmabdioncgkoaaEI4
namespace Go.Proofs.Ytmmabdioncgkoaa
open Go.RowKit
theorem heldI_any (K n : Nat) (A : Option Addr) (c : Nat) (w : World) (hr : Row w w.heap.size A (icells (mk K n))) (hl : K + n ≤ 300000000) :
    Calls Try.prog 29 #[.slice A n c, .int .i64 K] w fun e w' => e = .returned (.int .i64 ((K + n : Nat) : Int)) ∧ w = w' := by
  go_enter Try.func29, Try.ntmps29
  go_wp2
  go_loopw [1, 5] (fun k i wr => ∃ q : Nat, q ≤ n ∧ i = .int .i64 q ∧ k = .int .i64 ((K : Int) + q) ∧ w = wr) (fun _ i _ => n - (intOf i).toNat)
  case atStart => exact ⟨0, Nat.zero_le _, rfl, by simp, rfl⟩
  case round =>
    obtain ⟨q, hq, rfl, rfl, rfl⟩ := hrel
    by_cases hlt : q < n
    · have hqi : (q : Int) < (n : Int) := by omega
      obtain ⟨b, o, rfl, _, c0⟩ := hr.int_ q (by rw [mk_len]; exact hlt)
      rw [mk_get K n q hlt] at c0
      have e : ((K + q : Nat) : Int) = (K : Int) + q := by simp
      rw [e] at c0
      clear e hr
      go_wp2
      go_roundw
      case rel => exact ⟨q + 1, by omega, by go_num, by go_num, by first | rfl | trivial⟩
      case measure => simp [intOf]; omega
    · go_wp2
      go_ret
      exact ⟨reti (by omega), rfl⟩
theorem heldSS_any (ll : List (List Int)) (n : Nat) (hn : n = ll.length) (A : Option Addr) (c : Nat) (w : World) (hr : LL w w.heap.size A (cur ll n)) (hl : tot ll ≤ 1048576) (hl2 : n ≤ 1048576) :
    Calls Try.prog 24 #[.slice A n c, .int .i64 1] w fun e w' => e = .returned (.int .i64 ((1 + tot ll : Nat) : Int)) ∧ w = w' := by
  have HN := Lib.hid hn; clear hn
  go_enter Try.func24, Try.ntmps24
  go_wp2
  go_loopw [1, 5] (fun v i wr => ∃ k : Nat, k ≤ n ∧ i = .int .i64 k ∧ v = .int .i64 ((1 + tot (ll.take k) : Nat) : Int) ∧ w = wr) (fun _ i _ => n - (intOf i).toNat)
  case atStart => exact ⟨0, Nat.zero_le _, rfl, by simp [tot], rfl⟩
  case round =>
    obtain ⟨k, hk, rfl, rfl, rfl⟩ := hrel
    by_cases hlt : k < n
    · have hki : (k : Int) < (n : Int) := by omega
      have hkl : k < ll.length := by rw [← HN.out]; exact hlt
      obtain ⟨b, o, Ai, ci, rfl, _, c0, _, _, r0⟩ := hr.at_ k (by rw [cur_len]; exact hkl)
      rw [cur_get ll n k hkl, if_pos hlt] at c0 r0
      rw [mk_len] at c0
      have HTT := Lib.hid (tot_take ll k hkl)
      have HTA := Lib.hid (tot_le ll (k + 1))
      obtain ⟨q, hq⟩ : ∃ q, (ll.getD k []).length = q := ⟨_, rfl⟩
      obtain ⟨t, ht⟩ : ∃ t, 1 + tot (ll.take k) = t := ⟨_, rfl⟩
      rw [hq] at c0 r0 HTT
      rw [ht] at r0 ⊢
      have hb : t + q ≤ 300000000 := by have h3 := HTT.out; have h4 := HTA.out; omega
      have htn : 1 + tot (ll.take (k + 1)) = t + q := by have h3 := HTT.out; omega
      have HTN := Lib.hid htn
      have HR := Lib.hid r0
      clear hq ht htn r0 hr hkl
      go_wp2_with fail
      refine (heldI_any t q Ai ci _ HR.out hb).mono ?_
      rintro e w' ⟨rfl, rfl⟩
      have h0 : ¬ ((t + q : Nat) : Int) < 0 := by omega
      have h1 : ¬ ((t : Int) + (q : Int)) < 0 := by omega
      go_wp2
      go_roundw
      case rel => exact ⟨k + 1, by omega, by go_num, by rw [HTN.out]; go_num, by first | rfl | trivial⟩
      case measure => simp [intOf]; omega
    · have hkn : k = n := by omega
      subst hkn
      have ht : ll.take k = ll := List.take_of_length_le (by rw [← HN.out]; omega)
      rw [ht]
      go_wp2
      go_ret
      exact ⟨rfl, rfl⟩
theorem Mine.far {w w' : World} {B T B' T' : Nat} {v : Value} {ll : List (List Int)} (h : Mine w B T v ll) (hw : Within w w' B' T') (hd : T ≤ B' ∨ T' ≤ B) : Mine w' B T v ll :=
  h.same hw.2.2.2.1 fun k h1 h2 => hw.2.2.2.2 k (Nat.lt_of_lt_of_le h2 h.1) (by omega)
theorem Mine.le {w : World} {B T : Nat} {v : Value} {ll : List (List Int)} (h : Mine w B T v ll) : T ≤ w.heap.size := h.1
theorem Mine.sl {w : World} {B T : Nat} {v : Value} {ll : List (List Int)} (h : Mine w B T v ll) : ∃ A c, v = .slice A ll.length c := by
  obtain ⟨A, c, hv, _⟩ := h.own.form
  exact ⟨A, c, hv⟩
end Go.Proofs.Ytmmabdioncgkoaa
