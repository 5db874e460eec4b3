/- The program's rounding: contracts. -/
import Derived.Test.YtlingfbmphaphaaDoorVE
import Derived.Test.YtlingfbmphaphaaDoorSRN
namespace Go.Proofs.YtlingfbmphaphaaDoor
open Go.RowKit
/-- The error, as a value. -/
abbrev errV (a : Addr) : Value := .iface 62 (.pointer (some a))
theorem iCheck_in (n lo hi : Int) (h1 : lo ≤ n) (h2 : n ≤ hi) (w : World) : Calls Tryd.prog 36 #[.int .i64 n, .int .i64 lo, .int .i64 hi] w fun e w' => e = .returned .nilIface ∧ w = w' := by
  go_enter Tryd.func36, Tryd.ntmps36
  go_wp2
  go_ret
  exact ⟨rfl, rfl⟩
theorem iCheck_low (n lo hi : Int) (h1 : n < lo) (a : Addr) (w : World) (hE : ErrW a w) : Calls Tryd.prog 36 #[.int .i64 n, .int .i64 lo, .int .i64 hi] w fun e w' => e = .returned (errV a) ∧ w = w' := by
  unfold ErrW at hE
  go_enter Tryd.func36, Tryd.ntmps36
  go_wp2
  go_ret
  exact ⟨rfl, rfl⟩
theorem iCheck_high (n lo hi : Int) (h0 : lo ≤ n) (h1 : hi < n) (a : Addr) (w : World) (hE : ErrW a w) : Calls Tryd.prog 36 #[.int .i64 n, .int .i64 lo, .int .i64 hi] w fun e w' => e = .returned (errV a) ∧ w = w' := by
  unfold ErrW at hE
  go_enter Tryd.func36, Tryd.ntmps36
  go_wp2
  go_ret
  exact ⟨rfl, rfl⟩
theorem iCheck_no (n lo hi : Int) (h : ¬ (lo ≤ n ∧ n ≤ hi)) (a : Addr) (w : World) (hE : ErrW a w) : Calls Tryd.prog 36 #[.int .i64 n, .int .i64 lo, .int .i64 hi] w fun e w' => e = .returned (errV a) ∧ w = w' := by
  by_cases h1 : n < lo
  · exact iCheck_low n lo hi h1 a w hE
  · exact iCheck_high n lo hi (by omega) (by omega) a w hE
set_option maxHeartbeats 1000000 in
theorem iSplit_ok (x b r : Int) (h : rOk x b = true) (hr : x % b = r) (w : World) : Calls Tryd.prog 32 #[.int .i64 x, .int .i64 b] w fun e w' => e = .returned (.tuple #[.int .i64 (x - r), .int .i64 r, .nilIface]) ∧ w = w' := by
  obtain ⟨h0, h1, h2, h3⟩ := rOk_iff.1 h
  have hrb := mod_bd (x := x) h2
  have hrt := tmod_of h0 hr
  rw [hr] at hrb
  obtain ⟨hr0, hrl⟩ := hrb
  have hb0 : (b == 0) = false := by rw [beq_eq_false_iff_ne]; omega
  have hbn : ¬ b = 0 := by omega
  have hw1 : IntKind.i64.wrap (x - r) = x - r := IntWalk.i64_in _ (by omega)
  go_enter Tryd.func32, Tryd.ntmps32
  go_wp2_with fail
  refine (iCheck_in b 2 20 h2 h3 w).mono ?_
  rintro e w' ⟨rfl, rfl⟩
  go_wp2_with fail
  refine (iCheck_in x 0 10000 h0 h1 w).mono ?_
  rintro e w' ⟨rfl, rfl⟩
  go_wp2
  go_ret3
  exact ⟨rfl, rfl⟩
set_option maxHeartbeats 1000000 in
theorem iSplit_no (x b : Int) (h : rOk x b = false) (a : Addr) (w : World) (hE : ErrW a w) : Calls Tryd.prog 32 #[.int .i64 x, .int .i64 b] w fun e w' => e = .returned (.tuple #[.int .i64 0, .int .i64 0, errV a]) ∧ w = w' := by
  have hn : ¬ (0 ≤ x ∧ x ≤ 10000 ∧ 2 ≤ b ∧ b ≤ 20) := fun hh => by rw [rOk_iff.2 hh] at h; cases h
  clear h
  by_cases hb : 2 ≤ b ∧ b ≤ 20
  · have hx : ¬ (0 ≤ x ∧ x ≤ 10000) := by omega
    have HX := Lib.hid hx
    obtain ⟨h2, h3⟩ := hb
    clear hx hn
    go_enter Tryd.func32, Tryd.ntmps32
    go_wp2_with fail
    refine (iCheck_in b 2 20 h2 h3 w).mono ?_
    rintro e w' ⟨rfl, rfl⟩
    go_wp2_with fail
    refine (iCheck_no x 0 10000 HX.out a w hE).mono ?_
    rintro e w' ⟨rfl, rfl⟩
    go_wp2
    go_ret3
    exact ⟨rfl, rfl⟩
  · have HB := Lib.hid hb
    clear hb hn
    go_enter Tryd.func32, Tryd.ntmps32
    go_wp2_with fail
    refine (iCheck_no b 2 20 HB.out a w hE).mono ?_
    rintro e w' ⟨rfl, rfl⟩
    go_wp2
    go_ret3
    exact ⟨rfl, rfl⟩
end Go.Proofs.YtlingfbmphaphaaDoor
