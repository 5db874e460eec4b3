/- The program's rounding: its five functions. -/
import Derived.Test.YtlingfbmphaphaaDoorIRN
namespace Go.Proofs.YtlingfbmphaphaaDoor
open Go.RowKit
set_option maxHeartbeats 1000000 in
theorem iDown_is (x b : Int) (g : Int) (hg : rDown x b = g) (a : Addr) (w : World) (hE : ErrW a w) : Calls Tryd.prog 15 #[.int .i64 x, .int .i64 b] w fun e w' => e = .returned (.int .i64 g) ∧ w = w' := by
  subst hg
  unfold ErrW at hE
  cases hk : rOk x b
  · rw [show rDown x b = -1 by simp [rDown, hk]]
    have HK := Lib.hid hk
    clear hk
    go_enter Tryd.func15, Tryd.ntmps15
    go_wp2_with fail
    refine (iSplit_no x b HK.out a w hE).mono ?_
    rintro e w' ⟨rfl, rfl⟩
    go_wp2_with fail
    refine (is_same a w).mono ?_
    rintro e w' ⟨rfl, rfl⟩
    go_wp2
    go_ret
    exact ⟨rfl, rfl⟩
  · have HK := Lib.hid hk
    obtain ⟨h0, h1, h2, h3⟩ := rOk_iff.1 hk
    obtain ⟨r, hr⟩ : ∃ r, x % b = r := ⟨_, rfl⟩
    have HR := Lib.hid hr
    have hrb := mod_bd (x := x) h2
    have hrx := down_le h0 h2
    rw [hr] at hrb hrx
    obtain ⟨hr0, hrl⟩ := hrb
    have hw2 : IntKind.i64.wrap (x - r + b) = x - r + b := IntWalk.i64_in _ (by omega)
    have hw3 : IntKind.i64.wrap (2 * r) = 2 * r := IntWalk.i64_in _ (by omega)
    have hw4 : IntKind.i64.wrap (b - 1) = b - 1 := IntWalk.i64_in _ (by omega)
    rw [show rDown x b = x - r by rw [rDown, if_pos hk, hr]]
    clear hk hrx hr
    go_enter Tryd.func15, Tryd.ntmps15
    go_wp2_with fail
    refine (iSplit_ok x b r HK.out HR.out w).mono ?_
    rintro e w' ⟨rfl, rfl⟩
    go_wp2_with fail
    refine (is_nil a w).mono ?_
    rintro e w' ⟨rfl, rfl⟩
    go_wp2
    go_ret
    exact ⟨rfl, rfl⟩
set_option maxHeartbeats 1000000 in
theorem iNear_is (x b : Int) (g : Int) (hg : rNear x b = g) (a : Addr) (w : World) (hE : ErrW a w) : Calls Tryd.prog 18 #[.int .i64 x, .int .i64 b] w fun e w' => e = .returned (.int .i64 g) ∧ w = w' := by
  subst hg
  unfold ErrW at hE
  cases hk : rOk x b
  · rw [show rNear x b = -1 by simp [rNear, hk]]
    have HK := Lib.hid hk
    clear hk
    go_enter Tryd.func18, Tryd.ntmps18
    go_wp2_with fail
    refine (iSplit_no x b HK.out a w hE).mono ?_
    rintro e w' ⟨rfl, rfl⟩
    go_wp2_with fail
    refine (is_same a w).mono ?_
    rintro e w' ⟨rfl, rfl⟩
    go_wp2
    go_ret
    exact ⟨rfl, rfl⟩
  · have HK := Lib.hid hk
    obtain ⟨h0, h1, h2, h3⟩ := rOk_iff.1 hk
    obtain ⟨r, hr⟩ : ∃ r, x % b = r := ⟨_, rfl⟩
    have HR := Lib.hid hr
    have hrb := mod_bd (x := x) h2
    have hrx := down_le h0 h2
    rw [hr] at hrb hrx
    obtain ⟨hr0, hrl⟩ := hrb
    have hw2 : IntKind.i64.wrap (x - r + b) = x - r + b := IntWalk.i64_in _ (by omega)
    have hw3 : IntKind.i64.wrap (2 * r) = 2 * r := IntWalk.i64_in _ (by omega)
    have hw4 : IntKind.i64.wrap (b - 1) = b - 1 := IntWalk.i64_in _ (by omega)
    by_cases hc : b ≤ 2 * r
    · rw [show rNear x b = x - r + b by rw [rNear, if_pos hk, hr, if_pos hc]]
      clear hk hrx hr
      go_enter Tryd.func18, Tryd.ntmps18
      go_wp2_with fail
      refine (iSplit_ok x b r HK.out HR.out w).mono ?_
      rintro e w' ⟨rfl, rfl⟩
      go_wp2_with fail
      refine (is_nil a w).mono ?_
      rintro e w' ⟨rfl, rfl⟩
      go_wp2
      go_ret
      exact ⟨rfl, rfl⟩
    · rw [show rNear x b = x - r by rw [rNear, if_pos hk, hr, if_neg hc]]
      have hc2 : 2 * r < b := by omega
      clear hk hrx hr
      go_enter Tryd.func18, Tryd.ntmps18
      go_wp2_with fail
      refine (iSplit_ok x b r HK.out HR.out w).mono ?_
      rintro e w' ⟨rfl, rfl⟩
      go_wp2_with fail
      refine (is_nil a w).mono ?_
      rintro e w' ⟨rfl, rfl⟩
      go_wp2
      go_ret
      exact ⟨rfl, rfl⟩
set_option maxHeartbeats 1000000 in
theorem iDrw_is (x b l : Int) (g : Int) (hg : rDrw x b l = g) (a : Addr) (w : World) (hE : ErrW a w) : Calls Tryd.prog 21 #[.int .i64 x, .int .i64 b, .int .i64 l] w fun e w' => e = .returned (.int .i64 g) ∧ w = w' := by
  subst hg
  unfold ErrW at hE
  cases hk : rOk x b
  · rw [show rDrw x b l = -1 by simp [rDrw, rDrwOk, hk]]
    have HK := Lib.hid hk
    clear hk
    go_enter Tryd.func21, Tryd.ntmps21
    go_wp2_with fail
    refine (iSplit_no x b HK.out a w hE).mono ?_
    rintro e w' ⟨rfl, rfl⟩
    go_wp2_with fail
    refine (is_same a w).mono ?_
    rintro e w' ⟨rfl, rfl⟩
    go_wp2
    go_ret
    exact ⟨rfl, rfl⟩
  · have HK := Lib.hid hk
    obtain ⟨h0, h1, h2, h3⟩ := rOk_iff.1 hk
    obtain ⟨r, hr⟩ : ∃ r, x % b = r := ⟨_, rfl⟩
    have HR := Lib.hid hr
    have hrb := mod_bd (x := x) h2
    have hrx := down_le h0 h2
    rw [hr] at hrb hrx
    obtain ⟨hr0, hrl⟩ := hrb
    have hw2 : IntKind.i64.wrap (x - r + b) = x - r + b := IntWalk.i64_in _ (by omega)
    have hw3 : IntKind.i64.wrap (2 * r) = 2 * r := IntWalk.i64_in _ (by omega)
    have hw4 : IntKind.i64.wrap (b - 1) = b - 1 := IntWalk.i64_in _ (by omega)
    by_cases hl : 0 ≤ l ∧ l ≤ b - 1
    · have ho : rDrwOk x b l = true := rDrwOk_iff.2 ⟨⟨h0, h1, h2, h3⟩, hl⟩
      obtain ⟨hl0, hl1⟩ := hl
      by_cases hc : l < r
      · rw [show rDrw x b l = x - r + b by rw [rDrw, if_pos ho, hr, if_pos hc]]
        clear hk hrx hr ho
        go_enter Tryd.func21, Tryd.ntmps21
        go_wp2_with fail
        refine (iSplit_ok x b r HK.out HR.out w).mono ?_
        rintro e w' ⟨rfl, rfl⟩
        go_wp2_with fail
        refine (iCheck_in l 0 (b - 1) (by omega) (by omega) w).mono ?_
        rintro e w' ⟨rfl, rfl⟩
        go_wp2_with fail
        refine (is_nil a w).mono ?_
        rintro e w' ⟨rfl, rfl⟩
        go_wp2
        go_ret
        exact ⟨rfl, rfl⟩
      · rw [show rDrw x b l = x - r by rw [rDrw, if_pos ho, hr, if_neg hc]]
        have hc2 : r ≤ l := by omega
        clear hk hrx hr ho
        go_enter Tryd.func21, Tryd.ntmps21
        go_wp2_with fail
        refine (iSplit_ok x b r HK.out HR.out w).mono ?_
        rintro e w' ⟨rfl, rfl⟩
        go_wp2_with fail
        refine (iCheck_in l 0 (b - 1) (by omega) (by omega) w).mono ?_
        rintro e w' ⟨rfl, rfl⟩
        go_wp2_with fail
        refine (is_nil a w).mono ?_
        rintro e w' ⟨rfl, rfl⟩
        go_wp2
        go_ret
        exact ⟨rfl, rfl⟩
    · have ho : rDrwOk x b l = false := by rw [Bool.eq_false_iff]; exact fun hh => hl (rDrwOk_iff.1 hh).2
      rw [show rDrw x b l = -1 by simp [rDrw, ho]]
      have HL := Lib.hid hl
      clear hl hk hrx hr ho
      go_enter Tryd.func21, Tryd.ntmps21
      go_wp2_with fail
      refine (iSplit_ok x b r HK.out HR.out w).mono ?_
      rintro e w' ⟨rfl, rfl⟩
      go_wp2_with fail
      refine (iCheck_no l 0 (b - 1) HL.out a w hE).mono ?_
      rintro e w' ⟨rfl, rfl⟩
      go_wp2_with fail
      refine (is_same a w).mono ?_
      rintro e w' ⟨rfl, rfl⟩
      go_wp2
      go_ret
      exact ⟨rfl, rfl⟩
set_option maxHeartbeats 1000000 in
theorem iLow_is (x b : Int) (g : Int) (hg : rLow x b = g) (a : Addr) (w : World) (hE : ErrW a w) : Calls Tryd.prog 24 #[.int .i64 x, .int .i64 b] w fun e w' => e = .returned (.int .i64 g) ∧ w = w' := by
  subst hg
  unfold ErrW at hE
  cases hk : rOk x b
  · rw [show rLow x b = -1 by simp [rLow, rMul, hk]]
    have HK := Lib.hid hk
    clear hk
    go_enter Tryd.func24, Tryd.ntmps24
    go_wp2_with fail
    refine (iSplit_no x b HK.out a w hE).mono ?_
    rintro e w' ⟨rfl, rfl⟩
    go_wp2_with fail
    refine (is_same a w).mono ?_
    rintro e w' ⟨rfl, rfl⟩
    go_wp2
    go_ret
    exact ⟨rfl, rfl⟩
  · have HK := Lib.hid hk
    obtain ⟨h0, h1, h2, h3⟩ := rOk_iff.1 hk
    obtain ⟨r, hr⟩ : ∃ r, x % b = r := ⟨_, rfl⟩
    have HR := Lib.hid hr
    have hrb := mod_bd (x := x) h2
    have hrx := down_le h0 h2
    rw [hr] at hrb hrx
    obtain ⟨hr0, hrl⟩ := hrb
    have hw2 : IntKind.i64.wrap (x - r + b) = x - r + b := IntWalk.i64_in _ (by omega)
    have hw3 : IntKind.i64.wrap (2 * r) = 2 * r := IntWalk.i64_in _ (by omega)
    have hw4 : IntKind.i64.wrap (b - 1) = b - 1 := IntWalk.i64_in _ (by omega)
    by_cases hc : r = 0
    · subst hc
      have ho : rMul x b = true := by simp [rMul, hk, hr]
      obtain ⟨z, hz⟩ : ∃ z, rLow x b = z := ⟨_, rfl⟩
      rw [hz]
      rw [rLow, if_pos ho] at hz
      have hw5 : IntKind.i64.wrap (x - b) = x - b := IntWalk.i64_in _ (by omega)
      have hw6 : IntKind.i64.wrap (x - b + 1) = x - b + 1 := IntWalk.i64_in _ (by omega)
      have hmx : (if x - b + 1 < 0 then 0 else x - b + 1) = z := by rw [← hz]; split <;> omega
      have hmx2 : (if (0 : Int) < x - b + 1 then x - b + 1 else 0) = z := by rw [← hz]; split <;> omega
      clear hk hrx hr ho hz
      go_enter Tryd.func24, Tryd.ntmps24
      go_wp2_with fail
      refine (iSplit_ok x b 0 HK.out HR.out w).mono ?_
      rintro e w' ⟨rfl, rfl⟩
      go_wp2_with fail
      refine (is_nil a w).mono ?_
      rintro e w' ⟨rfl, rfl⟩
      go_wp2
      go_ret
      exact ⟨rfl, rfl⟩
    · have ho : rMul x b = false := by simp [rMul, hk, hr, hc]
      rw [show rLow x b = -1 by simp [rLow, ho]]
      have hc2 : (r == 0) = false := by rw [beq_eq_false_iff_ne]; exact hc
      clear hk hrx hr ho
      go_enter Tryd.func24, Tryd.ntmps24
      go_wp2_with fail
      refine (iSplit_ok x b r HK.out HR.out w).mono ?_
      rintro e w' ⟨rfl, rfl⟩
      go_wp2_with fail
      refine (is_nil a w).mono ?_
      rintro e w' ⟨rfl, rfl⟩
      go_wp2
      go_ret
      exact ⟨rfl, rfl⟩
set_option maxHeartbeats 1000000 in
theorem iHigh_is (x b : Int) (g : Int) (hg : rHigh x b = g) (a : Addr) (w : World) (hE : ErrW a w) : Calls Tryd.prog 27 #[.int .i64 x, .int .i64 b] w fun e w' => e = .returned (.int .i64 g) ∧ w = w' := by
  subst hg
  obtain ⟨q, hq⟩ : ∃ q, rLow x b = q := ⟨_, rfl⟩
  have HQ := Lib.hid hq
  cases hk : rMul x b
  · rw [show rHigh x b = -1 by simp [rHigh, hk]]
    obtain rfl : q = -1 := by rw [← hq]; simp [rLow, hk]
    clear hk hq
    go_enter Tryd.func27, Tryd.ntmps27
    go_wp2_with fail
    refine (iLow_is x b (-1) HQ.out a w hE).mono ?_
    rintro e w' ⟨rfl, rfl⟩
    go_wp2
    go_ret
    exact ⟨rfl, rfl⟩
  · obtain ⟨⟨h0, h1, h2, h3⟩, hm⟩ := rMul_iff.1 hk
    have hq2 := rLow_neg.2 hk
    rw [hq] at hq2
    have hq3 : (q == -1) = false := by rw [beq_eq_false_iff_ne]; omega
    obtain ⟨z, hz⟩ : ∃ z, rHigh x b = z := ⟨_, rfl⟩
    rw [hz]
    rw [rHigh, if_pos hk] at hz
    have hw5 : IntKind.i64.wrap (x + b) = x + b := IntWalk.i64_in _ (by omega)
    have hw6 : IntKind.i64.wrap (x + b - 1) = x + b - 1 := IntWalk.i64_in _ (by omega)
    have hmx : (if x + b - 1 < 10000 then x + b - 1 else 10000) = z := by rw [← hz]; split <;> omega
    have hmx2 : (if 10000 < x + b - 1 then 10000 else x + b - 1) = z := by rw [← hz]; split <;> omega
    clear hk hq hm hz hq2
    go_enter Tryd.func27, Tryd.ntmps27
    go_wp2_with fail
    refine (iLow_is x b q HQ.out a w hE).mono ?_
    rintro e w' ⟨rfl, rfl⟩
    go_wp2
    go_ret
    exact ⟨rfl, rfl⟩
end Go.Proofs.YtlingfbmphaphaaDoor
