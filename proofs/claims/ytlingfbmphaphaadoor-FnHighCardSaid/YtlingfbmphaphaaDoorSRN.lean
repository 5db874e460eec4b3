/- Contracts of the model: rounding. -/
import Derived.Test.YtlingfbmphaphaaDoorA1
import Derived.Test.YtlingfbmphaphaaDoorRN
namespace Go.Proofs.YtlingfbmphaphaaDoor
open Go.RowKit
theorem rOk_in (x b : Int) : rOk x b = (in3 x 0 10000 && in3 b 2 20) := by
  rw [Bool.eq_iff_iff]
  simp only [rOk, in3, Bool.and_eq_true, decide_eq_true_eq]
  omega
theorem tmod_of {x b r : Int} (h : 0 ≤ x) (hr : x % b = r) : x.tmod b = r := by rw [Int.tmod_eq_emod_of_nonneg h]; exact hr
theorem sOk21_is (x b : Int) (g : Bool) (hg : rOk x b = g) (w : World) : Calls Tryd.prog 34 #[.int .i64 x, .int .i64 b] w fun e w' => e = .returned (.bool g) ∧ w = w' := by
  rw [rOk_in] at hg
  obtain ⟨g1, h1⟩ : ∃ g1, in3 x 0 10000 = g1 := ⟨_, rfl⟩
  obtain ⟨g2, h2⟩ : ∃ g2, in3 b 2 20 = g2 := ⟨_, rfl⟩
  rw [h1, h2] at hg
  have H1 := Lib.hid h1
  have H2 := Lib.hid h2
  subst hg
  clear h1 h2
  go_enter Tryd.func34, Tryd.ntmps34
  go_wp2_with fail
  refine (l6In_any x 0 10000 w).mono ?_
  rintro e w' ⟨rfl, rfl⟩
  rw [H1.out]
  cases g1
  · go_wp2
    go_ret
    exact ⟨rfl, rfl⟩
  · go_wp2_with fail
    refine (l6In_any b 2 20 w).mono ?_
    rintro e w' ⟨rfl, rfl⟩
    rw [H2.out]
    go_wp2
    go_ret
    exact ⟨by first | rfl | exact retb (by simp), rfl⟩
set_option maxHeartbeats 1000000 in
theorem sDown_is (x b : Int) (g : Int) (hg : rDown x b = g) (w : World) : Calls Tryd.prog 16 #[.int .i64 x, .int .i64 b] w fun e w' => e = .returned (.int .i64 g) ∧ w = w' := by
  subst hg
  cases hk : rOk x b
  · rw [show rDown x b = -1 by simp [rDown, hk]]
    have HK := Lib.hid hk
    clear hk
    go_enter Tryd.func16, Tryd.ntmps16
    go_wp2_with fail
    refine (sOk21_is x b false HK.out w).mono ?_
    rintro e w' ⟨rfl, rfl⟩
    go_wp2
    go_ret
    exact ⟨rfl, rfl⟩
  · have HK := Lib.hid hk
    obtain ⟨h0, h1, h2, h3⟩ := rOk_iff.1 hk
    obtain ⟨r, hr⟩ : ∃ r, x % b = r := ⟨_, rfl⟩
    have hrb := mod_bd (x := x) h2
    have hrx := down_le h0 h2
    have hrt := tmod_of h0 hr
    rw [hr] at hrb hrx
    obtain ⟨hr0, hrl⟩ := hrb
    have hb0 : (b == 0) = false := by rw [beq_eq_false_iff_ne]; omega
    have hbn : ¬ b = 0 := by omega
    have hw1 : IntKind.i64.wrap (x - r) = x - r := IntWalk.i64_in _ (by omega)
    have hw2 : IntKind.i64.wrap (x - r + b) = x - r + b := IntWalk.i64_in _ (by omega)
    have hw3 : IntKind.i64.wrap (2 * r) = 2 * r := IntWalk.i64_in _ (by omega)
    rw [show rDown x b = x - r by rw [rDown, if_pos hk, hr]]
    clear hk hrx
    go_enter Tryd.func16, Tryd.ntmps16
    go_wp2_with fail
    refine (sOk21_is x b true HK.out w).mono ?_
    rintro e w' ⟨rfl, rfl⟩
    go_wp2
    go_ret
    exact ⟨rfl, rfl⟩
set_option maxHeartbeats 1000000 in
theorem sNear_is (x b : Int) (g : Int) (hg : rNear x b = g) (w : World) : Calls Tryd.prog 19 #[.int .i64 x, .int .i64 b] w fun e w' => e = .returned (.int .i64 g) ∧ w = w' := by
  subst hg
  cases hk : rOk x b
  · rw [show rNear x b = -1 by simp [rNear, hk]]
    have HK := Lib.hid hk
    clear hk
    go_enter Tryd.func19, Tryd.ntmps19
    go_wp2_with fail
    refine (sOk21_is x b false HK.out w).mono ?_
    rintro e w' ⟨rfl, rfl⟩
    go_wp2
    go_ret
    exact ⟨rfl, rfl⟩
  · have HK := Lib.hid hk
    obtain ⟨h0, h1, h2, h3⟩ := rOk_iff.1 hk
    obtain ⟨r, hr⟩ : ∃ r, x % b = r := ⟨_, rfl⟩
    have hrb := mod_bd (x := x) h2
    have hrx := down_le h0 h2
    have hrt := tmod_of h0 hr
    rw [hr] at hrb hrx
    obtain ⟨hr0, hrl⟩ := hrb
    have hb0 : (b == 0) = false := by rw [beq_eq_false_iff_ne]; omega
    have hbn : ¬ b = 0 := by omega
    have hw1 : IntKind.i64.wrap (x - r) = x - r := IntWalk.i64_in _ (by omega)
    have hw2 : IntKind.i64.wrap (x - r + b) = x - r + b := IntWalk.i64_in _ (by omega)
    have hw3 : IntKind.i64.wrap (2 * r) = 2 * r := IntWalk.i64_in _ (by omega)
    by_cases hc : b ≤ 2 * r
    · rw [show rNear x b = x - r + b by rw [rNear, if_pos hk, hr, if_pos hc]]
      clear hk hrx
      go_enter Tryd.func19, Tryd.ntmps19
      go_wp2_with fail
      refine (sOk21_is x b true HK.out w).mono ?_
      rintro e w' ⟨rfl, rfl⟩
      go_wp2
      go_ret
      exact ⟨rfl, rfl⟩
    · rw [show rNear x b = x - r by rw [rNear, if_pos hk, hr, if_neg hc]]
      have hc2 : 2 * r < b := by omega
      clear hk hrx
      go_enter Tryd.func19, Tryd.ntmps19
      go_wp2_with fail
      refine (sOk21_is x b true HK.out w).mono ?_
      rintro e w' ⟨rfl, rfl⟩
      go_wp2
      go_ret
      exact ⟨rfl, rfl⟩
set_option maxHeartbeats 1000000 in
theorem sDrw_is (x b l : Int) (g : Int) (hg : rDrw x b l = g) (w : World) : Calls Tryd.prog 22 #[.int .i64 x, .int .i64 b, .int .i64 l] w fun e w' => e = .returned (.int .i64 g) ∧ w = w' := by
  subst hg
  cases hk : rOk x b
  · rw [show rDrw x b l = -1 by simp [rDrw, rDrwOk, hk]]
    have HK := Lib.hid hk
    clear hk
    go_enter Tryd.func22, Tryd.ntmps22
    go_wp2_with fail
    refine (sOk21_is x b false HK.out w).mono ?_
    rintro e w' ⟨rfl, rfl⟩
    go_wp2
    go_ret
    exact ⟨rfl, rfl⟩
  · have HK := Lib.hid hk
    obtain ⟨h0, h1, h2, h3⟩ := rOk_iff.1 hk
    obtain ⟨r, hr⟩ : ∃ r, x % b = r := ⟨_, rfl⟩
    have hrb := mod_bd (x := x) h2
    have hrx := down_le h0 h2
    have hrt := tmod_of h0 hr
    rw [hr] at hrb hrx
    obtain ⟨hr0, hrl⟩ := hrb
    have hb0 : (b == 0) = false := by rw [beq_eq_false_iff_ne]; omega
    have hbn : ¬ b = 0 := by omega
    have hw1 : IntKind.i64.wrap (x - r) = x - r := IntWalk.i64_in _ (by omega)
    have hw2 : IntKind.i64.wrap (x - r + b) = x - r + b := IntWalk.i64_in _ (by omega)
    have hw3 : IntKind.i64.wrap (2 * r) = 2 * r := IntWalk.i64_in _ (by omega)
    obtain ⟨g1, hg1⟩ : ∃ g1, in3 l 0 (b - 1) = g1 := ⟨_, rfl⟩
    have HL := Lib.hid hg1
    have hwb : IntKind.i64.wrap (b - 1) = b - 1 := IntWalk.i64_in _ (by omega)
    have hd : rDrwOk x b l = g1 := by
      rw [rDrwOk, hk, Bool.true_and, ← hg1, in3, Bool.eq_iff_iff]; simp
    clear hg1
    cases g1
    · rw [show rDrw x b l = -1 by rw [rDrw, hd]; rfl]
      clear hd
      clear hk hrx
      go_enter Tryd.func22, Tryd.ntmps22
      go_wp2_with fail
      refine (sOk21_is x b true HK.out w).mono ?_
      rintro e w' ⟨rfl, rfl⟩
      go_wp2_with fail
      refine (l6In_any l 0 (b - 1) w).mono ?_
      rintro e w' ⟨rfl, rfl⟩
      rw [HL.out]
      go_wp2
      go_ret
      exact ⟨rfl, rfl⟩
    · by_cases hc : l < r
      · rw [show rDrw x b l = x - r + b by rw [rDrw, if_pos hd, hr, if_pos hc]]
        clear hd
        clear hk hrx
        go_enter Tryd.func22, Tryd.ntmps22
        go_wp2_with fail
        refine (sOk21_is x b true HK.out w).mono ?_
        rintro e w' ⟨rfl, rfl⟩
        go_wp2_with fail
        refine (l6In_any l 0 (b - 1) w).mono ?_
        rintro e w' ⟨rfl, rfl⟩
        rw [HL.out]
        go_wp2
        go_ret
        exact ⟨rfl, rfl⟩
      · rw [show rDrw x b l = x - r by rw [rDrw, if_pos hd, hr, if_neg hc]]
        clear hd
        clear hk hrx
        go_enter Tryd.func22, Tryd.ntmps22
        go_wp2_with fail
        refine (sOk21_is x b true HK.out w).mono ?_
        rintro e w' ⟨rfl, rfl⟩
        go_wp2_with fail
        refine (l6In_any l 0 (b - 1) w).mono ?_
        rintro e w' ⟨rfl, rfl⟩
        rw [HL.out]
        go_wp2
        go_ret
        exact ⟨rfl, rfl⟩
set_option maxHeartbeats 1000000 in
theorem sLow_is (x b : Int) (g : Int) (hg : rLow x b = g) (w : World) : Calls Tryd.prog 25 #[.int .i64 x, .int .i64 b] w fun e w' => e = .returned (.int .i64 g) ∧ w = w' := by
  subst hg
  cases hk : rOk x b
  · rw [show rLow x b = -1 by simp [rLow, rMul, hk]]
    have HK := Lib.hid hk
    clear hk
    go_enter Tryd.func25, Tryd.ntmps25
    go_wp2_with fail
    refine (sOk21_is x b false HK.out w).mono ?_
    rintro e w' ⟨rfl, rfl⟩
    go_wp2
    go_ret
    exact ⟨rfl, rfl⟩
  · have HK := Lib.hid hk
    obtain ⟨h0, h1, h2, h3⟩ := rOk_iff.1 hk
    obtain ⟨r, hr⟩ : ∃ r, x % b = r := ⟨_, rfl⟩
    have hrb := mod_bd (x := x) h2
    have hrx := down_le h0 h2
    have hrt := tmod_of h0 hr
    rw [hr] at hrb hrx
    obtain ⟨hr0, hrl⟩ := hrb
    have hb0 : (b == 0) = false := by rw [beq_eq_false_iff_ne]; omega
    have hbn : ¬ b = 0 := by omega
    have hw1 : IntKind.i64.wrap (x - r) = x - r := IntWalk.i64_in _ (by omega)
    have hw2 : IntKind.i64.wrap (x - r + b) = x - r + b := IntWalk.i64_in _ (by omega)
    have hw3 : IntKind.i64.wrap (2 * r) = 2 * r := IntWalk.i64_in _ (by omega)
    have hwl : IntKind.i64.wrap (x - b) = x - b := IntWalk.i64_in _ (by omega)
    have hwm : IntKind.i64.wrap (x - b + 1) = x - b + 1 := IntWalk.i64_in _ (by omega)
    have hwn : IntKind.i64.wrap (x + b) = x + b := IntWalk.i64_in _ (by omega)
    have hwo : IntKind.i64.wrap (x + b - 1) = x + b - 1 := IntWalk.i64_in _ (by omega)
    by_cases hc : r = 0
    · rw [show rLow x b = max 0 (x - b + 1) by rw [rLow, if_pos (by simp [rMul, hk, hr, hc])]]
      subst hc
      clear hk hrx
      go_enter Tryd.func25, Tryd.ntmps25
      go_wp2_with fail
      refine (sOk21_is x b true HK.out w).mono ?_
      rintro e w' ⟨rfl, rfl⟩
      go_wp2
      all_goals
        go_ret
        exact ⟨by first | rfl | exact reti (by omega), rfl⟩
    · rw [show rLow x b = -1 by rw [rLow, if_neg (by simp [rMul, hk, hr, hc])]]
      have hc2 : (r == 0) = false := by rw [beq_eq_false_iff_ne]; exact hc
      clear hk hrx
      go_enter Tryd.func25, Tryd.ntmps25
      go_wp2_with fail
      refine (sOk21_is x b true HK.out w).mono ?_
      rintro e w' ⟨rfl, rfl⟩
      go_wp2
      go_ret
      exact ⟨rfl, rfl⟩
set_option maxHeartbeats 1000000 in
theorem sHigh_is (x b : Int) (g : Int) (hg : rHigh x b = g) (w : World) : Calls Tryd.prog 28 #[.int .i64 x, .int .i64 b] w fun e w' => e = .returned (.int .i64 g) ∧ w = w' := by
  subst hg
  cases hk : rOk x b
  · rw [show rHigh x b = -1 by simp [rHigh, rMul, hk]]
    have HK := Lib.hid hk
    clear hk
    go_enter Tryd.func28, Tryd.ntmps28
    go_wp2_with fail
    refine (sOk21_is x b false HK.out w).mono ?_
    rintro e w' ⟨rfl, rfl⟩
    go_wp2
    go_ret
    exact ⟨rfl, rfl⟩
  · have HK := Lib.hid hk
    obtain ⟨h0, h1, h2, h3⟩ := rOk_iff.1 hk
    obtain ⟨r, hr⟩ : ∃ r, x % b = r := ⟨_, rfl⟩
    have hrb := mod_bd (x := x) h2
    have hrx := down_le h0 h2
    have hrt := tmod_of h0 hr
    rw [hr] at hrb hrx
    obtain ⟨hr0, hrl⟩ := hrb
    have hb0 : (b == 0) = false := by rw [beq_eq_false_iff_ne]; omega
    have hbn : ¬ b = 0 := by omega
    have hw1 : IntKind.i64.wrap (x - r) = x - r := IntWalk.i64_in _ (by omega)
    have hw2 : IntKind.i64.wrap (x - r + b) = x - r + b := IntWalk.i64_in _ (by omega)
    have hw3 : IntKind.i64.wrap (2 * r) = 2 * r := IntWalk.i64_in _ (by omega)
    have hwl : IntKind.i64.wrap (x - b) = x - b := IntWalk.i64_in _ (by omega)
    have hwm : IntKind.i64.wrap (x - b + 1) = x - b + 1 := IntWalk.i64_in _ (by omega)
    have hwn : IntKind.i64.wrap (x + b) = x + b := IntWalk.i64_in _ (by omega)
    have hwo : IntKind.i64.wrap (x + b - 1) = x + b - 1 := IntWalk.i64_in _ (by omega)
    by_cases hc : r = 0
    · rw [show rHigh x b = min 10000 (x + b - 1) by rw [rHigh, if_pos (by simp [rMul, hk, hr, hc])]]
      subst hc
      clear hk hrx
      go_enter Tryd.func28, Tryd.ntmps28
      go_wp2_with fail
      refine (sOk21_is x b true HK.out w).mono ?_
      rintro e w' ⟨rfl, rfl⟩
      go_wp2
      all_goals
        go_ret
        exact ⟨by first | rfl | exact reti (by omega), rfl⟩
    · rw [show rHigh x b = -1 by rw [rHigh, if_neg (by simp [rMul, hk, hr, hc])]]
      have hc2 : (r == 0) = false := by rw [beq_eq_false_iff_ne]; exact hc
      clear hk hrx
      go_enter Tryd.func28, Tryd.ntmps28
      go_wp2_with fail
      refine (sOk21_is x b true HK.out w).mono ?_
      rintro e w' ⟨rfl, rfl⟩
      go_wp2
      go_ret
      exact ⟨rfl, rfl⟩
end Go.Proofs.YtlingfbmphaphaaDoor
