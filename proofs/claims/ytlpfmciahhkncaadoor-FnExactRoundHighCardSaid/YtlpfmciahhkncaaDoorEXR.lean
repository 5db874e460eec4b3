/- Exact laws of chapter 21. -/
import Derived.Test.YtlpfmciahhkncaaDoorIRN2
namespace Go.Proofs.YtlpfmciahhkncaaDoor
open Go.RowKit
theorem w_ExactRoundDown (x b : Int) (W : World) (a9 : Addr) (hE : ErrW a9 W) : Calls Tryd.prog 8 #[.int .i64 x, .int .i64 b] W fun e w' => e = .returned (.bool true) ∧ Below W.heap.size W w' := by
  obtain ⟨g, hg⟩ : ∃ g, rDown x b = g := ⟨_, rfl⟩
  have HG := Lib.hid hg
  have HE := Lib.hid hE
  clear hg hE
  go_enter Tryd.func8, Tryd.ntmps8
  go_wp2_with fail
  refine (sDown_is x b g HG.out W).mono ?_
  rintro e w' ⟨rfl, rfl⟩
  go_wp2_with fail
  refine (iDown_is x b g HG.out a9 W HE.out).mono ?_
  rintro e w' ⟨rfl, rfl⟩
  go_wp2
  go_ret
  exact ⟨rfl, Below.refl _ _⟩
theorem w_ExactRoundNear (x b : Int) (W : World) (a9 : Addr) (hE : ErrW a9 W) : Calls Tryd.prog 9 #[.int .i64 x, .int .i64 b] W fun e w' => e = .returned (.bool true) ∧ Below W.heap.size W w' := by
  obtain ⟨g, hg⟩ : ∃ g, rNear x b = g := ⟨_, rfl⟩
  have HG := Lib.hid hg
  have HE := Lib.hid hE
  clear hg hE
  go_enter Tryd.func9, Tryd.ntmps9
  go_wp2_with fail
  refine (sNear_is x b g HG.out W).mono ?_
  rintro e w' ⟨rfl, rfl⟩
  go_wp2_with fail
  refine (iNear_is x b g HG.out a9 W HE.out).mono ?_
  rintro e w' ⟨rfl, rfl⟩
  go_wp2
  go_ret
  exact ⟨rfl, Below.refl _ _⟩
theorem w_ExactRoundDraw (x b l : Int) (W : World) (a9 : Addr) (hE : ErrW a9 W) : Calls Tryd.prog 10 #[.int .i64 x, .int .i64 b, .int .i64 l] W fun e w' => e = .returned (.bool true) ∧ Below W.heap.size W w' := by
  obtain ⟨g, hg⟩ : ∃ g, rDrw x b l = g := ⟨_, rfl⟩
  have HG := Lib.hid hg
  have HE := Lib.hid hE
  clear hg hE
  go_enter Tryd.func10, Tryd.ntmps10
  go_wp2_with fail
  refine (sDrw_is x b l g HG.out W).mono ?_
  rintro e w' ⟨rfl, rfl⟩
  go_wp2_with fail
  refine (iDrw_is x b l g HG.out a9 W HE.out).mono ?_
  rintro e w' ⟨rfl, rfl⟩
  go_wp2
  go_ret
  exact ⟨rfl, Below.refl _ _⟩
theorem w_ExactRoundLow (x b : Int) (W : World) (a9 : Addr) (hE : ErrW a9 W) : Calls Tryd.prog 11 #[.int .i64 x, .int .i64 b] W fun e w' => e = .returned (.bool true) ∧ Below W.heap.size W w' := by
  obtain ⟨g, hg⟩ : ∃ g, rLow x b = g := ⟨_, rfl⟩
  have HG := Lib.hid hg
  have HE := Lib.hid hE
  clear hg hE
  go_enter Tryd.func11, Tryd.ntmps11
  go_wp2_with fail
  refine (sLow_is x b g HG.out W).mono ?_
  rintro e w' ⟨rfl, rfl⟩
  go_wp2_with fail
  refine (iLow_is x b g HG.out a9 W HE.out).mono ?_
  rintro e w' ⟨rfl, rfl⟩
  go_wp2
  go_ret
  exact ⟨rfl, Below.refl _ _⟩
theorem w_ExactRoundHigh (x b : Int) (W : World) (a9 : Addr) (hE : ErrW a9 W) : Calls Tryd.prog 12 #[.int .i64 x, .int .i64 b] W fun e w' => e = .returned (.bool true) ∧ Below W.heap.size W w' := by
  obtain ⟨g, hg⟩ : ∃ g, rHigh x b = g := ⟨_, rfl⟩
  have HG := Lib.hid hg
  have HE := Lib.hid hE
  clear hg hE
  go_enter Tryd.func12, Tryd.ntmps12
  go_wp2_with fail
  refine (sHigh_is x b g HG.out W).mono ?_
  rintro e w' ⟨rfl, rfl⟩
  go_wp2_with fail
  refine (iHigh_is x b g HG.out a9 W HE.out).mono ?_
  rintro e w' ⟨rfl, rfl⟩
  go_wp2
  go_ret
  exact ⟨rfl, Below.refl _ _⟩
end Go.Proofs.YtlpfmciahhkncaaDoor
