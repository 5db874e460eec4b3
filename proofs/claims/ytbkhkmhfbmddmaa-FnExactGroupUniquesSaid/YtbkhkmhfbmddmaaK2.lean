import Derived.Test.YtbkhkmhfbmddmaaChecked
import Derived.Test.YtbkhkmhfbmddmaaK1
namespace Go.Proofs.Ytbkhkmhfbmddmaa
open Go.RowKit
theorem l6In_any (x a b : Int) (w : World) : Calls Try.prog 36 #[.int .i64 x, .int .i64 a, .int .i64 b] w fun e w' => e = .returned (.bool (in3 x a b)) ∧ w = w' := by
  go_enter Try.func36, Try.ntmps36
  go_wp2
  all_goals (go_ret; exact ⟨retb (by rw [Bool.eq_iff_iff]; simp [in3]; try omega), rfl⟩)
end Go.Proofs.Ytbkhkmhfbmddmaa
