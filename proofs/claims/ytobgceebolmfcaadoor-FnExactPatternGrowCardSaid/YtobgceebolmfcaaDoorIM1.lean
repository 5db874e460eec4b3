/- Contracts of the program: sizes of tables. -/
import Derived.Test.YtobgceebolmfcaaDoorTSA
import Derived.RangeFuncNested
import Derived.RangeFuncBound
import Derived.RangeFuncCalls
import Derived.RangeFuncLeaves
import Derived.Shelf.Abstract
import Derived.Shelf.RegionOpen
import Derived.WalkKit
import Derived.OwnWalkIn
import Derived.TacticsInMore
import Derived.LoopNIn
import Derived.LoopIn
namespace Go.Proofs.YtobgceebolmfcaaDoor
open Go.RowKit Go.Shelf
abbrev TG : TypeId := 57
/-- A size, by value. -/
abbrev szV (q d : Int) : Value := .agg #[.int .i64 q, .int .i64 d]
theorem iSzValid_any (q d : Int) (w : World) : Calls Tryd.prog 79 #[szV q d] w fun e w' => e = .returned (.bool (in3 q 1 4 && in3 d 1 4)) ∧ Below w.heap.size w w' := by
  go_enter Tryd.func79, Tryd.ntmps79
  go_wp2
  all_goals (go_ret; exact ⟨retb (by rw [Bool.eq_iff_iff]; simp [in3]; try omega), by first | exact (Below.refl _ _).alloc (Nat.le_refl _) _ | exact Below.alloc (by assumption) (Nat.le_refl _) _⟩)
theorem iPlaces_any (q d : Int) (w : World) : Calls Tryd.prog 56 #[szV q d] w fun e w' => e = .returned (.func (.func 80) #[] #[.pointer (some ⟨w.heap.size, 0, none⟩)]) ∧ w' = w.alloc (.cells #[.int .i64 q, .int .i64 d] TG) := by
  go_enter Tryd.func56, Tryd.ntmps56
  go_wp2
  go_ret
  exact ⟨rfl, rfl⟩
end Go.Proofs.YtobgceebolmfcaaDoor
