/- People in memory, by their value: what exact laws ask of them. -/
import Derived.Test.YtobgceebolmfcaaDoorEA
namespace Go.Proofs.YtobgceebolmfcaaDoor
open Go.RowKit
def szL (n : Nat) (left : Int) : Int := if (n : Int) ≤ left then left - n else -1
theorem szL_cases (n : Nat) {left : Int} (h0 : 0 ≤ left) (h1 : left ≤ 1048576) : szL n left = -1 ∨ (0 ≤ szL n left ∧ szL n left ≤ 1048576 ∧ n ≤ 1048576) := by
  unfold szL; split
  · right; omega
  · left; rfl
end Go.Proofs.YtobgceebolmfcaaDoor
