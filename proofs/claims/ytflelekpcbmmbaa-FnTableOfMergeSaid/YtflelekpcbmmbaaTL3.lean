/- The laws' helpers of chapter 11: a mask turned. -/
import Derived.Test.YtflelekpcbmmbaaTL2
namespace Go.Proofs.Ytflelekpcbmmbaa
open Go.RowKit
def colM (m : Mk) (j : Nat) : List Bool := m.map fun r => r.getD j false
def turnTk (m : Mk) (k : Nat) : Mk := (List.range k).map (colM m)
theorem turnTk_succ (m : Mk) (k : Nat) : turnTk m (k + 1) = turnTk m k ++ [colM m k] := by simp [turnTk, List.range_succ]
theorem mturn_tk (m : Mk) {d : Nat} (h1 : 1 ≤ m.length) (hd : ∀ r ∈ m, r.length = d) : mturn m = turnTk m d := by
  cases m with
  | nil => simp at h1
  | cons r m => simp only [mturn, List.headD_cons, turnTk, hd r (by simp)]; rfl
theorem colM_snoc (m : Mk) (j p : Nat) (hp : p < m.length) : colM (m.take (p + 1)) j = colM (m.take p) j ++ [(m.getD p []).getD j false] := by
  rw [take_snocK m p hp]; simp [colM]
end Go.Proofs.Ytflelekpcbmmbaa
