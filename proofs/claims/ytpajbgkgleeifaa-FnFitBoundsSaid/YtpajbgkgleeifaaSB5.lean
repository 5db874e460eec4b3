/- The model's bounds: told cells. -/
import Derived.Test.YtpajbgkgleeifaaSBA
namespace Go.Proofs.Ytpajbgkgleeifaa
open Go.RowKit
/-- Is the cell told: 1 or 0. -/
noncomputable def tC (t : Tb) (m : Mk) (k l : Nat) : Int := if toldB t m k l = true then 1 else 0
theorem tC_bd (t : Tb) (m : Mk) (k l : Nat) : 0 ≤ tC t m k l ∧ tC t m k l ≤ 1 := by unfold tC; split <;> omega
theorem tC_row (t : Tb) (m : Mk) (k n : Nat) : 0 ≤ sm n (tC t m k) ∧ sm n (tC t m k) ≤ n := by
  refine ⟨sm_pos fun l _ => (tC_bd t m k l).1, ?_⟩
  have := sm_le_mul (n := n) (f := tC t m k) (c := 1) fun l _ => (tC_bd t m k l).2
  omega
theorem tC_all (t : Tb) (m : Mk) (k n : Nat) : 0 ≤ sm k (fun a => sm n (tC t m a)) ∧ sm k (fun a => sm n (tC t m a)) ≤ k * n := by
  exact ⟨sm_pos fun a _ => (tC_row t m a n).1, sm_le_mul fun a _ => (tC_row t m a n).2⟩
theorem toldN_yes {t : Tb} {m : Mk} (h : mkOk t m = true) : toldN t m = sm t.length (fun a => sm (wd t) (tC t m a)) := by unfold toldN; rw [if_pos h]; rfl
theorem toldN_no {t : Tb} {m : Mk} (h : mkOk t m = false) : toldN t m = -1 := by unfold toldN; rw [h]; rfl
end Go.Proofs.Ytpajbgkgleeifaa
