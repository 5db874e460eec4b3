/- Ladders' functions, by values. -/
import Derived.Test.YtobgceebolmfcaaDoorA3
namespace Go.Proofs.YtobgceebolmfcaaDoor
open Go.RowKit
/-- A value, and nothing more. -/
def VR (v : Value) (w : World) (e : Ending) (w' : World) : Prop := e = .returned v ∧ w = w'
theorem VR.draws {v : Value} {w : World} {e : Ending} {w' : World} (h : VR v w e w') : QR v w e w' := by
  obtain ⟨he, rfl⟩ := h; exact ⟨he, 0, rfl⟩
def keepsAt (ll : List (List Int)) (k : Nat) (j : Nat) : Bool := decide (codeAt ll ((k + 1 : Nat) : Int) j = codeAt ll ((k + 1 : Nat) : Int) (codeAt ll k j))
def keeps (ll : List (List Int)) (k : Nat) : Bool := (List.range 4).all (keepsAt ll k)
theorem codeAt_succ (ll : List (List Int)) (k : Nat) (c : Int) : codeAt ll ((k + 1 : Nat) : Int) c = ig (ll.getD k []) c := by
  have e : ((((k + 1 : Nat) : Int) - 1).toNat) = k := by omega
  rw [codeAt, if_neg (by omega), e]
theorem keeps_rung {ll : List (List Int)} {k : Nat} : keeps ll k = (decide (k = 0) || coarser (ll.getD (k - 1) []) (ll.getD k [])) := by
  rcases k with _ | k
  · simp only [decide_true, Bool.true_or]
    refine all_range.2 fun j _ => ?_
    rw [keepsAt]; simp [codeAt]
  · have e0 : decide (k + 1 = 0) = false := by simp
    rw [e0, Bool.false_or, keeps, coarser]
    congr 1
    funext j
    rw [keepsAt, cAt, codeAt_succ, codeAt_succ, codeAt_succ, Nat.add_sub_cancel]
    have e1 : ig (ll.getD k []) (j : Int) = (ll.getD k []).getD j 0 := by simp [ig]
    have e2 : ig (ll.getD (k + 1) []) (j : Int) = (ll.getD (k + 1) []).getD j 0 := by simp [ig]
    rw [e1, e2]
    rw [Bool.eq_iff_iff, decide_eq_true_eq, decide_eq_true_eq]
    exact eq_comm
/-- What a code at a level is, once the step there is one. -/
theorem codeAt_vals {ll : List (List Int)} {k : Nat} (hst : k ≠ 0 → stepOk (ll.getD (k - 1) []) = true) {j : Nat} (hj : j < 4) : 0 ≤ codeAt ll k j ∧ codeAt ll k j ≤ 3 := by
  rcases k with _ | k
  · simp [codeAt]; omega
  · obtain ⟨_, h⟩ := stepOk_vals (hst (by omega))
    obtain ⟨v, h1, h2, _⟩ := h j hj
    rw [Nat.add_sub_cancel] at h1
    rw [codeAt_succ, ig]
    rw [show ((j : Int).toNat) = j by omega, h1]
    omega
end Go.Proofs.YtobgceebolmfcaaDoor
namespace Go.Proofs.YtobgceebolmfcaaDoor
open Go.RowKit
theorem lad_code {ll : List (List Int)} (h : ladOk ll = true) {level code : Int} (l0 : 0 ≤ level) (l1 : level ≤ ll.length) (c1 : code ≤ 3) : level ≠ 0 → code.toNat < (ll.getD (level - 1).toNat []).length := fun h0 => by
  rw [(stepOk_vals (lad_step h (level - 1).toNat (by omega))).1]; omega
theorem groupOk_parts {ll : List (List Int)} {level : Int} : groupOk ll level = true ↔ ladOk ll = true ∧ 0 ≤ level ∧ level ≤ ll.length := by
  simp only [groupOk, Bool.and_eq_true, in3_parts]
end Go.Proofs.YtobgceebolmfcaaDoor
namespace Go.Proofs.YtobgceebolmfcaaDoor
open Go.RowKit
end Go.Proofs.YtobgceebolmfcaaDoor
