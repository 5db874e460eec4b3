/- People in memory, by their value: what exact laws ask of them. -/
import Derived.Test.YtofnhiigojlmbaaE3
namespace Go.Proofs.Ytofnhiigojlmbaa
open Go.RowKit
/-- The numbers that marking writes. -/
def mpK (K q : Nat) : Pn := ⟨(K : Int) + 4 * q, (K : Int) + 4 * q + 1, (K : Int) + 4 * q + 2, (K : Int) + 4 * q + 3⟩
def marksK (K n : Nat) : List Pn := (List.range n).map (mpK K)
theorem marksK_len (K n : Nat) : (marksK K n).length = n := by simp [marksK]
theorem marksK_get (K n k : Nat) (hk : k < (marksK K n).length) : (marksK K n)[k] = mpK K k := by simp [marksK]
theorem markK_set (K : Nat) (l : List Pn) (q : Nat) (hq : q < l.length) : (marksK K q ++ l.drop q).set q (mpK K q) = marksK K (q + 1) ++ l.drop (q + 1) := by
  have hm := marksK_len K q
  rw [List.set_append_right _ _ (by omega), hm, Nat.sub_self, List.drop_eq_getElem_cons hq, List.set_cons_zero]
  simp [marksK, List.range_succ]
theorem own_noneX {w : World} (B : Nat) : Own w B (.slice none 0 0) [] := ⟨rfl, .inl ⟨rfl, rfl⟩⟩
def szL (n : Nat) (left : Int) : Int := if (n : Int) ≤ left then left - n else -1
theorem szL_cases (n : Nat) {left : Int} (h0 : 0 ≤ left) (h1 : left ≤ 1048576) : szL n left = -1 ∨ (0 ≤ szL n left ∧ szL n left ≤ 1048576 ∧ n ≤ 1048576) := by
  unfold szL; split
  · right; omega
  · left; rfl
end Go.Proofs.Ytofnhiigojlmbaa
