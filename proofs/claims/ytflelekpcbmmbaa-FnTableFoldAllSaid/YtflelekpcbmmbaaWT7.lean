/- Laws of chapter 11 on folded tables. -/
import Derived.Test.YtflelekpcbmmbaaTI
import Derived.Test.YtflelekpcbmmbaaTL4
import Derived.Test.YtflelekpcbmmbaaTD3
import Derived.Test.YtflelekpcbmmbaaA2
import Derived.Test.YtflelekpcbmmbaaA4
import Derived.BigQuiet
import Derived.Deep.RegionHeld3
set_option maxRecDepth 100000
namespace Go.Proofs.Ytflelekpcbmmbaa
open Go.RowKit
theorem rsum_at {t : Tb} {i : Nat} (hi : i < t.length) : (rsum t).getD i 0 = (t.getD i []).sum := by
  rw [getD_of _ _ (by rw [rsum_len]; exact hi), getD_of _ _ hi]; simp [rsum]
def atF (j k : Nat) : Nat := if k ≤ j then k else k - 1
theorem atF_lt {j k : Nat} (h : k < j) : atF j k = k ∧ atF j (k + 1) = k + 1 := by unfold atF; rw [if_pos (by omega), if_pos (by omega)]; exact ⟨rfl, rfl⟩
theorem atF_eq (j : Nat) : atF j j = j ∧ atF j (j + 1) = j := by unfold atF; rw [if_pos (by omega), if_neg (by omega)]; exact ⟨rfl, rfl⟩
theorem atF_gt {j k : Nat} (h : j < k) : atF j k = k - 1 ∧ atF j (k + 1) = k - 1 + 1 := by unfold atF; rw [if_neg (by omega), if_neg (by omega)]; exact ⟨rfl, by omega⟩
theorem atF_step {j k : Nat} (h : k ≠ j) : atF j (k + 1) = atF j k + 1 := by
  rcases Nat.lt_or_ge k j with h1 | h1
  · rw [(atF_lt h1).1, (atF_lt h1).2]
  · rw [(atF_gt (show j < k by omega)).1, (atF_gt (show j < k by omega)).2]
theorem fold_row {t : Tb} {i j : Nat} (hij : i < j) (hj : j < t.length) {k : Nat} (hk : k < t.length) (hkj : k ≠ j) : (foldT t i j).getD (atF j k) [] = if k = i then addRow (t.getD i []) (t.getD j []) else t.getD k [] := by
  have h := fold_get t hij hj hk hkj
  have e : (if k < j then k else k - 1) = atF j k := by
    unfold atF
    by_cases h1 : k < j
    · rw [if_pos h1, if_pos (show k ≤ j by omega)]
    · rw [if_neg h1, if_neg (show ¬ k ≤ j by omega)]
  rw [e] at h; exact h
theorem atF_bd {j k q : Nat} (hk : k < q) (hj : j < q) (hkj : k ≠ j) : atF j k < q - 1 := by unfold atF; split <;> omega
theorem rsum_bdF {t : Tb} (h : Tab t) {i : Nat} (hi : i < t.length) : 0 ≤ (t.getD i []).sum ∧ (t.getD i []).sum ≤ 1000000 := by
  have hm : t.getD i [] ∈ t := by rw [getD_of _ _ hi]; exact List.getElem_mem _
  have := sum_bd99 _ (h.bd _ hm)
  have h2 := h.len _ hm
  have h3 := h.w4
  omega
end Go.Proofs.Ytflelekpcbmmbaa
