/- Bounds of sums. Mathematics alone. -/
import Derived.Test.YtkdffgcmnanniaaDF
namespace Go.Proofs.Ytkdffgcmnanniaa
theorem sum_bdM (M : Int) : ∀ l : List Int, (∀ x ∈ l, 0 ≤ x ∧ x ≤ M) → 0 ≤ l.sum ∧ l.sum ≤ M * l.length
  | [], _ => by simp
  | x :: l, h => by
    have h1 := sum_bdM M l fun y hy => h y (List.mem_cons_of_mem _ hy)
    have h2 := h x (by simp)
    simp only [List.sum_cons, List.length_cons]
    have e : M * ((l.length + 1 : Nat) : Int) = M * (l.length : Int) + M := by rw [Int.natCast_add, Int.mul_add]; simp
    rw [e]
    generalize M * (l.length : Int) = z at *
    omega
theorem rsum_bdH {t : Tb} (h : Tab t) : ∀ y ∈ rsum t, 0 ≤ y ∧ y ≤ 396 := fun y hy => by
  obtain ⟨r, hr, rfl⟩ := List.mem_map.1 hy
  have := sum_bd99 r (h.bd r hr)
  have h2 := h.len r hr
  have h3 := h.w4
  omega
theorem rsum_bdG {t : Tb} (h : Tab t) {i : Nat} (hi : i < t.length) : 0 ≤ (rsum t).getD i 0 ∧ (rsum t).getD i 0 ≤ 396 := by
  rw [getD_of _ _ (by rw [rsum_len]; exact hi)]
  exact rsum_bdH h _ (List.getElem_mem _)
theorem csum_bdG {t : Tb} (h : Tab t) {i : Nat} (hi : i < wd t) : 0 ≤ (csum t).getD i 0 ∧ (csum t).getD i 0 ≤ 396 := by
  rw [← rsum_turn]
  exact rsum_bdG (tab_turn h) (by rw [turn_len]; exact hi)
theorem ttot_bd {t : Tb} (h : Tab t) : 0 ≤ ttot t ∧ ttot t ≤ 100000 := by
  rw [ttot, if_pos (tab_iff.2 h), tsum]
  have h1 := sum_bdM 396 (rsum t) (rsum_bdH h)
  have h2 := h.h4
  rw [rsum_len] at h1
  omega
end Go.Proofs.Ytkdffgcmnanniaa
