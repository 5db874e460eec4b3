/- Contracts of the model: TableSums, TableTotal. -/
import Derived.Test.YtobgceebolmfcaaDoorTS4
set_option maxRecDepth 100000
namespace Go.Proofs.YtobgceebolmfcaaDoor
open Go.RowKit
theorem sum_to_bd {x : List Int} (h : ∀ v ∈ x, 0 ≤ v ∧ v ≤ 1000) (k : Nat) (hl : x.length ≤ 1000) : 0 ≤ (x.take k).sum ∧ (x.take k).sum ≤ 1000000 := by
  have key : ∀ y : List Int, (∀ v ∈ y, 0 ≤ v ∧ v ≤ 1000) → 0 ≤ y.sum ∧ y.sum ≤ 1000 * y.length := fun y => by
    induction y with
    | nil => intro _; simp
    | cons v y ih =>
      intro h
      have h1 := ih fun u hu => h u (List.mem_cons_of_mem _ hu)
      have h2 := h v (by simp)
      rw [List.sum_cons, List.length_cons]; omega
  have h1 := key (x.take k) fun v hv => h v (List.mem_of_mem_take hv)
  have h2 : (x.take k).length ≤ x.length := by rw [List.length_take]; omega
  omega
theorem rsum_bd {t : Tb} (h : Tab t) : ∀ v ∈ rsum t, 0 ≤ v ∧ v ≤ 396 := fun v hv => by
  obtain ⟨r, hr, rfl⟩ := List.mem_map.1 hv
  have := sum_bd99 r (h.bd r hr)
  have := h.len r hr
  have := h.w4
  omega
end Go.Proofs.YtobgceebolmfcaaDoor
