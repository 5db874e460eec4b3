import Derived.Test.YtcfcimfhpbjjnaaT9
namespace Go.Proofs.Ytcfcimfhpbjjnaa
open Go.RowKit
theorem toPerson_any (p : Pn) (w : World) : Calls Try.prog 26 #[p.val] w fun e w' => e = .returned p.val ∧ Below w.heap.size w w' := by
  go_enter Try.func26, Try.ntmps26
  go_wp2
  refine bodyPost_ret (v := p.val) (by simp [results, Try.results26, go_sem]) rfl ⟨rfl, ?_⟩
  exact (((Below.refl _ _).alloc (Nat.le_refl _) _).alloc (by simp) _).alloc (by simp; omega) _
def eqP (p q : Pn) : Bool := decide (p.area = q.area) && decide (p.job = q.job) && decide (p.sex = q.sex) && decide (p.pay = q.pay)
theorem eqPerson_any (p q : Pn) (w : World) : Calls Try.prog 46 #[p.val, q.val] w fun e w' => e = .returned (.bool (eqP p q)) ∧ Below w.heap.size w w' := by
  go_enter Try.func46, Try.ntmps46
  go_wp2
  all_goals
    go_ret
    exact ⟨retb (by simp only [bne_iff_ne, ne_eq, bne_eq_false_iff_eq] at *; simp [eqP, *]), ((Below.refl _ _).alloc (Nat.le_refl _) _).alloc (by simp) _⟩
theorem sz_any (A : Option Addr) (n c : Nat) (hn : n ≤ maxLen) (w : World) : Calls Try.prog 27 #[.slice A n c, .int .i64 1048576] w fun e w' => e = .returned (.int .i64 (if n ≤ 1048576 then 1048576 - n else -1)) ∧ w = w' := by
  unfold maxLen at hn
  by_cases h : n ≤ 1048576
  · go_enter Try.func27, Try.ntmps27
    go_wp2
    go_ret
    exact ⟨rfl, rfl⟩
  · go_enter Try.func27, Try.ntmps27
    go_wp2
    go_ret
    exact ⟨rfl, rfl⟩
theorem w_ExactPeopleBand (x : Int) (w : World) : Calls Try.prog 13 #[.int .i64 x] w fun e w' => e = .returned (.bool true) ∧ Below w.heap.size w w' := by
  go_enter Try.func13, Try.ntmps13
  go_wp2_with fail
  refine (sBand_any x _).mono ?_
  rintro e w' ⟨rfl, rfl⟩
  go_wp2_with fail
  refine (band_any x _).mono ?_
  rintro e w' ⟨rfl, rfl⟩
  go_wp2
  go_ret
  exact ⟨rfl, Below.refl _ _⟩
theorem w_ExactPersonValid (p : Pn) (w : World) : Calls Try.prog 8 #[p.val] w fun e w' => e = .returned (.bool true) ∧ Below w.heap.size w w' := by
  go_enter Try.func8, Try.ntmps8
  go_wp2_with fail
  refine (toPerson_any p _).mono ?_
  rintro e w1 ⟨rfl, h1⟩
  have hz1 : w.heap.size < w1.heap.size := by have := h1.size; simp at this; omega
  have c0 : w1.cell? ⟨w.heap.size, 0, none⟩ = some (.int .i64 p.area) := by rw [h1.cell (p := ⟨w.heap.size, 0, none⟩) (by simp)]; simp [go_sem]
  have c1 : w1.cell? ⟨w.heap.size, 1, none⟩ = some (.int .i64 p.job) := by rw [h1.cell (p := ⟨w.heap.size, 1, none⟩) (by simp)]; simp [go_sem]
  have c2 : w1.cell? ⟨w.heap.size, 2, none⟩ = some (.int .i64 p.sex) := by rw [h1.cell (p := ⟨w.heap.size, 2, none⟩) (by simp)]; simp [go_sem]
  have c3 : w1.cell? ⟨w.heap.size, 3, none⟩ = some (.int .i64 p.pay) := by rw [h1.cell (p := ⟨w.heap.size, 3, none⟩) (by simp)]; simp [go_sem]
  have hb1 : Below w.heap.size w w1 := ((Below.refl _ _).alloc (Nat.le_refl _) _).trans (h1.mono (by simp))
  clear h1
  go_wp2_with fail
  refine (sPersonValid_any p _).mono ?_
  rintro e w2 ⟨rfl, rfl⟩
  go_wp2_with fail
  refine (toPerson_any p _).mono ?_
  rintro e w3 ⟨rfl, h3⟩
  go_wp2_with fail
  refine (personValid_any p _).mono ?_
  rintro e w4 ⟨rfl, rfl⟩
  have hb3 : Below w.heap.size w w3 := (hb1.alloc (by omega) _).trans (h3.mono (by simp; omega))
  go_wp2
  go_ret
  exact ⟨rfl, hb3.alloc hb3.size _⟩
end Go.Proofs.Ytcfcimfhpbjjnaa
