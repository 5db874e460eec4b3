import Derived.Test.YtmmabdioncgkoaaA4
namespace Go.Proofs.Ytmmabdioncgkoaa
open Go.RowKit
def pz : Pn := ⟨0, 0, 0, 0⟩
theorem toPerson_any (p : Pn) (w : World) : Calls Try.prog 53 #[p.val] w fun e w' => e = .returned p.val ∧ Below w.heap.size w w' := by
  go_enter Try.func53, Try.ntmps53
  go_wp2
  refine bodyPost_ret (v := p.val) (by simp [results, Try.results53, go_sem]) rfl ⟨rfl, ?_⟩
  exact (((Below.refl _ _).alloc (Nat.le_refl _) _).alloc (by simp) _).alloc (by simp; omega) _
def eqP (p q : Pn) : Bool := decide (p.area = q.area) && decide (p.job = q.job) && decide (p.sex = q.sex) && decide (p.pay = q.pay)
theorem eqPerson_any (p q : Pn) (w : World) : Calls Try.prog 56 #[p.val, q.val] w fun e w' => e = .returned (.bool (eqP p q)) ∧ Below w.heap.size w w' := by
  go_enter Try.func56, Try.ntmps56
  go_wp2
  all_goals
    go_ret
    exact ⟨retb (by simp only [bne_iff_ne, ne_eq, bne_eq_false_iff_eq] at *; simp [eqP, *]), ((Below.refl _ _).alloc (Nat.le_refl _) _).alloc (by simp) _⟩
theorem sz_any (A : Option Addr) (n c : Nat) (hn : n ≤ maxLen) (w : World) : Calls Try.prog 17 #[.slice A n c, .int .i64 1048576] w fun e w' => e = .returned (.int .i64 (if n ≤ 1048576 then 1048576 - n else -1)) ∧ w = w' := by
  unfold maxLen at hn
  by_cases h : n ≤ 1048576
  · go_enter Try.func17, Try.ntmps17
    go_wp2
    go_ret
    exact ⟨rfl, rfl⟩
  · go_enter Try.func17, Try.ntmps17
    go_wp2
    go_ret
    exact ⟨rfl, rfl⟩
end Go.Proofs.Ytmmabdioncgkoaa
