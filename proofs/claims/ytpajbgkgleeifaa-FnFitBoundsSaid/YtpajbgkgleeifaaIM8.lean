/- Contracts of the program: tables turned. -/
import Derived.Test.YtpajbgkgleeifaaIM7
import Derived.Test.YtpajbgkgleeifaaIM6
namespace Go.Proofs.Ytpajbgkgleeifaa
open Go.RowKit Go.Shelf
attribute [local go_sem] Oper.semAt_some
def gotB {q d : Nat} (pre : List (Pc q d)) (i j : Nat) : Bool := pre.any fun x => decide (x.1.val = i ∧ x.2.val = j)
theorem gotB_nil {q d : Nat} (i j : Nat) : gotB ([] : List (Pc q d)) i j = false := rfl
theorem gotB_snoc {q d : Nat} (pre : List (Pc q d)) (x : Pc q d) (i j : Nat) : gotB (pre ++ [x]) i j = (gotB pre i j || decide (x.1.val = i ∧ x.2.val = j)) := by simp [gotB]
theorem gotB_all {q d : Nat} {i j : Nat} (hi : i < q) (hj : j < d) : gotB (plc q d) i j = true := by
  unfold gotB
  rw [List.any_eq_true]
  exact ⟨(⟨i, hi⟩, ⟨j, hj⟩), plc_mem _, by simp⟩
def turnBy (t : Tb) {q d : Nat} (pre : List (Pc q d)) : Tb := mat d q fun a b => if gotB pre b a = true then (t.getD b []).getD a 0 else 0
theorem turnBy_nil (t : Tb) {q d : Nat} : turnBy t ([] : List (Pc q d)) = List.replicate d (zerow q) := by
  have h := zeros_mat d q
  unfold zeros zrow at h
  unfold turnBy zerow
  rw [h]
  exact mat_ext fun a b _ _ => by rw [gotB_nil]; rfl
theorem turnBy_snoc (t : Tb) {q d : Nat} (pre : List (Pc q d)) (x : Pc q d) :
    (turnBy t pre).set x.2.val (((turnBy t pre).getD x.2.val []).set x.1.val ((t.getD x.1.val []).getD x.2.val 0)) = turnBy t (pre ++ [x]) := by
  rw [turnBy, mat_set _ _ _ x.2.isLt x.1.isLt, turnBy]
  refine mat_ext fun a b _ _ => ?_
  rw [gotB_snoc]
  by_cases h : a = x.2.val ∧ b = x.1.val
  · rw [if_pos h, h.1, h.2]; simp
  · rw [if_neg h]
    have : decide (x.1.val = b ∧ x.2.val = a) = false := decide_eq_false fun e => h ⟨e.2.symm, e.1.symm⟩
    rw [this, Bool.or_false]
theorem turnBy_all (t : Tb) : turnBy t (plc t.length (wd t)) = turn t := by
  rw [turn_mat, turnBy]
  exact mat_ext fun a b ha hb => by rw [if_pos (gotB_all hb ha)]
theorem Mine.from_ {B T n : Nat} {β : Type} (f : β → Tb) (v : Value) (hn : T ≤ n) : OwnFrom n (fun (s : β) X => Mine X B T v (f s)) := fun s X Y row hs hg hr =>
  hs.same hg.size fun k _ hT => hg.block k (Nat.lt_of_lt_of_le hT hs.1) fun e => by have := (hr k e.symm).1; omega
theorem cells_from {n g : Nat} {β : Type} {a : Array Value} {T : TypeId} : OwnFrom n (fun (_ : β) X => X.heap[g]? = some (.cells a T (0, 0))) := fun _ _ _ _ hs hg hr =>
  (grownBy_keeps_cells hg (fun r e => (hr r e).2) hs rfl).trans hs
/-- Two further blocks. -/
theorem two_blk (w : World) (a b : Array Value) (T T' : TypeId) : ∃ W3, W3 = (w.alloc (.cells a T)).alloc (.cells b T') ∧ Below w.heap.size w W3 ∧ W3.heap.size = w.heap.size + 1 + 1 ∧
    W3.heap[w.heap.size]? = some (.cells a T (0, 0)) ∧ W3.heap[w.heap.size + 1]? = some (.cells b T' (0, 0)) :=
  ⟨_, rfl, ((Below.refl _ _).alloc (Nat.le_refl _) _).alloc (by simp) _, by simp, keepI1, newI1⟩
theorem one_blk (w : World) (a : Array Value) (T : TypeId) : ∃ W3, W3 = w.alloc (.cells a T) ∧ Below w.heap.size w W3 ∧ W3.heap.size = w.heap.size + 1 ∧ W3.heap[w.heap.size]? = some (.cells a T (0, 0)) :=
  ⟨_, rfl, (Below.refl _ _).alloc (Nat.le_refl _) _, by simp, heap_alloc_new _ _⟩
theorem none_own {w w1 : World} {o : Obj} (hz : w.heap.size ≤ w1.heap.size) : Mine ((w1.alloc o).alloc (.cells #[] TI)) w.heap.size ((w1.alloc o).alloc (.cells #[] TI)).heap.size (.slice (some ⟨w1.heap.size + 1, 0, none⟩) 0 0) [] := by
  have h := mine_new (w := w1.alloc o) (B := w.heap.size) (by simp; omega)
  rw [World.size_alloc] at h
  exact h.up
end Go.Proofs.Ytpajbgkgleeifaa
