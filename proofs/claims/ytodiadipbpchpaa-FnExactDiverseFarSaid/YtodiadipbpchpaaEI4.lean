/- Exact laws over rows of integers: marks in returned memory. -/
import Derived.Test.YtodiadipbpchpaaEI3
import Derived.Test.YtodiadipbpchpaaA1
namespace Go.Proofs.Ytodiadipbpchpaa
open Go.RowKit
/-- The numbers that marking writes into a row of n from K on. -/
def mk (K n : Nat) : List Int := (List.range n).map fun j => ((K + j : Nat) : Int)
theorem mk_len (K n : Nat) : (mk K n).length = n := by simp [mk]
theorem mk_get (K n j : Nat) (hj : j < n) : (mk K n).getD j 0 = ((K + j : Nat) : Int) := by
  unfold mk; rw [List.getD_eq_getElem?_getD, List.getElem?_map, List.getElem?_range hj]; rfl
theorem mk_succ (K n : Nat) : mk K (n + 1) = mk K n ++ [((K + n : Nat) : Int)] := by simp [mk, List.range_succ]
theorem mk_set (x : List Int) (K q : Nat) (hq : q < x.length) : (icells (mk K q ++ x.drop q)).set q (.int .i64 ((K + q : Nat) : Int)) = icells (mk K (q + 1) ++ x.drop (q + 1)) := by
  have hm := mk_len K q
  rw [icells_app, List.set_append_right _ _ (by rw [icells_len]; omega), icells_len, hm, Nat.sub_self, List.drop_eq_getElem_cons hq]
  simp only [icells, List.map_cons, List.set_cons_zero, List.map_append, mk_succ, List.append_assoc, List.cons_append, List.nil_append]
/-- All rows marked; the first k of them marked. -/
def cur (ll : List (List Int)) (k : Nat) : List (List Int) := (List.range ll.length).map fun i => if i < k then mk (1 + tot (ll.take i)) (ll.getD i []).length else ll.getD i []
theorem cur_len (ll : List (List Int)) (k : Nat) : (cur ll k).length = ll.length := by simp [cur]
theorem cur_get (ll : List (List Int)) (k i : Nat) (hi : i < ll.length) : (cur ll k).getD i [] = if i < k then mk (1 + tot (ll.take i)) (ll.getD i []).length else ll.getD i [] := by
  unfold cur; rw [List.getD_eq_getElem?_getD, List.getElem?_map, List.getElem?_range hi]; rfl
theorem cur_zero (ll : List (List Int)) : cur ll 0 = ll := by
  refine List.ext_getElem? fun i => ?_
  by_cases hi : i < ll.length
  · rw [cur, List.getElem?_map, List.getElem?_range hi]
    simp [List.getElem?_eq_getElem hi]
  · rw [List.getElem?_eq_none (by rw [cur_len]; omega), List.getElem?_eq_none (by omega)]
theorem Rws.mark {w w' : World} {B T k : Nat} {no : Option Nat} {hs : List Value} {ll : List (List Int)} (h : Rws w B T no hs (cur ll k)) (hk : k < ll.length)
    (ho : Own1 TN w' B (hs.getD k nilS) (icells (mk (1 + tot (ll.take k)) (ll.getD k []).length))) (hg : w.grownBy w' (hs.getD k nilS).ownBlock) (hT : T ≤ w.heap.size) : Rws w' B T no hs (cur ll (k + 1)) := by
  refine ⟨by rw [cur_len, h.1, cur_len], fun i hi => ?_, fun i j q hij hj e => h.2.2 i j q hij (by rw [cur_len] at *; exact hj) e⟩
  rw [cur_len] at hi
  obtain ⟨a1, a2⟩ := h.2.1 i (by rw [cur_len]; exact hi)
  refine ⟨?_, a2⟩
  rw [cur_get ll (k + 1) i hi]
  by_cases hik : i = k
  · subst hik; rw [if_pos (by omega)]; exact ho
  · have e : (if i < k + 1 then mk (1 + tot (ll.take i)) (ll.getD i []).length else ll.getD i []) = (cur ll k).getD i [] := by
      rw [cur_get ll k i hi]
      by_cases h2 : i < k
      · rw [if_pos (by omega), if_pos h2]
      · rw [if_neg (by omega), if_neg h2]
    rw [e]
    refine a1.same fun q eq => hg.block q (by have := (a2 q eq).1; omega) fun e2 => ?_
    rcases Nat.lt_or_gt_of_ne hik with hlt | hgt
    · exact h.2.2 i k q hlt (by rw [cur_len]; exact hk) eq e2.symm
    · exact h.2.2 k i q hgt (by rw [cur_len]; exact hi) e2.symm eq
end Go.Proofs.Ytodiadipbpchpaa
