/- Exact laws over rows of integers: their sizes, copies, equality. Rows of integers that are somebody's own, each row apart from the others. Exact laws over rows of integers: equality. Exact laws over rows of integers: marks in returned memory. Exact laws over rows of integers: marks are held. -/
import Derived.Test.YtjgohakiodcjmaaA7
import Derived.Test.YtjgohakiodcjmaaA3
import Derived.Test.YtjgohakiodcjmaaA1
namespace Go.Proofs.Ytjgohakiodcjmaa
open Go.RowKit
/-- A row anew, in one block of its own. -/
def CopiedI (x : List Int) (n : Nat) (w : World) (e : Ending) (w' : World) : Prop := ∃ g, e = .returned (.slice (some ⟨g, 0, none⟩) n n) ∧ w.heap.size ≤ g ∧ Own1 TN w' w.heap.size (.slice (some ⟨g, 0, none⟩) n n) (icells x) ∧ Below w.heap.size w w'
def tot (ll : List (List Int)) : Nat := (ll.map List.length).sum
theorem tot_take (ll : List (List Int)) (k : Nat) (hk : k < ll.length) : tot (ll.take (k + 1)) = tot (ll.take k) + (ll.getD k []).length := by
  unfold tot
  rw [List.take_succ_eq_append_getElem hk, List.map_append, List.sum_append, List.getD_eq_getElem?_getD, List.getElem?_eq_getElem hk]; simp
theorem tot_le (ll : List (List Int)) (k : Nat) : tot (ll.take k) ≤ tot ll := by
  have h : tot ll = tot (ll.take k) + tot (ll.drop k) := by unfold tot; rw [← List.sum_append, ← List.map_append, List.take_append_drop]
  omega
theorem tot_at (ll : List (List Int)) (k : Nat) (hk : k < ll.length) : (ll.getD k []).length ≤ tot ll := by
  have h1 := tot_take ll k hk
  have h2 := tot_le ll (k + 1)
  omega
def fits (ll : List (List Int)) : Bool := decide (ll.length + tot ll ≤ 1048576)
def szOf (ll : List (List Int)) : Int := if fits ll = true then 1048576 - ll.length - tot ll else -1
end Go.Proofs.Ytjgohakiodcjmaa
namespace Go.Proofs.Ytjgohakiodcjmaa
open Go.RowKit
theorem Own1.slot {T : TypeId} {w : World} {B : Nat} {v : Value} {cs : List Value} (h : Own1 T w B v cs) (k : Nat) (hk : k < cs.length) :
    ∃ g c, v = .slice (some ⟨g, 0, none⟩) cs.length c ∧ w.cell? ⟨g, k, none⟩ = cs[k]? ∧ w.frozen? ⟨g, k, none⟩ = false := by
  rcases id h.2 with ⟨rfl, h0⟩ | ⟨g, cap, cur, rfl, _⟩
  · omega
  · exact ⟨g, cap, rfl, h.cellAt k hk⟩
end Go.Proofs.Ytjgohakiodcjmaa
namespace Go.Proofs.Ytjgohakiodcjmaa
open Go.RowKit
theorem szOf_no {ll : List (List Int)} (h : fits ll = false) : szOf ll = -1 := by simp [szOf, h]
theorem szOf_yes {ll : List (List Int)} (h : fits ll = true) : 0 ≤ szOf ll ∧ szOf ll ≤ 1048576 := by
  have h2 : ll.length + tot ll ≤ 1048576 := by simpa [fits] using h
  rw [szOf, if_pos h]; omega
theorem Mine.ll {w : World} {B T : Nat} {A : Option Addr} {n c : Nat} {ll : List (List Int)} (h : Mine w B T (.slice A n c) ll) : LL w w.heap.size A ll := by
  obtain ⟨A', c', hv, _, _, hl⟩ := h.own.form
  injection hv with e1 e2 e3
  subst e1
  exact hl
end Go.Proofs.Ytjgohakiodcjmaa
namespace Go.Proofs.Ytjgohakiodcjmaa
open Go.RowKit
/-- The numbers that marking writes into a row of n from K on. -/
def mk (K n : Nat) : List Int := (List.range n).map fun j => ((K + j : Nat) : Int)
theorem mkx_len (K n : Nat) : (mk K n).length = n := by simp [mk]
theorem mk_get (K n j : Nat) (hj : j < n) : (mk K n).getD j 0 = ((K + j : Nat) : Int) := by
  unfold mk; rw [List.getD_eq_getElem?_getD, List.getElem?_map, List.getElem?_range hj]; rfl
theorem mk_succ (K n : Nat) : mk K (n + 1) = mk K n ++ [((K + n : Nat) : Int)] := by simp [mk, List.range_succ]
theorem mkx_set (x : List Int) (K q : Nat) (hq : q < x.length) : (icells (mk K q ++ x.drop q)).set q (.int .i64 ((K + q : Nat) : Int)) = icells (mk K (q + 1) ++ x.drop (q + 1)) := by
  have hm := mkx_len K q
  rw [icells_app, List.set_append_right _ _ (by rw [icells_len]; omega), icells_len, hm, Nat.sub_self, List.drop_eq_getElem_cons hq]
  simp only [icells, List.map_cons, List.set_cons_zero, List.map_append, mk_succ, List.append_assoc, List.cons_append, List.nil_append]
/-- All rows marked; the first k of them marked. -/
def cur (ll : List (List Int)) (k : Nat) : List (List Int) := (List.range ll.length).map fun i => if i < k then mk (1 + tot (ll.take i)) (ll.getD i []).length else ll.getD i []
theorem cur_len (ll : List (List Int)) (k : Nat) : (cur ll k).length = ll.length := by simp [cur]
theorem cur_get (ll : List (List Int)) (k i : Nat) (hi : i < ll.length) : (cur ll k).getD i [] = if i < k then mk (1 + tot (ll.take i)) (ll.getD i []).length else ll.getD i [] := by
  unfold cur; rw [List.getD_eq_getElem?_getD, List.getElem?_map, List.getElem?_range hi]; rfl
theorem cur_zero (ll : List (List Int)) : cur ll 0 = ll := by
  refine List.ext_getElem? fun i => ?_
  by_cases hi : i < ll.length
  · rw [cur, List.getElem?_map, List.getElem?_range hi]
    simp [List.getElem?_eq_getElem hi]
  · rw [List.getElem?_eq_none (by rw [cur_len]; omega), List.getElem?_eq_none (by omega)]
theorem Rws.mark {w w' : World} {B T k : Nat} {no : Option Nat} {hs : List Value} {ll : List (List Int)} (h : Rws w B T no hs (cur ll k)) (hk : k < ll.length)
    (ho : Own1 TN w' B (hs.getD k nilS) (icells (mk (1 + tot (ll.take k)) (ll.getD k []).length))) (hg : w.grownBy w' (hs.getD k nilS).ownBlock) (hT : T ≤ w.heap.size) : Rws w' B T no hs (cur ll (k + 1)) := by
  refine ⟨by rw [cur_len, h.1, cur_len], fun i hi => ?_, fun i j q hij hj e => h.2.2 i j q hij (by rw [cur_len] at *; exact hj) e⟩
  rw [cur_len] at hi
  obtain ⟨a1, a2⟩ := h.2.1 i (by rw [cur_len]; exact hi)
  refine ⟨?_, a2⟩
  rw [cur_get ll (k + 1) i hi]
  by_cases hik : i = k
  · subst hik; rw [if_pos (by omega)]; exact ho
  · have e : (if i < k + 1 then mk (1 + tot (ll.take i)) (ll.getD i []).length else ll.getD i []) = (cur ll k).getD i [] := by
      rw [cur_get ll k i hi]
      by_cases h2 : i < k
      · rw [if_pos (by omega), if_pos h2]
      · rw [if_neg (by omega), if_neg h2]
    rw [e]
    refine a1.same fun q eq => hg.block q (by have := (a2 q eq).1; omega) fun e2 => ?_
    rcases Nat.lt_or_gt_of_ne hik with hlt | hgt
    · exact h.2.2 i k q hlt (by rw [cur_len]; exact hk) eq e2.symm
    · exact h.2.2 k i q hgt (by rw [cur_len]; exact hi) e2.symm eq
end Go.Proofs.Ytjgohakiodcjmaa
namespace Go.Proofs.Ytjgohakiodcjmaa
open Go.RowKit
theorem Mine.far {w w' : World} {B T B' T' : Nat} {v : Value} {ll : List (List Int)} (h : Mine w B T v ll) (hw : Within w w' B' T') (hd : T ≤ B' ∨ T' ≤ B) : Mine w' B T v ll :=
  h.same hw.2.2.2.1 fun k h1 h2 => hw.2.2.2.2 k (Nat.lt_of_lt_of_le h2 h.1) (by omega)
theorem Mine.le {w : World} {B T : Nat} {v : Value} {ll : List (List Int)} (h : Mine w B T v ll) : T ≤ w.heap.size := h.1
theorem Mine.sl {w : World} {B T : Nat} {v : Value} {ll : List (List Int)} (h : Mine w B T v ll) : ∃ A c, v = .slice A ll.length c := by
  obtain ⟨A, c, hv, _⟩ := h.own.form
  exact ⟨A, c, hv⟩
end Go.Proofs.Ytjgohakiodcjmaa
