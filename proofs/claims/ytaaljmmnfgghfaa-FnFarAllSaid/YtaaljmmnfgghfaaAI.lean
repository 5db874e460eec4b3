/- Contracts of the program: anonymity but for the best recoding. -/
import Derived.Test.YtaaljmmnfgghfaaAM
import Derived.Test.YtaaljmmnfgghfaaGC
namespace Go.Proofs.Ytaaljmmnfgghfaa
open Go.RowKit Go.Maps
def keepAt (x : List Pn) (k : Int) (n : Nat) : List Pn := (x.take n).filter (bigP x k)
theorem keepAt_succ (x : List Pn) (k : Int) (n : Nat) (hn : n < x.length) : keepAt x k (n + 1) = keepAt x k n ++ if k ≤ (cn (keys x) (key x[n]) : Int) then [x[n]] else [] := by
  unfold keepAt
  rw [List.take_succ_eq_append_getElem hn, List.filter_append]
  congr 1
  by_cases h : k ≤ (cn (keys x) (key x[n]) : Int)
  · rw [if_pos h, List.filter_cons, if_pos (by rw [bigP, big, decide_eq_true_eq]; exact h)]; rfl
  · rw [if_neg h, List.filter_cons, if_neg (by rw [bigP, big, decide_eq_true_eq]; exact h)]; rfl
theorem keepAt_all (x : List Pn) (k : Int) : keepAt x k x.length = keepP x k := by unfold keepAt keepP; rw [List.take_length]
theorem keepAt_len (x : List Pn) (k : Int) (n : Nat) : (keepAt x k n).length ≤ n := by
  have h1 := List.length_filter_le (bigP x k) (x.take n)
  have h2 := List.length_take_le n x
  unfold keepAt; omega
end Go.Proofs.Ytaaljmmnfgghfaa
