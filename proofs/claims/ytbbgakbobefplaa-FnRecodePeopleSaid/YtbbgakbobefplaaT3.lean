import Derived.Test.YtbbgakbobefplaaT2
namespace Go.Proofs.Ytbbgakbobefplaa
open Go.RowKit
def cnt (l : List Pn) (a j s : Int) : Int := ((l.filter (fun p => fit3 p a j s)).length : Nat)
def psum (l : List Pn) (a j s : Int) : Int := ((l.filter (fun p => fit3 p a j s)).map Pn.pay).sum
def askOk (l : List Pn) (a j s : Int) : Bool := okL l && ask3 a j s
def many (l : List Pn) (a j s : Int) : Int := if askOk l a j s = true then cnt l a j s else -1
def pay (l : List Pn) (a j s : Int) : Int := if askOk l a j s = true then psum l a j s else -1

theorem cnt_take (l : List Pn) (a j s : Int) (k : Nat) (hk : k < l.length) : cnt (l.take (k + 1)) a j s = cnt (l.take k) a j s + if fit3 l[k] a j s = true then 1 else 0 := by
  rw [List.take_succ_eq_append_getElem hk]; simp only [cnt, List.filter_append, List.length_append, List.filter_cons, List.filter_nil]
  split <;> simp
theorem psum_take (l : List Pn) (a j s : Int) (k : Nat) (hk : k < l.length) : psum (l.take (k + 1)) a j s = psum (l.take k) a j s + if fit3 l[k] a j s = true then l[k].pay else 0 := by
  rw [List.take_succ_eq_append_getElem hk]; simp only [psum, List.filter_append, List.map_append, List.filter_cons, List.filter_nil]
  split <;> simp
theorem cnt_bd (l : List Pn) (a j s : Int) : 0 ≤ cnt l a j s ∧ cnt l a j s ≤ l.length := by
  have := List.length_filter_le (fun p => fit3 p a j s) l
  simp only [cnt]; omega
theorem psum_bd (l : List Pn) (a j s : Int) (h : l.all okP = true) : 0 ≤ psum l a j s ∧ psum l a j s ≤ 999 * l.length := by
  induction l with
  | nil => simp [psum]
  | cons p l ih =>
    simp only [List.all_cons, Bool.and_eq_true] at h
    have hp := okP_pay h.1
    have hi := ih h.2
    simp only [psum, List.filter_cons, List.length_cons] at *
    split
    · simp only [List.map_cons, List.sum_cons]; omega
    · omega
end Go.Proofs.Ytbbgakbobefplaa
