/- Recodings and groups of people: what they are. -/
import Derived.Test.YtbbgakbobefplaaT2
import Derived.Test.YtbbgakbobefplaaL0
import Derived.Test.YtbbgakbobefplaaG1
namespace Go.Proofs.Ytbbgakbobefplaa
open Go.RowKit
structure Rc where
  area : Int
  job : Int
  sex : Int
deriving DecidableEq
abbrev Rc.val (r : Rc) : Value := .agg #[.int .i64 r.area, .int .i64 r.job, .int .i64 r.sex]
def rcOk (ll : List (List Int)) (r : Rc) : Bool := ladOk ll && in3 r.area 0 ll.length && in3 r.job 0 1 && in3 r.sex 0 1
/-- A person recoded. -/
def rec1 (ll : List (List Int)) (r : Rc) (p : Pn) : Pn := ⟨codeAt ll r.area p.area, if r.job = 1 then 0 else p.job, if r.sex = 1 then 0 else p.sex, p.pay⟩
def recL (ll : List (List Int)) (r : Rc) (l : List Pn) : List Pn := l.map (rec1 ll r)
def grOk (l : List Pn) (ll : List (List Int)) (r : Rc) : Bool := okL l && rcOk ll r
def key (p : Pn) : Int × Int × Int := (p.area, p.job, p.sex)
def keys (x : List Pn) : List (Int × Int × Int) := x.map key
def keysOf (l : List Pn) (ll : List (List Int)) (r : Rc) : List (Int × Int × Int) := keys (recL ll r l)
def p00 : Pn := ⟨0, 0, 0, 0⟩
def sizeAt (x : List Pn) (k : Nat) : Nat := cn (keys x) (key (x.getD k p00))
def gsize (l : List Pn) (ll : List (List Int)) (r : Rc) (k : Int) : Int := if (grOk l ll r && in3 k 0 (l.length - 1)) = true then sizeAt (recL ll r l) k.toNat else -1
def gleast (l : List Pn) (ll : List (List Int)) (r : Rc) : Int := if grOk l ll r = true then least1 (keysOf l ll r) else -1
def gmany (l : List Pn) (ll : List (List Int)) (r : Rc) : Int := if grOk l ll r = true then many1 (keysOf l ll r) else -1
def guniq (l : List Pn) (ll : List (List Int)) (r : Rc) : Int := if grOk l ll r = true then uniq1 (keysOf l ll r) else -1
def rcFiner (ll : List (List Int)) (a b : Rc) : Bool := rcOk ll a && rcOk ll b && decide (a.area ≤ b.area) && decide (a.job ≤ b.job) && decide (a.sex ≤ b.sex)
theorem recL_len (ll : List (List Int)) (r : Rc) (l : List Pn) : (recL ll r l).length = l.length := by simp [recL]
theorem recL_take (ll : List (List Int)) (r : Rc) (l : List Pn) (k : Nat) (hk : k < l.length) : recL ll r (l.take (k + 1)) = recL ll r (l.take k) ++ [rec1 ll r l[k]] := by
  unfold recL; rw [List.take_succ_eq_append_getElem hk, List.map_append]; rfl
/-- The count of a group so far. -/
def sizeTo (x : List Pn) (k q : Nat) : Nat := cn (keys (x.take q)) (key (x.getD k p00))
theorem sizeTo_succ (x : List Pn) (k q : Nat) (hq : q < x.length) : sizeTo x k (q + 1) = sizeTo x k q + if key x[q] = key (x.getD k p00) then 1 else 0 := by
  unfold sizeTo keys
  rw [List.take_succ_eq_append_getElem hq, List.map_append, cn_app]
  congr 1
  simp only [List.map_cons, List.map_nil, cn_cons, cn_nil, Nat.zero_add]
theorem sizeTo_all (x : List Pn) (k : Nat) : sizeTo x k x.length = sizeAt x k := by unfold sizeTo sizeAt; rw [List.take_length]
theorem sizeTo_le (x : List Pn) (k q : Nat) : sizeTo x k q ≤ q := by
  have := cn_le (keys (x.take q)) (key (x.getD k p00))
  have h2 : (keys (x.take q)).length ≤ q := by unfold keys; rw [List.length_map]; exact List.length_take_le _ _
  unfold sizeTo; omega
/-- The least group of the first ones. -/
def leastTo (x : List Pn) (q : Nat) : Nat := ((x.take q).map fun p => cn (keys x) (key p)).foldl min x.length
theorem leastTo_succ (x : List Pn) (q : Nat) (hq : q < x.length) : leastTo x (q + 1) = min (leastTo x q) (sizeAt x q) := by
  unfold leastTo sizeAt
  rw [List.take_succ_eq_append_getElem hq, List.map_append, List.foldl_append, List.getD_eq_getElem?_getD, List.getElem?_eq_getElem hq]; rfl
theorem leastTo_all (x : List Pn) : leastTo x x.length = least1 (keys x) := by
  unfold leastTo least1 keys
  rw [List.take_length, List.map_map, List.length_map]; rfl
theorem leastTo_le (x : List Pn) (q : Nat) : leastTo x q ≤ x.length := (foldl_min_le _ _).1
theorem many_snoc (x : List (Int × Int × Int)) (a : Int × Int × Int) : many1 (x ++ [a]) = many1 x + if a ∈ x then 0 else 1 := by
  rw [many1_perm (List.perm_append_comm (l₁ := x) (l₂ := [a]))]; simp only [List.cons_append, List.nil_append, many1]; by_cases h : a ∈ x <;> simp [h]
def manyTo (x : List Pn) (q : Nat) : Nat := many1 (keys (x.take q))
theorem manyTo_succ (x : List Pn) (q : Nat) (hq : q < x.length) : manyTo x (q + 1) = manyTo x q + if sizeTo x q (q + 1) = 1 then 1 else 0 := by
  have h := sizeTo_succ x q q hq
  have e : x.getD q p00 = x[q] := by rw [List.getD_eq_getElem?_getD, List.getElem?_eq_getElem hq]; rfl
  rw [e, if_pos rfl] at h
  have h2 : manyTo x (q + 1) = manyTo x q + if key x[q] ∈ keys (x.take q) then 0 else 1 := by
    unfold manyTo
    rw [List.take_succ_eq_append_getElem hq]
    have e2 : keys (x.take q ++ [x[q]]) = keys (x.take q) ++ [key x[q]] := by unfold keys; rw [List.map_append]; rfl
    rw [e2, many_snoc]
  rw [h2, h]
  congr 1
  have h3 := cn_pos (x := keys (x.take q)) (a := key x[q])
  have h4 : sizeTo x q q = cn (keys (x.take q)) (key x[q]) := by unfold sizeTo; rw [e]
  rw [h4]
  by_cases hm : key x[q] ∈ keys (x.take q)
  · have := h3.2 hm
    rw [if_pos hm, if_neg (by omega)]
  · rw [if_neg hm, cn_zero hm]; rfl
theorem manyTo_all (x : List Pn) : manyTo x x.length = many1 (keys x) := by unfold manyTo; rw [List.take_length]
theorem manyTo_le (x : List Pn) (q : Nat) : manyTo x q ≤ q := by
  have := many1_le (keys (x.take q))
  have h2 : (keys (x.take q)).length ≤ q := by unfold keys; rw [List.length_map]; exact List.length_take_le _ _
  unfold manyTo; omega
def uniqTo (x : List Pn) (q : Nat) : Nat := ((x.take q).filter fun p => decide (cn (keys x) (key p) = 1)).length
theorem uniqTo_succ (x : List Pn) (q : Nat) (hq : q < x.length) : uniqTo x (q + 1) = uniqTo x q + if sizeAt x q = 1 then 1 else 0 := by
  unfold uniqTo sizeAt
  have e : x.getD q p00 = x[q] := by rw [List.getD_eq_getElem?_getD, List.getElem?_eq_getElem hq]; rfl
  rw [List.take_succ_eq_append_getElem hq, List.filter_append, List.length_append, e]
  congr 1
  by_cases h : cn (keys x) (key x[q]) = 1 <;> simp [h]
theorem uniqTo_all (x : List Pn) : uniqTo x x.length = uniq1 (keys x) := by
  unfold uniqTo uniq1 keys
  rw [List.take_length, List.filter_map, List.length_map]; rfl
theorem uniqTo_le (x : List Pn) (q : Nat) : uniqTo x q ≤ q := by
  have h1 := List.length_filter_le (fun p => decide (cn (keys x) (key p) = 1)) (x.take q)
  have h2 := List.length_take_le q x
  unfold uniqTo; omega
end Go.Proofs.Ytbbgakbobefplaa
