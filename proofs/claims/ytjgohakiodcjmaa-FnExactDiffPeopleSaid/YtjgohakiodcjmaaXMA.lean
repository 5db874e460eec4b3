/- Ladders in memory, by their value: what exact laws ask of them. Recodings by value: what exact laws ask of them. Masks in memory, by their value: what exact laws ask of them. -/
import Derived.Test.YtjgohakiodcjmaaEIA
import Derived.Test.YtjgohakiodcjmaaXP
import Derived.Test.YtjgohakiodcjmaaA6
import Derived.Test.YtjgohakiodcjmaaA2
import Derived.Test.YtjgohakiodcjmaaMW
import Derived.Test.YtjgohakiodcjmaaTM2
namespace Go.Proofs.Ytjgohakiodcjmaa
open Go.RowKit
/-- All rows marked; the first k of them marked. -/
def curK (K : Nat) (ll : List (List Int)) (k : Nat) : List (List Int) := (List.range ll.length).map fun i => if i < k then mk (K + tot (ll.take i)) (ll.getD i []).length else ll.getD i []
theorem curK_len (K : Nat) (ll : List (List Int)) (k : Nat) : (curK K ll k).length = ll.length := by simp [curK]
theorem curK_get (K : Nat) (ll : List (List Int)) (k i : Nat) (hi : i < ll.length) : (curK K ll k).getD i [] = if i < k then mk (K + tot (ll.take i)) (ll.getD i []).length else ll.getD i [] := by
  unfold curK; rw [List.getD_eq_getElem?_getD, List.getElem?_map, List.getElem?_range hi]; rfl
theorem curK_zero (K : Nat) (ll : List (List Int)) : curK K ll 0 = ll := by
  refine List.ext_getElem? fun i => ?_
  by_cases hi : i < ll.length
  · rw [curK, List.getElem?_map, List.getElem?_range hi]
    simp [List.getElem?_eq_getElem hi]
  · rw [List.getElem?_eq_none (by rw [curK_len]; omega), List.getElem?_eq_none (by omega)]
theorem Rws.markK {w w' : World} {B T k K : Nat} {no : Option Nat} {hs : List Value} {ll : List (List Int)} (h : Rws w B T no hs (curK K ll k)) (hk : k < ll.length)
    (ho : Own1 TN w' B (hs.getD k nilS) (icells (mk (K + tot (ll.take k)) (ll.getD k []).length))) (hg : w.grownBy w' (hs.getD k nilS).ownBlock) (hT : T ≤ w.heap.size) : Rws w' B T no hs (curK K ll (k + 1)) := by
  refine ⟨by rw [curK_len, h.1, curK_len], fun i hi => ?_, fun i j q hij hj e => h.2.2 i j q hij (by rw [curK_len] at *; exact hj) e⟩
  rw [curK_len] at hi
  obtain ⟨a1, a2⟩ := h.2.1 i (by rw [curK_len]; exact hi)
  refine ⟨?_, a2⟩
  rw [curK_get K ll (k + 1) i hi]
  by_cases hik : i = k
  · subst hik; rw [if_pos (by omega)]; exact ho
  · have e : (if i < k + 1 then mk (K + tot (ll.take i)) (ll.getD i []).length else ll.getD i []) = (curK K ll k).getD i [] := by
      rw [curK_get K ll k i hi]
      by_cases h2 : i < k
      · rw [if_pos (by omega), if_pos h2]
      · rw [if_neg (by omega), if_neg h2]
    rw [e]
    refine a1.same fun q eq => hg.block q (by have := (a2 q eq).1; omega) fun e2 => ?_
    rcases Nat.lt_or_gt_of_ne hik with hlt | hgt
    · exact h.2.2 i k q hlt (by rw [curK_len]; exact hk) eq e2.symm
    · exact h.2.2 k i q hgt (by rw [curK_len]; exact hi) e2.symm eq
end Go.Proofs.Ytjgohakiodcjmaa
namespace Go.Proofs.Ytjgohakiodcjmaa
open Go.RowKit
theorem eqP_arg (l : List Pn) (v u : Value) (hl : l.length ≤ 1048576) (w : World) (h1 : IsP w v l) (h2 : IsP w u l) : Calls Try.prog 34 #[v, u] w (Back (.bool true) w) := eqP_is l v u hl w h1 h2
theorem eqP_res (l : List Pn) (v u : Value) (hl : l.length ≤ 1048576) (w : World) (h1 : IsP w v l) (h2 : IsP w u l) : Calls Try.prog 34 #[v, u] w (Back (.bool true) w) := eqP_is l v u hl w h1 h2
end Go.Proofs.Ytjgohakiodcjmaa
namespace Go.Proofs.Ytjgohakiodcjmaa
open Go.RowKit
/-- A row anew, in one block of its own. -/
def CopiedB (x : List Bool) (n : Nat) (w : World) (e : Ending) (w' : World) : Prop := ∃ g, e = .returned (.slice (some ⟨g, 0, none⟩) n n) ∧ w.heap.size ≤ g ∧ Own1 TBo w' w.heap.size (.slice (some ⟨g, 0, none⟩) n n) (bcells x) ∧ Below w.heap.size w w'
def totM (ll : List (List Bool)) : Nat := (ll.map List.length).sum
theorem totM_take (ll : List (List Bool)) (k : Nat) (hk : k < ll.length) : totM (ll.take (k + 1)) = totM (ll.take k) + (ll.getD k []).length := by
  unfold totM
  rw [List.take_succ_eq_append_getElem hk, List.map_append, List.sum_append, List.getD_eq_getElem?_getD, List.getElem?_eq_getElem hk]; simp
theorem totM_le (ll : List (List Bool)) (k : Nat) : totM (ll.take k) ≤ totM ll := by
  have h : totM ll = totM (ll.take k) + totM (ll.drop k) := by unfold totM; rw [← List.sum_append, ← List.map_append, List.take_append_drop]
  omega
theorem totM_at (ll : List (List Bool)) (k : Nat) (hk : k < ll.length) : (ll.getD k []).length ≤ totM ll := by
  have h1 := totM_take ll k hk
  have h2 := totM_le ll (k + 1)
  omega
def fitsM (ll : List (List Bool)) : Bool := decide (ll.length + totM ll ≤ 1048576)
end Go.Proofs.Ytjgohakiodcjmaa
