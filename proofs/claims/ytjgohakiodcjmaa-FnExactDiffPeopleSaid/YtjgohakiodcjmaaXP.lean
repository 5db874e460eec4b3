/- People in memory, by their value: what exact laws ask of them. -/
import Derived.Test.YtjgohakiodcjmaaEA
namespace Go.Proofs.Ytjgohakiodcjmaa
open Go.RowKit
/-- The numbers that marking writes. -/
def mpK (K q : Nat) : Pn := ⟨(K : Int) + 4 * q, (K : Int) + 4 * q + 1, (K : Int) + 4 * q + 2, (K : Int) + 4 * q + 3⟩
def marksK (K n : Nat) : List Pn := (List.range n).map (mpK K)
theorem marksK_len (K n : Nat) : (marksK K n).length = n := by simp [marksK]
theorem marksK_get (K n k : Nat) (hk : k < (marksK K n).length) : (marksK K n)[k] = mpK K k := by simp [marksK]
theorem markK_set (K : Nat) (l : List Pn) (q : Nat) (hq : q < l.length) : (marksK K q ++ l.drop q).set q (mpK K q) = marksK K (q + 1) ++ l.drop (q + 1) := by
  have hm := marksK_len K q
  rw [List.set_append_right _ _ (by omega), hm, Nat.sub_self, List.drop_eq_getElem_cons hq, List.set_cons_zero]
  simp [marksK, List.range_succ]
theorem own_noneX {w : World} (B : Nat) : Own w B (.slice none 0 0) [] := ⟨rfl, .inl ⟨rfl, rfl⟩⟩
def szL (n : Nat) (left : Int) : Int := if (n : Int) ≤ left then left - n else -1
theorem szL_cases (n : Nat) {left : Int} (h0 : 0 ≤ left) (h1 : left ≤ 1048576) : szL n left = -1 ∨ (0 ≤ szL n left ∧ szL n left ≤ 1048576 ∧ n ≤ 1048576) := by
  unfold szL; split
  · right; omega
  · left; rfl
theorem szP_is (l : List Pn) (v : Value) (left : Int) (h0 : 0 ≤ left) (h1 : left ≤ 1048576) (w : World) (h : IsP w v l) :
    Calls Try.prog 32 #[v, .int .i64 left] w fun e w' => e = .returned (.int .i64 (szL l.length left)) ∧ w = w' := by
  obtain ⟨A, c, rfl, h2, h3, _⟩ := h
  have hn : l.length ≤ maxLen := Nat.le_trans h2 h3
  unfold maxLen at hn
  obtain ⟨n, hn2⟩ : ∃ n, l.length = n := ⟨_, rfl⟩
  rw [hn2] at hn h2 ⊢
  clear hn2
  by_cases h : (n : Int) ≤ left
  · have HE := Lib.hid (show szL n left = left - n by rw [szL, if_pos h])
    go_enter Try.func32, Try.ntmps32
    go_wp2
    go_ret
    exact ⟨reti HE.out.symm, rfl⟩
  · have HE := Lib.hid (show szL n left = -1 by rw [szL, if_neg h])
    go_enter Try.func32, Try.ntmps32
    go_wp2
    go_ret
    exact ⟨reti HE.out.symm, rfl⟩
theorem toP_is (l : List Pn) (v : Value) (hl : l.length ≤ 1048576) (w : World) (h : IsP w v l) :
    Calls Try.prog 33 #[v] w fun e w' => ∃ v', e = .returned v' ∧ InP w' w.heap.size w'.heap.size v' l ∧ Below w.heap.size w w' := by
  obtain ⟨A, c, rfl, _, _, h3⟩ := h
  refine (toPersonS_any l A c hl w h3).mono ?_
  rintro e w' ⟨g, he, _, ho, hb⟩
  exact ⟨_, he, InP.of ho, hb⟩
theorem eqP_is (l : List Pn) (v u : Value) (hl : l.length ≤ 1048576) (w : World) (h1 : IsP w v l) (h2 : IsP w u l) :
    Calls Try.prog 34 #[v, u] w (Back (.bool true) w) := by
  obtain ⟨A, c, rfl, _, _, h3⟩ := h1
  obtain ⟨A2, c2, rfl, _, _, h4⟩ := h2
  exact eqS_any l A A2 c c2 hl w h3 h4
end Go.Proofs.Ytjgohakiodcjmaa
