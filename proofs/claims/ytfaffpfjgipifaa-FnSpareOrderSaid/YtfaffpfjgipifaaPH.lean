/- Contributions: a binary heap in a list. -/
import Derived.Test.YtfaffpfjgipifaaPM
namespace Go.Proofs.Ytfaffpfjgipifaa
/-- The element at an index. -/
def at0 (a : List Int) (i : Nat) : Int := a.getD i 0
def swp (a : List Int) (i j : Nat) : List Int := (a.set i (at0 a j)).set j (at0 a i)
theorem swp_len (a : List Int) (i j : Nat) : (swp a i j).length = a.length := by simp [swp]
theorem at0_get {a : List Int} {i : Nat} (h : i < a.length) : at0 a i = a[i] := by simp [at0, List.getD_eq_getElem?_getD, h]
theorem swp_at {a : List Int} {i j : Nat} (hi : i < a.length) (hj : j < a.length) (k : Nat) :
    at0 (swp a i j) k = if k = j then at0 a i else if k = i then at0 a j else at0 a k := by
  unfold swp
  by_cases hk : k < a.length
  · rw [at0_get (by simpa using hk), List.getElem_set, List.getElem_set]
    by_cases h1 : j = k
    · subst h1; simp
    · have h1' : ¬ k = j := fun e => h1 e.symm
      by_cases h2 : i = k
      · subst h2; simp [h1, h1']
      · have h2' : ¬ k = i := fun e => h2 e.symm
        simp only [h1, h1', h2, h2', if_false]; rw [at0_get hk]
  · have h1' : ¬ k = j := by omega
    have h2' : ¬ k = i := by omega
    simp only [h1', h2', if_false]
    simp [at0, List.getD_eq_getElem?_getD, hk]
theorem swp_perm {a : List Int} {i j : Nat} (hi : i < a.length) (hj : j < a.length) : (swp a i j).Perm a := by
  have h := (Array.swap_perm (xs := a.toArray) (i := i) (j := j) (by simpa using hi) (by simpa using hj))
  rw [Array.perm_iff_toList_perm] at h
  have e : (a.toArray.swap i j (by simpa using hi) (by simpa using hj)).toList = swp a i j := by
    simp [Array.swap, swp, at0_get hi, at0_get hj]
  rw [e] at h; exact h
def heapN (a : List Int) (n : Nat) : Prop := ∀ k, 1 ≤ k → k < n → at0 a k ≤ at0 a ((k - 1) / 2)
/-- A heap but at one place, where a number may be too great. -/
def heapU (a : List Int) (j : Nat) : Prop :=
  (∀ k, 1 ≤ k → k < a.length → k ≠ j → at0 a k ≤ at0 a ((k - 1) / 2)) ∧ ∀ k, 1 ≤ k → k < a.length → (k - 1) / 2 = j → 1 ≤ j → at0 a k ≤ at0 a ((j - 1) / 2)
/-- A heap but at one place, where a number may be too small. -/
def heapD (a : List Int) (n i : Nat) : Prop :=
  (∀ k, 1 ≤ k → k < n → (k - 1) / 2 ≠ i → at0 a k ≤ at0 a ((k - 1) / 2)) ∧ ∀ k, 1 ≤ k → k < n → (k - 1) / 2 = i → 1 ≤ i → at0 a k ≤ at0 a ((i - 1) / 2)
theorem heapU_zero {a : List Int} (h : heapU a 0) : heapN a a.length := fun k h1 h2 => h.1 k h1 h2 (by omega)
theorem heapU_stop {a : List Int} {j : Nat} (h : heapU a j) (hj : at0 a j ≤ at0 a ((j - 1) / 2)) : heapN a a.length := fun k h1 h2 => by
  by_cases e : k = j
  · subst e; exact hj
  · exact h.1 k h1 h2 e
theorem heapU_step {a : List Int} {j : Nat} (h : heapU a j) (h0 : 1 ≤ j) (hj : j < a.length) (hl : at0 a ((j - 1) / 2) < at0 a j) : heapU (swp a ((j - 1) / 2) j) ((j - 1) / 2) := by
  have hi : (j - 1) / 2 < a.length := by omega
  have hij : (j - 1) / 2 ≠ j := by omega
  constructor
  · intro k h1 h2 hk
    rw [swp_len] at h2
    rw [swp_at hi hj, swp_at hi hj]
    by_cases e1 : k = j
    · subst e1
      rw [if_pos rfl, if_neg hij, if_pos rfl]; omega
    · rw [if_neg e1, if_neg hk]
      by_cases e2 : (k - 1) / 2 = j
      · rw [if_pos e2]; exact h.2 k h1 h2 e2 h0
      · rw [if_neg e2]
        by_cases e3 : (k - 1) / 2 = (j - 1) / 2
        · rw [if_pos e3]
          have := h.1 k h1 h2 e1
          rw [e3] at this; omega
        · rw [if_neg e3]; exact h.1 k h1 h2 e1
  · intro k h1 h2 hk hp
    rw [swp_len] at h2
    rw [swp_at hi hj, swp_at hi hj]
    have e0 : ((j - 1) / 2 - 1) / 2 ≠ j := by omega
    have e0' : ((j - 1) / 2 - 1) / 2 ≠ (j - 1) / 2 := by omega
    rw [if_neg e0, if_neg e0']
    have hpp := h.1 ((j - 1) / 2) hp hi (by omega)
    by_cases e1 : k = j
    · rw [if_pos e1]; exact hpp
    · rw [if_neg e1, if_neg (by omega)]
      have := h.1 k h1 h2 e1
      rw [hk] at this; omega
theorem heapU_push {a : List Int} (h : heapN a a.length) (x : Int) : heapU (a ++ [x]) a.length := by
  have e : ∀ k, k < a.length → at0 (a ++ [x]) k = at0 a k := fun k hk => by simp [at0, List.getD_eq_getElem?_getD, List.getElem?_append_left hk]
  constructor
  · intro k h1 h2 hk
    simp only [List.length_append, List.length_cons, List.length_nil] at h2
    rw [e k (by omega), e _ (by omega)]; exact h k h1 (by omega)
  · intro k h1 h2 hk hp
    simp only [List.length_append, List.length_cons, List.length_nil] at h2
    omega
theorem heapD_stop {a : List Int} {n i : Nat} (h : heapD a n i) (hk : ∀ k, 1 ≤ k → k < n → (k - 1) / 2 = i → at0 a k ≤ at0 a i) : heapN a n := fun k h1 h2 => by
  by_cases e : (k - 1) / 2 = i
  · rw [e]; exact hk k h1 h2 e
  · exact h.1 k h1 h2 e
theorem heapD_step {a : List Int} {n i j : Nat} (h : heapD a n i) (hn : n ≤ a.length) (h0 : 1 ≤ j) (hj : j < n) (hp : (j - 1) / 2 = i) (hl : at0 a i < at0 a j)
    (hb : ∀ k, 1 ≤ k → k < n → (k - 1) / 2 = i → at0 a k ≤ at0 a j) : heapD (swp a i j) n j := by
  have hi : i < a.length := by omega
  have hj' : j < a.length := by omega
  have hij : i ≠ j := by omega
  constructor
  · intro k h1 h2 hk
    rw [swp_at hi hj', swp_at hi hj']
    by_cases e1 : k = j
    · subst e1
      rw [if_pos rfl, hp, if_neg hij, if_pos rfl]; omega
    · rw [if_neg e1, if_neg hk]
      by_cases e2 : k = i
      · subst e2
        rw [if_pos rfl, if_neg (by omega)]
        exact h.2 j h0 hj hp h1
      · rw [if_neg e2]
        by_cases e3 : (k - 1) / 2 = i
        · rw [if_pos e3]; exact hb k h1 h2 e3
        · rw [if_neg e3]; exact h.1 k h1 h2 e3
  · intro k h1 h2 hk hp1
    rw [swp_at hi hj', swp_at hi hj', hp, if_neg (by omega), if_neg (by omega), if_neg hij, if_pos rfl]
    have := h.1 k h1 h2 (by omega)
    rw [hk] at this; exact this
theorem heapN_top {a : List Int} {n : Nat} (h : heapN a n) : ∀ k, k < n → at0 a k ≤ at0 a 0 := by
  intro k
  induction k using Nat.strongRecOn with
  | ind k ih =>
    intro hk
    by_cases h0 : k = 0
    · subst h0; omega
    · have h1 := h k (by omega) hk
      have h2 := ih ((k - 1) / 2) (by omega) (by omega)
      omega
/-- The state ahead of going down: the first and the last exchanged. -/
theorem heapD_pop {a : List Int} (h : heapN a a.length) (h0 : 0 < a.length) : heapD (swp a 0 (a.length - 1)) (a.length - 1) 0 := by
  constructor
  · intro k h1 h2 hk
    rw [swp_at h0 (by omega), swp_at h0 (by omega), if_neg (by omega), if_neg (by omega), if_neg (by omega), if_neg hk]
    exact h k h1 (by omega)
  · intro k _ _ _ h3; omega
/-- What is left when the greatest one has been taken away. -/
theorem pop_is {a b : List Int} (h : heapN a a.length) (h0 : 0 < a.length) (hb : b.length = a.length) (hp : b.Perm a) (hn : at0 b (a.length - 1) = at0 a 0) :
    ds a = at0 a 0 :: ds (b.take (a.length - 1)) := by
  have hl : a.length - 1 < b.length := by omega
  have e : b = b.take (a.length - 1) ++ [at0 a 0] := by
    have h1 := List.take_succ_eq_append_getElem hl
    rw [List.take_of_length_le (by omega), ← at0_get hl, hn] at h1; exact h1
  have hp2 : (at0 a 0 :: b.take (a.length - 1)).Perm a := (List.perm_append_singleton _ _).symm.trans (by rw [← e]; exact hp)
  rw [← ds_congr hp2]
  refine (ds_ins (a := []) (List.nil_append _).symm (by simp) fun y hy => ?_)
  have hm : y ∈ a := hp.mem_iff.1 (List.mem_of_mem_take (ds_mem.1 hy))
  obtain ⟨i, hi, rfl⟩ := List.getElem_of_mem hm
  rw [← at0_get hi]; exact heapN_top h i hi
theorem take_heap {b : List Int} {n : Nat} (h : heapN b n) (hn : n ≤ b.length) : heapN (b.take n) (b.take n).length := by
  have e : ∀ k, k < n → at0 (b.take n) k = at0 b k := fun k hk => by simp [at0, List.getD_eq_getElem?_getD, hk]
  intro k h1 h2
  rw [List.length_take] at h2
  rw [e k (by omega), e _ (by omega)]; exact h k h1 (by omega)
theorem heapN_nil : heapN [] ([] : List Int).length := fun k _ h => by simp at h
end Go.Proofs.Ytfaffpfjgipifaa
