/- Lists whose elements are counted. Mathematics alone. -/
namespace Go.Proofs.Ytjgohakiodcjmaa
section
variable {α : Type} [DecidableEq α]
/-- How many of the second list are in the first one, each of these taken at most once. -/
def smN : List α → List α → Nat
  | _, [] => 0
  | a, p :: b => if p ∈ a then smN (a.erase p) b + 1 else smN a b
def bag : List α → List α → List α
  | _, [] => []
  | a, p :: b => if p ∈ a then p :: bag (a.erase p) b else bag a b
theorem bag_len : ∀ b a : List α, (bag a b).length = smN a b
  | [], a => rfl
  | p :: b, a => by
    unfold bag smN
    by_cases h : p ∈ a
    · rw [if_pos h, if_pos h, List.length_cons, bag_len b]
    · rw [if_neg h, if_neg h, bag_len b]
theorem bag_count : ∀ (b a : List α) (q : α), (bag a b).count q = min (a.count q) (b.count q)
  | [], a, q => by simp [bag]
  | p :: b, a, q => by
    unfold bag
    by_cases h : p ∈ a
    · rw [if_pos h, List.count_cons, bag_count b, List.count_erase, List.count_cons]
      by_cases e : p = q
      · subst e
        have := List.count_pos_iff.2 h
        simp
        omega
      · have e2 : (p == q) = false := by simpa using e
        simp [e2]
    · rw [if_neg h, bag_count b, List.count_cons]
      by_cases e : p = q
      · subst e
        rw [List.count_eq_zero.2 h]; simp
      · have e2 : (p == q) = false := by simpa using e
        simp [e2]
theorem smN_of {a b c : List α} (h : ∀ q, c.count q = min (a.count q) (b.count q)) : smN a b = c.length := by
  rw [← bag_len]
  exact (List.perm_iff_count.2 fun q => by rw [bag_count, h]).length_eq
theorem smN_congr {a b a' b' : List α} (h : ∀ q, min (a.count q) (b.count q) = min (a'.count q) (b'.count q)) : smN a b = smN a' b' := by
  rw [← bag_len b' a']
  exact smN_of fun q => by rw [bag_count, h]
theorem smN_comm (a b : List α) : smN a b = smN b a := smN_congr fun _ => Nat.min_comm _ _
theorem smN_perm {a b a' b' : List α} (ha : a.Perm a') (hb : b.Perm b') : smN a b = smN a' b' := smN_congr fun q => by rw [ha.count_eq, hb.count_eq]
theorem smN_le : ∀ b a : List α, smN a b ≤ b.length
  | [], _ => Nat.le_refl _
  | p :: b, a => by
    unfold smN
    split
    · have := smN_le b (a.erase p); simp only [List.length_cons]; omega
    · have := smN_le b a; simp only [List.length_cons]; omega
theorem smN_le2 (b a : List α) : smN a b ≤ a.length := by rw [smN_comm]; exact smN_le a b
theorem smN_sub {a b : List α} (h : ∀ q, b.count q ≤ a.count q) : smN a b = b.length := smN_of fun q => (Nat.min_eq_right (h q)).symm
theorem smN_full : ∀ {b a : List α}, smN a b = b.length → ∀ q, b.count q ≤ a.count q
  | [], a, _, q => by simp
  | p :: b, a, h, q => by
    unfold smN at h
    split at h
    · rename_i hp
      have ih := smN_full (a := a.erase p) (b := b) (by simpa using h) q
      rw [List.count_erase] at ih
      rw [List.count_cons]
      by_cases e : p = q
      · subst e
        have := List.count_pos_iff.2 hp
        simp at ih ⊢
        omega
      · have e2 : (p == q) = false := by simpa using e
        simp [e2] at ih ⊢
        omega
    · have := smN_le b a
      simp only [List.length_cons] at h
      omega
theorem smN_iff {a b : List α} : smN a b = b.length ↔ ∀ q, b.count q ≤ a.count q := ⟨smN_full, smN_sub⟩
theorem smN_self (a : List α) : smN a a = a.length := smN_sub fun _ => Nat.le_refl _
theorem smN_snoc {a b : List α} {p : α} : smN (a ++ [p]) (b ++ [p]) = smN a b + 1 := by
  rw [smN_of (c := bag a b ++ [p]) fun q => ?_, List.length_append, bag_len]
  · rfl
  · simp only [List.count_append, bag_count]
    omega
theorem smN_take (l : List α) (k : Nat) : smN l (l.take k) = (l.take k).length := smN_sub fun q => (List.take_sublist k l).count_le q
theorem smN_takeL (l : List α) (k : Nat) : smN (l.take k) l = (l.take k).length := by rw [smN_comm, smN_take]
/-- What holds for few. -/
theorem sub_filter : ∀ {b a : List α}, (∀ q, b.count q ≤ a.count q) → ∀ f : α → Bool, (b.filter f).length ≤ (a.filter f).length
  | [], a, _, f => by simp
  | p :: b, a, h, f => by
    have hp : p ∈ a := List.count_pos_iff.1 (by have := h p; rw [List.count_cons] at this; simp at this; omega)
    have ih := sub_filter (b := b) (a := a.erase p) (fun q => by
      have := h q
      rw [List.count_erase]
      rw [List.count_cons] at this
      omega) f
    have hperm := ((List.perm_cons_erase hp).filter f).length_eq
    rw [hperm]
    simp only [List.filter_cons]
    split <;> simp <;> omega
theorem sub_len {b a : List α} (h : ∀ q, b.count q ≤ a.count q) : b.length ≤ a.length := by
  have h1 := sub_filter h fun _ => true
  rwa [List.filter_eq_self.2 fun _ _ => rfl, List.filter_eq_self.2 fun _ _ => rfl] at h1
/-- Those that are not used. -/
def unu : List α → List Bool → List α
  | p :: b, f :: u => if f = true then unu b u else p :: unu b u
  | _, _ => []
omit [DecidableEq α] in
theorem unu_all : ∀ b : List α, unu b (List.replicate b.length false) = b
  | [] => rfl
  | p :: b => by simp [unu, List.replicate_succ, unu_all b]
theorem unu_hit : ∀ (b : List α) (u : List Bool) (k : Nat) (p : α), b[k]? = some p → u[k]? = some false → (∀ j, j < k → u[j]? = some true ∨ ∃ x, b[j]? = some x ∧ x ≠ p) →
    p ∈ unu b u ∧ unu b (u.set k true) = (unu b u).erase p
  | [], _, _, _, h, _, _ => by simp at h
  | _ :: _, [], _, _, _, h, _ => by simp at h
  | x :: b, f :: u, 0, p, h1, h2, _ => by
    simp at h1 h2
    subst h1 h2
    simp [unu]
  | x :: b, f :: u, k + 1, p, h1, h2, h3 => by
    obtain ⟨i1, i2⟩ := unu_hit b u k p (by simpa using h1) (by simpa using h2) (fun j hj => by simpa using h3 (j + 1) (by omega))
    have h0 := h3 0 (by omega)
    simp at h0
    simp only [List.set_cons_succ, unu]
    cases f
    · have hx : x ≠ p := by simpa using h0
      have hx2 : (x == p) = false := by simpa using hx
      simp only [Bool.false_eq_true, if_false]
      rw [List.erase_cons_tail (by rw [hx2]; decide), i2]
      exact ⟨List.mem_cons_of_mem _ i1, rfl⟩
    · simp only [if_true]
      exact ⟨i1, i2⟩
omit [DecidableEq α] in
theorem unu_miss : ∀ (b : List α) (u : List Bool) (p : α), (∀ (j : Nat) (x : α), b[j]? = some x → u[j]? = some true ∨ x ≠ p) → p ∉ unu b u
  | [], _, _, _ => by simp [unu]
  | _ :: _, [], _, _ => by simp [unu]
  | x :: b, f :: u, p, h => by
    have ih := unu_miss b u p fun j y hy => by simpa using h (j + 1) y (by simpa using hy)
    have h0 := h 0 x (by simp)
    simp at h0
    simp only [unu]
    cases f
    · simp only [Bool.false_eq_true, if_false]
      rw [List.mem_cons]
      rintro (e | e)
      · exact (by simpa using h0 : x ≠ p) e.symm
      · exact ih e
    · simpa using ih
theorem smN_drop_hit {r a : List α} {i : Nat} {p : α} (h : a[i]? = some p) (hp : p ∈ r) : smN r (a.drop i) = smN (r.erase p) (a.drop (i + 1)) + 1 := by
  obtain ⟨hi, e⟩ := List.getElem?_eq_some_iff.1 h
  rw [List.drop_eq_getElem_cons hi, e]
  rw [smN, if_pos hp]
theorem smN_drop_miss {r a : List α} {i : Nat} {p : α} (h : a[i]? = some p) (hp : p ∉ r) : smN r (a.drop i) = smN r (a.drop (i + 1)) := by
  obtain ⟨hi, e⟩ := List.getElem?_eq_some_iff.1 h
  rw [List.drop_eq_getElem_cons hi, e]
  rw [smN, if_neg hp]
theorem smN_drop_all {r a : List α} {i : Nat} (h : a.length ≤ i) : smN r (a.drop i) = 0 := by rw [List.drop_eq_nil_of_le h]; rfl
end
end Go.Proofs.Ytjgohakiodcjmaa
