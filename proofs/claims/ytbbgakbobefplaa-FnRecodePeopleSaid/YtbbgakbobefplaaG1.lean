/- Groups: plain lists of keys. -/
namespace Go.Proofs.Ytbbgakbobefplaa
section
variable {α : Type} [DecidableEq α]
def cn (x : List α) (a : α) : Nat := (x.filter fun b => decide (b = a)).length
/-- The number of different ones. -/
def many1 : List α → Nat
  | [] => 0
  | a :: l => many1 l + if a ∈ l then 0 else 1
/-- The least group: from the length down over the groups of all that are there. -/
def least1 (x : List α) : Nat := (x.map (cn x)).foldl min x.length
def uniq1 (x : List α) : Nat := (x.filter fun a => decide (cn x a = 1)).length
theorem cn_nil (a : α) : cn [] a = 0 := rfl
theorem cn_cons (b : α) (x : List α) (a : α) : cn (b :: x) a = cn x a + if b = a then 1 else 0 := by
  unfold cn; rw [List.filter_cons]; by_cases h : b = a <;> simp [h]
theorem cn_app (x y : List α) (a : α) : cn (x ++ y) a = cn x a + cn y a := by simp [cn]
theorem cn_le (x : List α) (a : α) : cn x a ≤ x.length := List.length_filter_le _ _
theorem cn_pos {x : List α} {a : α} : 0 < cn x a ↔ a ∈ x := by
  unfold cn; rw [List.length_pos_iff_exists_mem]; constructor
  · rintro ⟨b, hb⟩; obtain ⟨h1, h2⟩ := List.mem_filter.1 hb; have : b = a := by simpa using h2
    exact this ▸ h1
  · intro h; exact ⟨a, List.mem_filter.2 ⟨h, by simp⟩⟩
theorem cn_zero {x : List α} {a : α} (h : a ∉ x) : cn x a = 0 := by
  have := cn_pos (x := x) (a := a)
  rcases Nat.eq_zero_or_pos (cn x a) with h0 | h0
  · exact h0
  · exact absurd (this.1 h0) h
theorem cn_perm {x y : List α} (h : x.Perm y) (a : α) : cn x a = cn y a := (h.filter _).length_eq
theorem many1_perm {x y : List α} (h : x.Perm y) : many1 x = many1 y := by
  induction h with
  | nil => rfl
  | cons a h ih => simp only [many1, ih, h.mem_iff]
  | swap a b l =>
    simp only [many1, List.mem_cons]
    by_cases hab : b = a
    · subst hab; rfl
    · have hba : ¬ a = b := fun e => hab e.symm
      simp only [hab, hba, false_or]
      omega
  | trans _ _ ih1 ih2 => exact ih1.trans ih2
theorem uniq1_perm {x y : List α} (h : x.Perm y) : uniq1 x = uniq1 y := by
  unfold uniq1
  have e : (fun a => decide (cn x a = 1)) = fun a => decide (cn y a = 1) := by funext a; rw [cn_perm h]
  rw [e]; exact (h.filter _).length_eq
theorem foldl_min_le (l : List Nat) (n : Nat) : l.foldl min n ≤ n ∧ ∀ a ∈ l, l.foldl min n ≤ a := by
  induction l generalizing n with
  | nil => simp
  | cons a l ih =>
    obtain ⟨h1, h2⟩ := ih (min n a)
    refine ⟨by simp only [List.foldl_cons]; omega, fun b hb => ?_⟩
    simp only [List.foldl_cons]
    rcases List.mem_cons.1 hb with rfl | hb
    · omega
    · exact h2 b hb
theorem foldl_min_mem (l : List Nat) (n : Nat) : l.foldl min n = n ∨ l.foldl min n ∈ l := by
  induction l generalizing n with
  | nil => simp
  | cons a l ih =>
    simp only [List.foldl_cons]
    rcases ih (min n a) with h | h
    · rw [h]
      rcases Nat.le_total n a with h2 | h2
      · left; omega
      · right; rw [Nat.min_eq_right h2]; simp
    · right; exact List.mem_cons_of_mem _ h
theorem least1_le (x : List α) {a : α} (h : a ∈ x) : least1 x ≤ cn x a := (foldl_min_le _ _).2 _ (List.mem_map.2 ⟨a, h, rfl⟩)
theorem least1_is (x : List α) (h : x ≠ []) : ∃ a ∈ x, least1 x = cn x a := by
  rcases foldl_min_mem (x.map (cn x)) x.length with h1 | h1
  · cases x with
    | nil => exact absurd rfl h
    | cons a l =>
      refine ⟨a, by simp, ?_⟩
      have h2 := least1_le (a :: l) (a := a) (by simp)
      have h3 := cn_le (a :: l) a
      unfold least1 at *
      omega
  · obtain ⟨a, ha, he⟩ := List.mem_map.1 h1
    exact ⟨a, ha, he.symm⟩
theorem least1_nil : least1 ([] : List α) = 0 := rfl
theorem least1_pos {x : List α} (h : x ≠ []) : 1 ≤ least1 x := by
  obtain ⟨a, ha, he⟩ := least1_is x h
  rw [he]; exact cn_pos.2 ha
/-- The least group is told by what it is. -/
theorem least1_eq {x : List α} {n : Nat} (h1 : ∀ a ∈ x, n ≤ cn x a) (h2 : ∃ a ∈ x, cn x a = n) : least1 x = n := by
  obtain ⟨a, ha, he⟩ := h2
  obtain ⟨b, hb, hb2⟩ := least1_is x (fun e => by rw [e] at ha; cases ha)
  have := least1_le x ha
  have := h1 b hb
  omega
theorem least1_perm {x y : List α} (h : x.Perm y) : least1 x = least1 y := by
  by_cases hy : y = []
  · subst hy; have := h.eq_nil; subst this; rfl
  · obtain ⟨a, ha, he⟩ := least1_is y hy
    exact least1_eq (fun b hb => by rw [cn_perm h]; exact least1_le y (h.mem_iff.1 hb)) ⟨a, h.mem_iff.2 ha, by rw [cn_perm h]; exact he.symm⟩
theorem many1_le (x : List α) : many1 x ≤ x.length := by
  induction x with
  | nil => simp [many1]
  | cons a l ih => simp only [many1, List.length_cons]; split <;> omega
/-- All but one kind. -/
def but (x : List α) (a : α) : List α := x.filter fun b => !decide (b = a)
theorem but_mem {x : List α} {a b : α} : b ∈ but x a ↔ b ∈ x ∧ b ≠ a := by simp [but]
theorem many1_but (x : List α) (a : α) : many1 x = many1 (but x a) + if a ∈ x then 1 else 0 := by
  induction x with
  | nil => simp [many1, but]
  | cons b l ih =>
    by_cases hb : b = a
    · subst hb
      have e : but (b :: l) b = but l b := by simp [but]
      rw [e]; simp only [many1]
      by_cases hm : b ∈ l
      · simp [hm] at ih ⊢; omega
      · simp [hm] at ih ⊢; omega
    · have e : but (b :: l) a = b :: but l a := by simp [but, hb]
      rw [e]; simp only [many1]
      have h1 : b ∈ but l a ↔ b ∈ l := by rw [but_mem]; exact ⟨fun h => h.1, fun h => ⟨h, hb⟩⟩
      have h2 : a ∈ b :: l ↔ a ∈ l := by rw [List.mem_cons]; exact ⟨fun h => h.resolve_left (fun e => hb e.symm), .inr⟩
      simp only [h1, h2]; omega
theorem cn_but {x : List α} {a b : α} (h : b ≠ a) : cn (but x a) b = cn x b := by
  unfold cn but; rw [List.filter_filter]
  congr 1
  refine List.filter_congr fun c _ => ?_
  by_cases hc : c = b
  · subst hc; simp [h]
  · simp [hc]
theorem but_len (x : List α) (a : α) : x.length = (but x a).length + cn x a := by
  induction x with
  | nil => rfl
  | cons b l ih =>
    rw [cn_cons, List.length_cons]
    by_cases hb : b = a
    · have e : but (b :: l) a = but l a := by simp [but, hb]
      rw [e, if_pos hb]; omega
    · have e : but (b :: l) a = b :: but l a := by simp [but, hb]
      rw [e, if_neg hb, List.length_cons]; omega
/-- What is added up over all, by a weight of groups. -/
def wsum (g : Nat → Nat) (x y : List α) : Nat := (y.map fun a => g (cn x a)).sum
theorem wsum_but (g : Nat → Nat) (x y : List α) (a : α) : wsum g x y = wsum g x (but y a) + cn y a * g (cn x a) := by
  induction y with
  | nil => simp [wsum, but, cn]
  | cons b l ih =>
    have e1 : wsum g x (b :: l) = g (cn x b) + wsum g x l := by simp [wsum]
    by_cases hb : b = a
    · subst hb
      have e : but (b :: l) b = but l b := by simp [but]
      rw [e, e1, ih, cn_cons, if_pos rfl, Nat.add_mul, Nat.one_mul]; omega
    · have e : but (b :: l) a = b :: but l a := by simp [but, hb]
      have e2 : wsum g x (b :: but l a) = g (cn x b) + wsum g x (but l a) := by simp [wsum]
      rw [e, e1, e2, ih, cn_cons, if_neg hb, Nat.add_zero]; omega
theorem wsum_congr (g : Nat → Nat) {x x' y : List α} (h : ∀ a ∈ y, cn x a = cn x' a) : wsum g x y = wsum g x' y := by
  unfold wsum; congr 1; exact List.map_congr_left fun a ha => by rw [h a ha]
theorem wsum_groups (g : Nat → Nat) (c : Nat) : ∀ (n : Nat) (x : List α), x.length ≤ n → (∀ a ∈ x, cn x a * g (cn x a) = c) → wsum g x x = c * many1 x
  | 0, x, hn, _ => by
    have : x = [] := List.eq_nil_of_length_eq_zero (by omega)
    subst this; simp [wsum, many1]
  | n + 1, [], _, _ => by simp [wsum, many1]
  | n + 1, a :: l, hn, h => by
    have ha : a ∈ a :: l := by simp
    have hpos := cn_pos.2 ha
    have hl := but_len (a :: l) a
    have ih := wsum_groups g c n (but (a :: l) a) (by omega) (fun b hb => by
      rw [cn_but (but_mem.1 hb).2]; exact h b (but_mem.1 hb).1)
    rw [wsum_but g _ _ a, wsum_congr g (x' := but (a :: l) a) (y := but (a :: l) a) (fun b hb => (cn_but (but_mem.1 hb).2).symm), ih, h a ha, many1_but (a :: l) a, if_pos ha, Nat.mul_add, Nat.mul_one]
theorem wsum_ge (g : Nat → Nat) (c : Nat) : ∀ (n : Nat) (x : List α), x.length ≤ n → (∀ a ∈ x, c ≤ cn x a * g (cn x a)) → c * many1 x ≤ wsum g x x
  | 0, x, hn, _ => by
    have : x = [] := List.eq_nil_of_length_eq_zero (by omega)
    subst this; simp [wsum, many1]
  | n + 1, [], _, _ => by simp [wsum, many1]
  | n + 1, a :: l, hn, h => by
    have ha : a ∈ a :: l := by simp
    have hpos := cn_pos.2 ha
    have hl := but_len (a :: l) a
    have ih := wsum_ge g c n (but (a :: l) a) (by omega) (fun b hb => by
      rw [cn_but (but_mem.1 hb).2]; exact h b (but_mem.1 hb).1)
    rw [wsum_but g _ _ a, wsum_congr g (x' := but (a :: l) a) (y := but (a :: l) a) (fun b hb => (cn_but (but_mem.1 hb).2).symm), many1_but (a :: l) a, if_pos ha, Nat.mul_add, Nat.mul_one]
    have := h a ha
    omega
theorem wsum_one (x y : List α) : wsum (fun _ => 1) x y = y.length := by
  induction y with
  | nil => rfl
  | cons a l ih => simp [wsum] at ih ⊢; omega
/-- Groups have room. -/
theorem many_least (x : List α) : many1 x * least1 x ≤ x.length := by
  have h := wsum_ge (fun _ => 1) (least1 x) x.length x (Nat.le_refl _) (fun a ha => by rw [Nat.mul_one]; exact least1_le x ha)
  rw [wsum_one] at h
  rw [Nat.mul_comm]; exact h
/-- Each person is a share of a group. -/
theorem many_shares (x : List α) (h : ∀ a ∈ x, cn x a ≤ 10) : wsum (fun n => 2520 / n) x x = 2520 * many1 x :=
  wsum_groups _ _ x.length x (Nat.le_refl _) fun a ha => by
    have h0 := cn_pos.2 ha
    have h1 := h a ha
    generalize cn x a = n at *
    have : n = 1 ∨ n = 2 ∨ n = 3 ∨ n = 4 ∨ n = 5 ∨ n = 6 ∨ n = 7 ∨ n = 8 ∨ n = 9 ∨ n = 10 := by omega
    rcases this with rfl | rfl | rfl | rfl | rfl | rfl | rfl | rfl | rfl | rfl <;> rfl
/-- Coarser groups are larger. -/
theorem cn_map {β : Type} [DecidableEq β] (f : α → β) (x : List α) (a : α) : cn x a ≤ cn (x.map f) (f a) := by
  induction x with
  | nil => simp [cn]
  | cons b l ih =>
    rw [List.map_cons, cn_cons, cn_cons]
    by_cases hb : b = a
    · subst hb; simp; exact ih
    · rw [if_neg hb]; split <;> omega
theorem least_map {β : Type} [DecidableEq β] (f : α → β) (x : List α) : least1 x ≤ least1 (x.map f) := by
  by_cases hx : x = []
  · subst hx; simp [least1]
  · obtain ⟨b, hb, he⟩ := least1_is (x.map f) (by simpa using hx)
    obtain ⟨a, ha, rfl⟩ := List.mem_map.1 hb
    have := least1_le x ha
    have := cn_map f x a
    omega
theorem many_map {β : Type} [DecidableEq β] (f : α → β) (x : List α) : many1 (x.map f) ≤ many1 x := by
  induction x with
  | nil => simp [many1]
  | cons a l ih =>
    simp only [List.map_cons, many1]
    by_cases h : a ∈ l
    · rw [if_pos h, if_pos (List.mem_map.2 ⟨a, h, rfl⟩)]; omega
    · rw [if_neg h]; split <;> omega
/-- Unique ones are groups. -/
theorem uniq_le (x : List α) : uniq1 x ≤ many1 x := by
  have h := wsum_ge (fun n => if n = 1 then 1 else 0) 0 x.length x (Nat.le_refl _) (fun a _ => Nat.zero_le _)
  suffices h2 : ∀ (n : Nat) (x : List α), x.length ≤ n → uniq1 x ≤ many1 x from h2 x.length x (Nat.le_refl _)
  clear h
  intro n
  induction n with
  | zero => intro x hn; have : x = [] := List.eq_nil_of_length_eq_zero (by omega); subst this; simp [uniq1, many1]
  | succ n ih =>
    intro x hn
    cases x with
    | nil => simp [uniq1, many1]
    | cons a l =>
      have ha : a ∈ a :: l := by simp
      have hpos := cn_pos.2 ha
      have hl := but_len (a :: l) a
      have h1 := ih (but (a :: l) a) (by omega)
      have h2 := many1_but (a :: l) a
      rw [if_pos ha] at h2
      have h3 : uniq1 (a :: l) ≤ uniq1 (but (a :: l) a) + 1 := by
        have e : uniq1 (a :: l) = ((a :: l).filter fun b => decide (cn (a :: l) b = 1)).length := rfl
        have k := but_len ((a :: l).filter fun b => decide (cn (a :: l) b = 1)) a
        have k1 : but ((a :: l).filter fun b => decide (cn (a :: l) b = 1)) a = (but (a :: l) a).filter fun b => decide (cn (but (a :: l) a) b = 1) := by
          have e1 : but ((a :: l).filter fun b => decide (cn (a :: l) b = 1)) a = (a :: l).filter fun b => !decide (b = a) && decide (cn (a :: l) b = 1) := List.filter_filter
          have e2 : ((but (a :: l) a).filter fun b => decide (cn (but (a :: l) a) b = 1)) = (a :: l).filter fun b => decide (cn (but (a :: l) a) b = 1) && !decide (b = a) := List.filter_filter
          rw [e1, e2]
          refine List.filter_congr fun b _ => ?_
          by_cases hb : b = a
          · simp [hb]
          · rw [cn_but (x := a :: l) hb, Bool.and_comm]
        have k2 : cn ((a :: l).filter fun b => decide (cn (a :: l) b = 1)) a ≤ 1 := by
          by_cases hc : cn (a :: l) a = 1
          · have : cn ((a :: l).filter fun b => decide (cn (a :: l) b = 1)) a ≤ cn (a :: l) a := by
              unfold cn; exact (List.filter_sublist.filter _).length_le
            omega
          · rw [cn_zero (fun h => hc (by simpa using (List.mem_filter.1 h).2))]; omega
        rw [k1] at k
        rw [e, k]
        unfold uniq1; omega
      omega
theorem uniq_pos {x : List α} (h : 0 < uniq1 x) : least1 x = 1 := by
  obtain ⟨a, ha⟩ := List.length_pos_iff_exists_mem.1 h
  obtain ⟨h1, h2⟩ := List.mem_filter.1 ha
  have h3 : cn x a = 1 := by simpa using h2
  exact least1_eq (fun b hb => cn_pos.2 hb) ⟨a, h1, h3⟩
theorem least_one {x : List α} (h : least1 x = 1) : 0 < uniq1 x := by
  by_cases hx : x = []
  · subst hx; simp [least1] at h
  · obtain ⟨a, ha, he⟩ := least1_is x hx
    exact List.length_pos_iff_exists_mem.2 ⟨a, List.mem_filter.2 ⟨ha, by simp [← he, h]⟩⟩
/-- All are unique if there are as many groups. -/
theorem uniq_all (x : List α) : uniq1 x = x.length ↔ many1 x = x.length := by
  constructor
  · intro h; have := uniq_le x; have := many1_le x; omega
  · intro h
    have key : ∀ a ∈ x, cn x a = 1 := by
      intro a ha
      have h1 := many1_but x a
      rw [if_pos ha] at h1
      have h2 := but_len x a
      have h3 := many1_le (but x a)
      have h4 := cn_pos.2 ha
      omega
    unfold uniq1
    rw [List.filter_eq_self.2 fun a ha => by simp [key a ha]]
theorem many_mem {x y : List α} (h : ∀ a ∈ y, a ∈ x) : many1 (y ++ x) = many1 x := by
  induction y with
  | nil => rfl
  | cons a l ih =>
    simp only [List.cons_append, many1]
    rw [ih fun b hb => h b (List.mem_cons_of_mem _ hb), if_pos (List.mem_append.2 (.inr (h a (by simp))))]; omega
theorem many_twice (x : List α) : many1 (x ++ x) = many1 x := many_mem fun _ h => h
theorem uniq_twice (x : List α) : uniq1 (x ++ x) = 0 := by
  unfold uniq1
  rw [List.length_eq_zero_iff, List.filter_eq_nil_iff]
  intro a ha
  have h1 : a ∈ x := by simpa using ha
  have := cn_pos.2 h1
  rw [cn_app]; simp; omega
theorem least_twice (x : List α) : least1 (x ++ x) = 2 * least1 x := by
  by_cases hx : x = []
  · subst hx; rfl
  · obtain ⟨a, ha, he⟩ := least1_is x hx
    refine least1_eq (fun b hb => ?_) ⟨a, by simp [ha], by rw [cn_app]; omega⟩
    have h1 : b ∈ x := by simpa using hb
    have := least1_le x h1
    rw [cn_app]; omega
theorem many_add (x : List α) (a : α) : many1 (x ++ [a]) = many1 x ∨ many1 (x ++ [a]) = many1 x + 1 := by
  have h := many1_perm (List.perm_append_comm (l₁ := x) (l₂ := [a]))
  rw [h]
  simp only [List.singleton_append, many1]
  split
  · left; omega
  · right; omega
theorem least_add {x : List α} {a : α} (h : a ∈ x) : least1 (x ++ [a]) = least1 x ∨ least1 (x ++ [a]) = least1 x + 1 := by
  have hx : x ≠ [] := fun e => by rw [e] at h; cases h
  obtain ⟨b, hb, he⟩ := least1_is x hx
  have h1 : least1 x ≤ least1 (x ++ [a]) := by
    obtain ⟨c, hc, hc2⟩ := least1_is (x ++ [a]) (by simp)
    have hcx : c ∈ x := by
      rcases List.mem_append.1 hc with h2 | h2
      · exact h2
      · rw [List.mem_singleton.1 h2]; exact h
    have := least1_le x hcx
    rw [hc2, cn_app]; omega
  have h2 := least1_le (x ++ [a]) (a := b) (by simp [hb])
  rw [cn_app] at h2
  have h3 : cn [a] b ≤ 1 := cn_le [a] b
  omega
end
end Go.Proofs.Ytbbgakbobefplaa
