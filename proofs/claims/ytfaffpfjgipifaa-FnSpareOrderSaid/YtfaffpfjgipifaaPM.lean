/- Contributions: plain lists in descending order. -/
namespace Go.Proofs.Ytfaffpfjgipifaa
def geB (a b : Int) : Bool := decide (b ≤ a)
/-- A list in descending order. -/
def ds (l : List Int) : List Int := l.mergeSort geB
def Dn (l : List Int) : Prop := l.Pairwise fun a b => b ≤ a
theorem ds_perm (l : List Int) : (ds l).Perm l := List.mergeSort_perm l geB
theorem ds_dn (l : List Int) : Dn (ds l) := by
  have h := List.pairwise_mergeSort (le := geB) (fun a b c h1 h2 => by simp only [geB, decide_eq_true_eq] at *; omega) (fun a b => by simp only [geB, Bool.or_eq_true, decide_eq_true_eq]; omega) l
  exact h.imp fun h => by simpa [geB] using h
theorem dn_uniq {a b : List Int} (ha : Dn a) (hb : Dn b) (h : a.Perm b) : a = b := h.eq_of_pairwise (fun x y _ _ h1 h2 => by omega) ha hb
theorem ds_uniq {s l : List Int} (hs : Dn s) (h : s.Perm l) : ds l = s := dn_uniq (ds_dn l) hs ((ds_perm l).trans h.symm)
theorem ds_congr {a b : List Int} (h : a.Perm b) : ds a = ds b := ds_uniq (ds_dn b) ((ds_perm b).trans h.symm)
theorem ds_len (l : List Int) : (ds l).length = l.length := (ds_perm l).length_eq
theorem ds_mem {l : List Int} {x : Int} : x ∈ ds l ↔ x ∈ l := (ds_perm l).mem_iff
theorem sum_perm {a b : List Int} (h : a.Perm b) : a.sum = b.sum := by
  induction h with
  | nil => rfl
  | cons x _ ih => simp [ih]
  | swap x y l => simp only [List.sum_cons]; omega
  | trans _ _ h1 h2 => exact h1.trans h2
theorem ds_sum (l : List Int) : (ds l).sum = l.sum := sum_perm (ds_perm l)
theorem ds_nil : ds [] = [] := by simp [ds]
theorem ds_ins {l a b : List Int} {x : Int} (h : ds l = a ++ b) (h1 : ∀ y ∈ a, x ≤ y) (h2 : ∀ y ∈ b, y ≤ x) : ds (x :: l) = a ++ x :: b := by
  have hd : Dn (a ++ b) := h ▸ ds_dn l
  obtain ⟨ha, hb, hab⟩ := List.pairwise_append.1 hd
  refine ds_uniq (List.pairwise_append.2 ⟨ha, List.pairwise_cons.2 ⟨h2, hb⟩, fun u hu v hv => ?_⟩) ?_
  · rcases List.mem_cons.1 hv with rfl | hv
    · exact h1 u hu
    · exact hab u hu v hv
  · exact List.perm_middle.trans (List.Perm.cons x (h ▸ ds_perm l))
/-- Where a number goes. -/
theorem ds_cut (l : List Int) (x : Int) : ∃ a b, ds l = a ++ b ∧ (∀ y ∈ a, x ≤ y) ∧ ∀ y ∈ b, y ≤ x := by
  have H : ∀ s : List Int, Dn s → ∃ a b, s = a ++ b ∧ (∀ y ∈ a, x ≤ y) ∧ ∀ y ∈ b, y ≤ x := by
    intro s
    induction s with
    | nil => exact fun _ => ⟨[], [], rfl, by simp, by simp⟩
    | cons u s ih =>
      intro hs
      obtain ⟨h1, h2⟩ := List.pairwise_cons.1 hs
      by_cases hu : x ≤ u
      · obtain ⟨a, b, rfl, ha, hb⟩ := ih h2
        exact ⟨u :: a, b, rfl, List.forall_mem_cons.2 ⟨hu, ha⟩, hb⟩
      · exact ⟨[], u :: s, rfl, by simp, fun y hy => by
          rcases List.mem_cons.1 hy with rfl | hy
          · omega
          · have := h1 y hy; omega⟩
  exact H _ (ds_dn l)
/-- The sum of the n greatest. -/
def tp (l : List Int) (n : Nat) : Int := ((ds l).take n).sum
/-- The one in the n-th place. -/
def nth (l : List Int) (n : Nat) : Int := (ds l).getD n 0
def Nn (l : List Int) : Prop := ∀ x ∈ l, 0 ≤ x
theorem tp_perm {a b : List Int} (h : a.Perm b) (n : Nat) : tp a n = tp b n := by unfold tp; rw [ds_congr h]
theorem tp_zero (l : List Int) : tp l 0 = 0 := by simp [tp]
theorem tp_all {l : List Int} {n : Nat} (h : l.length ≤ n) : tp l n = l.sum := by unfold tp; rw [List.take_of_length_le (by rw [ds_len]; exact h), ds_sum]
theorem tp_succ (l : List Int) (n : Nat) : tp l (n + 1) = tp l n + nth l n := by
  unfold tp nth
  by_cases h : n < (ds l).length
  · rw [List.take_succ_eq_append_getElem h, List.sum_append]; simp [List.getD_eq_getElem?_getD, h]
  · rw [List.take_of_length_le (by omega), List.take_of_length_le (by omega), List.getD_eq_getElem?_getD, List.getElem?_eq_none (by omega)]; simp
theorem nth_nn {l : List Int} (h : Nn l) (n : Nat) : 0 ≤ nth l n := by
  unfold nth
  by_cases hn : n < (ds l).length
  · rw [List.getD_eq_getElem?_getD, List.getElem?_eq_getElem hn]; exact h _ (ds_mem.1 (List.getElem_mem _))
  · rw [List.getD_eq_getElem?_getD, List.getElem?_eq_none (by omega)]; simp
theorem nth_anti {l : List Int} (h : Nn l) (n : Nat) : nth l (n + 1) ≤ nth l n := by
  by_cases hn : n + 1 < (ds l).length
  · have := List.pairwise_iff_getElem.1 (ds_dn l) n (n + 1) (by omega) hn (by omega)
    unfold nth
    rw [List.getD_eq_getElem?_getD, List.getElem?_eq_getElem hn, List.getD_eq_getElem?_getD, List.getElem?_eq_getElem (by omega : n < (ds l).length)]; exact this
  · have e : nth l (n + 1) = 0 := by unfold nth; rw [List.getD_eq_getElem?_getD, List.getElem?_eq_none (by omega)]; rfl
    rw [e]; exact nth_nn h n
theorem tp_mono {l : List Int} (h : Nn l) (n k : Nat) : tp l n ≤ tp l (n + k) := by
  induction k with
  | zero => simp
  | succ k ih => have := tp_succ l (n + k); have := nth_nn h (n + k); have e : n + (k + 1) = n + k + 1 := rfl; rw [e]; omega
theorem tp_mono' {l : List Int} (h : Nn l) {n k : Nat} (hk : n ≤ k) : tp l n ≤ tp l k := by
  have := tp_mono h n (k - n); rwa [Nat.add_sub_cancel' hk] at this
theorem tp_nn {l : List Int} (h : Nn l) (n : Nat) : 0 ≤ tp l n := by have := tp_mono h 0 n; rw [tp_zero, Nat.zero_add] at this; exact this
theorem tp_le_sum {l : List Int} (h : Nn l) (n : Nat) : tp l n ≤ l.sum := by
  have h1 := tp_mono' h (n := n) (k := max n l.length) (Nat.le_max_left _ _)
  rw [tp_all (Nat.le_max_right _ _)] at h1; exact h1
theorem nth_le {l : List Int} {M : Int} (hM : 0 ≤ M) (h : ∀ x ∈ l, x ≤ M) (n : Nat) : nth l n ≤ M := by
  unfold nth
  by_cases hn : n < (ds l).length
  · rw [List.getD_eq_getElem?_getD, List.getElem?_eq_getElem hn]; exact h _ (ds_mem.1 (List.getElem_mem _))
  · rw [List.getD_eq_getElem?_getD, List.getElem?_eq_none (by omega)]; exact hM
theorem Nn.snoc {l : List Int} (h : Nn l) {m : Int} (hm : 0 ≤ m) : Nn (l ++ [m]) := fun x hx => by
  rcases List.mem_append.1 hx with hx | hx
  · exact h x hx
  · simp at hx; omega
theorem tp_snoc {l : List Int} (h : Nn l) {m : Int} (hm : 0 ≤ m) (n : Nat) : tp l n ≤ tp (l ++ [m]) n ∧ tp (l ++ [m]) n ≤ tp l n + m := by
  obtain ⟨a, b, e, ha, hb⟩ := ds_cut l m
  have e2 : ds (l ++ [m]) = a ++ m :: b := (ds_congr (List.perm_append_singleton m l)).trans (ds_ins e ha hb)
  have hbn : ∀ y ∈ b, 0 ≤ y := fun y hy => h y (ds_mem.1 (by rw [e]; exact List.mem_append_right _ hy))
  unfold tp
  rw [e, e2, List.take_append, List.take_append, List.sum_append, List.sum_append]
  generalize n - a.length = k
  cases k with
  | zero => simp; omega
  | succ k =>
    rw [List.take_succ_cons, List.sum_cons]
    by_cases hk : k < b.length
    · rw [List.take_succ_eq_append_getElem hk, List.sum_append]
      have h1 := hb _ (List.getElem_mem hk)
      have h2 := hbn _ (List.getElem_mem hk)
      simp only [List.sum_cons, List.sum_nil]
      omega
    · rw [List.take_of_length_le (l := b) (by omega), List.take_of_length_le (l := b) (by omega)]; omega
theorem tp_snoc0 {l : List Int} (h : Nn l) (n : Nat) : tp (l ++ [0]) n = tp l n := by have := tp_snoc h (m := 0) (by omega) n; omega
theorem tp_app_ge {l : List Int} (h : Nn l) : ∀ (q : List Int), Nn q → ∀ n, tp l n ≤ tp (l ++ q) n := by
  intro q hq n
  induction q generalizing l with
  | nil => simp
  | cons u q ih =>
    have h1 := (tp_snoc h (m := u) (hq u (by simp)) n).1
    have h2 := ih (h.snoc (hq u (by simp))) fun x hx => hq x (by simp [hx])
    rw [List.append_assoc] at h2
    exact Int.le_trans h1 h2
theorem take_le_tp {x : List Int} (h : Nn x) (n : Nat) : (x.take n).sum ≤ tp x n := by
  have h1 := tp_app_ge (l := x.take n) (fun y hy => h y (List.mem_of_mem_take hy)) (x.drop n) (fun y hy => h y (List.mem_of_mem_drop hy)) n
  rw [List.take_append_drop, tp_all (List.length_take_le _ _)] at h1
  exact h1
theorem sum_dbl (l : List Int) : (l.map fun x => 2 * x).sum = 2 * l.sum := by induction l with
  | nil => rfl
  | cons a l ih => simp only [List.map_cons, List.sum_cons, ih]; omega
theorem tp_dbl (l : List Int) (n : Nat) : tp (l.map fun x => 2 * x) n = 2 * tp l n := by
  have e : ds (l.map fun x => 2 * x) = (ds l).map fun x => 2 * x := ds_uniq (List.pairwise_map.2 ((ds_dn l).imp fun h => by omega)) ((ds_perm l).map _)
  unfold tp
  rw [e, ← List.map_take, sum_dbl]
theorem nth0_ge {l : List Int} {x : Int} (h : x ∈ l) : x ≤ nth l 0 := by
  have hd := ds_dn l
  have hm := ds_mem.2 h
  unfold nth
  cases e : ds l with
  | nil => rw [e] at hm; cases hm
  | cons u s =>
    rw [e] at hm hd
    rcases List.mem_cons.1 hm with rfl | hm
    · simp
    · exact (List.pairwise_cons.1 hd).1 x hm
theorem tp_one (l : List Int) : tp l 1 = nth l 0 := by rw [tp_succ, tp_zero]; omega
theorem tp1_snoc {l : List Int} {m : Int} (hl : m ≤ tp l 1) (h : Nn l) (hm : 0 ≤ m) : tp (l ++ [m]) 1 = tp l 1 := by
  have h1 := (tp_snoc h hm 1).1
  have h2 : nth (l ++ [m]) 0 ≤ nth l 0 := nth_le (nth_nn h 0) (fun x hx => by
    rcases List.mem_append.1 hx with hx | hx
    · exact nth0_ge hx
    · simp at hx; subst hx; rw [← tp_one]; exact hl) 0
  rw [tp_one] at *; rw [tp_one] at *; omega
theorem filt_over {l : List Int} (hl : Nn l) (n : Nat) : (l.filter fun x => decide (nth l n < x)).sum ≤ tp l n ∧ (l.filter fun x => decide (nth l n < x)).length ≤ n := by
  have hp : ((ds l).filter fun x => decide (nth l n < x)).Perm (l.filter fun x => decide (nth l n < x)) := (ds_perm l).filter _
  rw [← sum_perm hp, ← hp.length_eq]
  have hrest : ((ds l).drop n).filter (fun x => decide (nth l n < x)) = [] := by
    refine List.filter_eq_nil_iff.2 fun y hy => ?_
    obtain ⟨i, hi, rfl⟩ := List.getElem_of_mem hy
    rw [List.length_drop] at hi
    rw [List.getElem_drop]
    have hn : n < (ds l).length := by omega
    unfold nth
    rw [List.getD_eq_getElem?_getD, List.getElem?_eq_getElem hn]
    by_cases h0 : i = 0
    · subst h0; simp
    · have := List.pairwise_iff_getElem.1 (ds_dn l) n (n + i) hn (by omega) (by omega)
      simp; omega
  have hsplit : (ds l).filter (fun x => decide (nth l n < x)) = ((ds l).take n).filter fun x => decide (nth l n < x) := by
    conv => lhs; rw [← List.take_append_drop n (ds l)]
    rw [List.filter_append, hrest, List.append_nil]
  rw [hsplit]
  constructor
  · have H : ∀ s : List Int, Nn s → (s.filter fun x => decide (nth l n < x)).sum ≤ s.sum := by
      intro s
      induction s with
      | nil => simp
      | cons u s ih =>
        intro hs
        have h1 := ih fun x hx => hs x (by simp [hx])
        have h2 := hs u (by simp)
        rw [List.filter_cons]
        split
        · simp only [List.sum_cons]; omega
        · simp only [List.sum_cons]; omega
    exact H _ fun x hx => hl x (ds_mem.1 (List.mem_of_mem_take hx))
  · exact Nat.le_trans (List.length_filter_le _ _) (List.length_take_le _ _)
theorem nn_sum {l : List Int} (h : Nn l) : 0 ≤ l.sum := by have := tp_nn h l.length; rwa [tp_all (Nat.le_refl _)] at this
theorem sum_le_mul {l : List Int} {M : Int} (h : ∀ x ∈ l, x ≤ M) : l.sum ≤ M * l.length := by
  induction l with
  | nil => simp
  | cons u l ih =>
    have h1 := ih fun x hx => h x (by simp [hx])
    have h2 := h u (by simp)
    have e : M * ((l.length + 1 : Nat) : Int) = M * l.length + M := by rw [Int.natCast_add, Int.mul_add]; omega
    simp only [List.sum_cons, List.length_cons]; omega
theorem sum_ge_mul {l : List Int} {M : Int} (h : ∀ x ∈ l, -M ≤ x) : -(M * l.length) ≤ l.sum := by
  induction l with
  | nil => simp
  | cons u l ih =>
    have h1 := ih fun x hx => h x (by simp [hx])
    have h2 := h u (by simp)
    have e : M * ((l.length + 1 : Nat) : Int) = M * l.length + M := by rw [Int.natCast_add, Int.mul_add]; omega
    simp only [List.sum_cons, List.length_cons]; omega
end Go.Proofs.Ytfaffpfjgipifaa
