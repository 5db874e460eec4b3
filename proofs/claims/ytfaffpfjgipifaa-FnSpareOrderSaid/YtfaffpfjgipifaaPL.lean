/- Contributions: what the laws say of the model's numbers. -/
import Derived.Test.YtfaffpfjgipifaaRM4
namespace Go.Proofs.Ytfaffpfjgipifaa
theorem pOk_perm {a b : List Int} (h : a.Perm b) : pOk a = pOk b := by
  rw [Bool.eq_iff_iff, pOk_parts, pOk_parts, h.length_eq]
  constructor
  · rintro ⟨h1, h2⟩; exact ⟨h1, fun x hx => h2 x (h.mem_iff.2 hx)⟩
  · rintro ⟨h1, h2⟩; exact ⟨h1, fun x hx => h2 x (h.mem_iff.1 hx)⟩
theorem pOk_app {l : List Int} (h : pOk l = true) {q : List Int} (hl : l.length + q.length ≤ 20) (hq : ∀ x ∈ q, 0 ≤ x ∧ x ≤ 100000) : pOk (l ++ q) = true := by
  refine pOk_parts.2 ⟨by rw [List.length_append]; exact hl, fun x hx => ?_⟩
  rcases List.mem_append.1 hx with hx | hx
  · exact (pOk_parts.1 h).2 x hx
  · exact hq x hx
theorem pOk_take {l : List Int} (h : pOk l = true) (k : Nat) : pOk (l.take k) = true :=
  pOk_parts.2 ⟨Nat.le_trans (by rw [List.length_take]; omega) (pOk_parts.1 h).1, fun x hx => (pOk_parts.1 h).2 x (List.mem_of_mem_take hx)⟩
theorem pOk_bad (l : List Int) : pOk (l ++ [100001]) = false := by
  rw [Bool.eq_false_iff]; intro h
  have := (pOk_parts.1 h).2 100001 (by simp)
  omega
theorem topI_inv {l : List Int} {n : Int} (h : 0 ≤ topI l n) : pOk l = true ∧ 0 ≤ n := by
  unfold topI at h; split at h
  · assumption
  · omega
theorem spareI_inv {l : List Int} {n : Int} (h : 0 ≤ spareI l n) : pOk l = true ∧ in3 n 0 100 = true := by
  unfold spareI at h; split at h
  · assumption
  · omega
theorem fewI_inv {l : List Int} {n : Int} (h : fewI l n = true) : pOk l = true := by
  unfold fewI at h; simp only [Bool.and_eq_true] at h; exact h.1
theorem guessI_inv {l : List Int} {n : Int} (h : guessI l n = true) : pOk l = true ∧ in3 n 0 100 = true := by
  unfold guessI at h; simp only [Bool.and_eq_true] at h; exact ⟨h.1, h.2.1⟩
theorem leadI_inv {l : List Int} {n pc : Int} (h : leadI l n pc = true) : pOk l = true ∧ in3 n 1 20 = true ∧ in3 pc 0 100 = true := by
  unfold leadI at h; simp only [Bool.and_eq_true] at h; exact ⟨h.1, h.2.1.1, h.2.1.2⟩
theorem nth_bd {l : List Int} (h : pOk l = true) (k : Nat) : 0 ≤ nth l k ∧ nth l k ≤ 100000 := ⟨nth_nn (pOk_nn h) k, nth_le (by omega) (fun x hx => ((pOk_parts.1 h).2 x hx).2) k⟩
theorem top_succ {l : List Int} (h : pOk l = true) {n : Int} (hn : 0 ≤ n) : topI l (n + 1) = topI l n + nth l n.toNat := by
  rw [topI_ok h (by omega), topI_ok h hn, show (n + 1).toNat = n.toNat + 1 by omega, tp_succ]
theorem top_pred {l : List Int} (h : pOk l = true) {n : Int} (hn : 0 < n) : topI l n = topI l (n - 1) + nth l (n.toNat - 1) ∧ nth l n.toNat ≤ nth l (n.toNat - 1) := by
  have h1 := top_succ h (n := n - 1) (by omega)
  rw [show n - 1 + 1 = n by omega, show (n - 1).toNat = n.toNat - 1 by omega] at h1
  have h2 := nth_anti (pOk_nn h) (n.toNat - 1)
  rw [show n.toNat - 1 + 1 = n.toNat by omega] at h2
  exact ⟨h1, h2⟩
theorem topI_zero {l : List Int} (h : pOk l = true) : topI l 0 = 0 := by rw [topI_ok h (by omega)]; exact tp_zero l
theorem topI_perm {a b : List Int} (h : a.Perm b) (n : Int) : topI a n = topI b n := by unfold topI; rw [pOk_perm h, tp_perm h]
theorem rot_perm (l : List Int) (k : Nat) : (l.drop k ++ l.take k).Perm l := by
  have h := List.perm_append_comm (l₁ := l.drop k) (l₂ := l.take k)
  rwa [List.take_append_drop] at h
theorem top_front {x : List Int} {n m : Int} (h : pOk x = true) (hn : 0 ≤ n) (hm : m = min n x.length) : (x.take m.toNat).sum ≤ topI x n := by
  rw [topI_ok h hn]
  have h1 := take_le_tp (pOk_nn h) n.toNat
  by_cases hc : n ≤ x.length
  · rw [show m.toNat = n.toNat by omega]; exact h1
  · rw [List.take_of_length_le (by omega)] at h1
    rw [List.take_of_length_le (by omega)]; exact h1
theorem fewI_eq (l : List Int) (n : Int) : fewI l n = (pOk l && (decide (1 ≤ posN l) && decide ((posN l : Int) < n))) := by
  unfold fewI fewB; rw [posN_eq, Bool.true_and]
theorem fewI_one (l : List Int) : fewI l 1 = false := by
  rw [fewI_eq, Bool.eq_false_iff]; simp only [Bool.and_eq_true, decide_eq_true_eq, ne_eq]; omega
theorem fewI_more {l : List Int} {n : Int} (h : fewI l n = true) : fewI l (n + 1) = true := by
  rw [fewI_eq] at *; simp only [Bool.and_eq_true, decide_eq_true_eq] at *; exact ⟨h.1, h.2.1, by omega⟩
theorem posN_app (a b : List Int) : posN (a ++ b) = posN a + posN b := by simp [posN]
theorem fewI_snoc0 {l : List Int} {n : Int} (h : fewI l n = true) (hl : l.length ≤ 19) : fewI (l ++ [0]) n = true := by
  have h0 := pOk_app (fewI_inv h) (q := [0]) (by simp; omega) (by simp)
  rw [fewI_eq] at *
  rw [h0, posN_app, show posN [0] = 0 from rfl, Nat.add_zero]
  simp only [Bool.and_eq_true, decide_eq_true_eq] at h
  simp [h.2]
theorem fewI_perm {a b : List Int} (h : a.Perm b) (n : Int) : fewI a n = fewI b n := by
  rw [fewI_eq, fewI_eq, pOk_perm h, show posN a = posN b from (h.filter _).length_eq]
theorem posN_dbl (l : List Int) : posN (l.map fun x => 2 * x) = posN l := by
  unfold posN
  rw [List.filter_map, List.length_map]
  congr 1
  refine List.filter_congr fun x _ => ?_
  rw [Bool.eq_iff_iff]; simp; omega
theorem fewI_dbl {l : List Int} {n : Int} (h : fewI l n = true) (h2 : pOk (l.map fun x => 2 * x) = true) : fewI (l.map fun x => 2 * x) n = true := by
  rw [fewI_eq] at *
  rw [h2, posN_dbl]
  simp only [Bool.and_eq_true, decide_eq_true_eq] at h
  simp [h.2]
theorem top_add {l : List Int} (h : pOk l = true) (hl : l.length ≤ 19) {m : Int} (h0 : 0 ≤ m) (h1 : m ≤ 100000) {n : Int} (hn : 0 ≤ n) : topI l n ≤ topI (l ++ [m]) n ∧ topI (l ++ [m]) n ≤ topI l n + m ∧ (0 < n ∨ topI (l ++ [m]) n = 0) := by
  have h3 := pOk_app h (q := [m]) (by simp; omega) (by simp; omega)
  have h4 := tp_snoc (pOk_nn h) h0 n.toNat
  rw [topI_ok h hn, topI_ok h3 hn]
  refine ⟨h4.1, h4.2, ?_⟩
  by_cases hz : 0 < n
  · exact .inl hz
  · right; rw [show n.toNat = 0 by omega, tp_zero]
/-- The top when one more is there. -/
theorem tp_snoc_max {l : List Int} (_h : Nn l) {m : Int} (hm : 0 ≤ m) (k : Nat) : tp (l ++ [m]) (k + 1) = max (tp l (k + 1)) (tp l k + m) := by
  obtain ⟨a, b, e, ha, hb⟩ := ds_cut l m
  have e2 : ds (l ++ [m]) = a ++ m :: b := (ds_congr (List.perm_append_singleton m l)).trans (ds_ins e ha hb)
  by_cases hk : k + 1 ≤ a.length
  · have e3 : tp (l ++ [m]) (k + 1) = tp l (k + 1) := by
      unfold tp; rw [e, e2, List.take_append_of_le_length hk, List.take_append_of_le_length hk]
    have h4 : m ≤ nth l k := by
      unfold nth; rw [e, List.getD_eq_getElem?_getD, List.getElem?_append_left (by omega), List.getElem?_eq_getElem (by omega)]
      exact ha _ (List.getElem_mem _)
    have h5 := tp_succ l k
    rw [e3]; omega
  · have e3 : tp (l ++ [m]) (k + 1) = tp l k + m := by
      unfold tp
      rw [e, e2, List.take_append, List.take_append, List.sum_append, List.sum_append, List.take_of_length_le (l := a) (by omega), List.take_of_length_le (l := a) (by omega), show k + 1 - a.length = (k - a.length) + 1 by omega, List.take_succ_cons, List.sum_cons]
      omega
    have h4 : nth l k ≤ m := by
      unfold nth; rw [e, List.getD_eq_getElem?_getD, List.getElem?_append_right (by omega)]
      by_cases hb2 : k - a.length < b.length
      · rw [List.getElem?_eq_getElem hb2]; exact hb _ (List.getElem_mem _)
      · rw [List.getElem?_eq_none (by omega)]; exact hm
    have h5 := tp_succ l k
    rw [e3]; omega
theorem tp2_le (l : List Int) (h : Nn l) : tp l 2 ≤ 2 * tp l 1 := by
  have h1 : tp l 2 = tp l 1 + nth l 1 := tp_succ l 1
  have h2 : nth l 1 ≤ nth l 0 := nth_anti h 0
  have h3 := tp_one l
  omega
theorem sum_app (a b : List Int) : (a ++ b).sum = a.sum + b.sum := List.sum_append
theorem tp1_le_sum {l : List Int} (h : Nn l) : tp l 1 ≤ l.sum := tp_le_sum h 1
/-- A cell whose greatest contribution can be guessed. -/
def Gs (l : List Int) (pc : Int) : Prop := 100 * (l.sum - tp l 2) < tp l 1 * pc
theorem guessI_iff {l : List Int} {pc : Int} (h : pOk l = true) (h2 : in3 pc 0 100 = true) : guessI l pc = true ↔ Gs l pc := by
  rw [guessI_ok h h2]; simp only [decide_eq_true_eq]; exact Iff.rfl
theorem guessI_not {l : List Int} {pc : Int} (h : pOk l = true → in3 pc 0 100 = true → ¬ Gs l pc) : guessI l pc = false := by
  rw [Bool.eq_false_iff]; intro hg
  obtain ⟨h1, h2⟩ := guessI_inv hg
  exact h h1 h2 ((guessI_iff h1 h2).1 hg)
theorem gs_more {l : List Int} (h : Nn l) {pc : Int} (hg : Gs l pc) : Gs l (pc + 1) := by
  unfold Gs at *
  have := tp_nn h 1
  rw [Int.mul_add]; omega
theorem rest_nn {l : List Int} (h : Nn l) : 0 ≤ l.sum - tp l 2 := by have := tp_le_sum h 2; omega
theorem no_two {l : List Int} (h : Nn l) {pc : Int} (h1 : pc ≤ 100) : ¬ Gs (l ++ [tp l 1, tp l 1]) pc := by
  have ht := tp_nn h 1
  have e : l ++ [tp l 1, tp l 1] = (l ++ [tp l 1]) ++ [tp l 1] := by simp
  have hn1 : Nn (l ++ [tp l 1]) := h.snoc ht
  have e1 : tp (l ++ [tp l 1]) 1 = tp l 1 := tp1_snoc (Int.le_refl _) h ht
  have e2 : tp ((l ++ [tp l 1]) ++ [tp l 1]) 1 = tp l 1 := (tp1_snoc (by rw [e1]; exact Int.le_refl _) hn1 ht).trans e1
  have h2 := tp2_le _ (hn1.snoc ht)
  have hs := tp1_le_sum h
  unfold Gs
  rw [e, e2]
  rw [e2] at h2
  rw [sum_app, sum_app]
  simp only [List.sum_cons, List.sum_nil]
  have := Int.mul_le_mul_of_nonneg_left h1 ht
  omega
theorem no_snoc {l : List Int} (h : Nn l) {pc m : Int} (hg : ¬ Gs l pc) (h0 : 0 ≤ m) (h1 : m ≤ tp l 1) : ¬ Gs (l ++ [m]) pc := by
  have e1 := tp1_snoc h1 h h0
  have h2 := (tp_snoc h h0 2).2
  unfold Gs at *
  rw [e1, sum_app]
  simp only [List.sum_cons, List.sum_nil]
  omega
theorem tp1_app {l q : List Int} (h : Nn l) (hq : Nn q) : tp l 1 ≤ tp (l ++ q) 1 := tp_app_ge h q hq 1
theorem gs_nil (pc : Int) : ¬ Gs [] pc := by
  unfold Gs
  rw [show tp [] 2 = 0 from tp_all (by simp), show tp [] 1 = 0 from tp_all (by simp)]; simp
theorem gs_perm {a b : List Int} (h : a.Perm b) (pc : Int) : Gs a pc ↔ Gs b pc := by unfold Gs; rw [tp_perm h, tp_perm h, sum_perm h]
theorem guessI_perm {a b : List Int} (h : a.Perm b) (pc : Int) : guessI a pc = guessI b pc := by
  rw [Bool.eq_iff_iff]
  constructor
  · intro hg; obtain ⟨h1, h2⟩ := guessI_inv hg
    rw [guessI_iff h1 h2, gs_perm h] at hg
    rw [pOk_perm h] at h1
    exact (guessI_iff h1 h2).2 hg
  · intro hg; obtain ⟨h1, h2⟩ := guessI_inv hg
    rw [guessI_iff h1 h2, ← gs_perm h] at hg
    rw [← pOk_perm h] at h1
    exact (guessI_iff h1 h2).2 hg
theorem guessI_dbl {l : List Int} {pc : Int} (h : guessI l pc = true) (h2 : pOk (l.map fun x => 2 * x) = true) : guessI (l.map fun x => 2 * x) pc = true := by
  obtain ⟨h1, hp⟩ := guessI_inv h
  rw [guessI_iff h1 hp] at h
  rw [guessI_iff h2 hp]
  unfold Gs at *
  rw [tp_dbl, tp_dbl, sum_dbl, Int.mul_assoc]; omega
theorem leadI_iff {l : List Int} {n pc : Int} (h : pOk l = true) (h1 : in3 n 1 20 = true) (h2 : in3 pc 0 100 = true) : leadI l n pc = true ↔ pc * l.sum < tp l n.toNat * 100 := by
  rw [leadI_ok h h1 h2]; simp only [decide_eq_true_eq]
theorem leadI_next {l : List Int} {n pc : Int} (h : leadI l n pc = true) (hn : n ≠ 20) : leadI l (n + 1) pc = true := by
  obtain ⟨h1, h2, h3⟩ := leadI_inv h
  rw [leadI_iff h1 h2 h3] at h
  have h2' := in3_parts.1 h2
  rw [leadI_iff h1 (in3_parts.2 (by omega)) h3, show (n + 1).toNat = n.toNat + 1 by omega, tp_succ]
  have := nth_nn (pOk_nn h1) n.toNat
  omega
theorem leadI_less {l : List Int} {n pc : Int} (h : leadI l n pc = true) (hp : pc ≠ 0) : leadI l n (pc - 1) = true := by
  obtain ⟨h1, h2, h3⟩ := leadI_inv h
  rw [leadI_iff h1 h2 h3] at h
  have h3' := in3_parts.1 h3
  rw [leadI_iff h1 h2 (in3_parts.2 (by omega)), Int.sub_mul]
  have := nn_sum (pOk_nn h1)
  omega
theorem leadI_dbl {l : List Int} {n pc : Int} (h : leadI l n pc = true) (hd : pOk (l.map fun x => 2 * x) = true) : leadI (l.map fun x => 2 * x) n pc = true := by
  obtain ⟨h1, h2, h3⟩ := leadI_inv h
  rw [leadI_iff h1 h2 h3] at h
  rw [leadI_iff hd h2 h3, tp_dbl, sum_dbl, show pc * (2 * l.sum) = 2 * (pc * l.sum) by rw [← Int.mul_assoc, Int.mul_comm pc 2, Int.mul_assoc]]
  omega
theorem leadI_snoc0 {l : List Int} {n pc : Int} (h : leadI l n pc = true) (hl : l.length ≤ 19) : leadI (l ++ [0]) n pc = true := by
  obtain ⟨h1, h2, h3⟩ := leadI_inv h
  have h0 := pOk_app h1 (q := [0]) (by simp; omega) (by simp)
  rw [leadI_iff h1 h2 h3] at h
  rw [leadI_iff h0 h2 h3, tp_snoc0 (pOk_nn h1), sum_app]; simpa using h
theorem lead_val {l : List Int} {n pc : Int} (h : leadI l n pc = true) : pc * l.sum < 100 * topI l n ∧ 0 < l.sum ∧ 0 < topI l n ∧ topI l n ≤ 2000000 := by
  obtain ⟨h1, h2, h3⟩ := leadI_inv h
  rw [leadI_iff h1 h2 h3] at h
  have h2' := in3_parts.1 h2
  have h3' := in3_parts.1 h3
  have hs := nn_sum (pOk_nn h1)
  have ht := tp_le_sum (pOk_nn h1) n.toNat
  have hb := (topI_bd h1 (show 0 ≤ n by omega)).2
  have hm := Int.mul_nonneg h3'.1 hs
  rw [topI_ok h1 (by omega)] at *
  omega
theorem tp_single (x : Int) {n : Nat} (hn : 1 ≤ n) : tp [x] n = x := by rw [tp_all (by simpa using hn)]; simp
theorem lead_single {x : Int} (h0 : 0 < x) (h1 : x ≤ 100000) {pc : Int} (hp : 0 ≤ pc) (hp2 : pc < 100) : leadI [x] 1 pc = true ∧ leadI [x] 1 100 = false := by
  have hok : pOk [x] = true := pOk_parts.2 ⟨by simp, by simp; omega⟩
  have hi : in3 1 1 20 = true := by decide
  constructor
  · rw [leadI_iff hok hi (in3_parts.2 (by omega))]
    show pc * [x].sum < tp [x] 1 * 100
    rw [tp_single x (Nat.le_refl 1)]
    simp only [List.sum_cons, List.sum_nil, Int.add_zero]
    rw [Int.mul_comm x 100]
    exact Int.mul_lt_mul_of_pos_right hp2 h0
  · rw [leadI_ok hok hi (by decide)]
    show decide (100 * [x].sum < tp [x] 1 * 100) = false
    rw [tp_single x (Nat.le_refl 1)]; simp; omega
theorem guess_two {a b pc : Int} (ha : 1 ≤ a) (ha2 : a ≤ 100000) (hb : 0 ≤ b) (hb2 : b ≤ 100000) (hp : 1 ≤ pc) (hp2 : pc ≤ 100) : guessI [a, b] pc = true ∧ guessI [a] 1 = true := by
  have hok : pOk [a, b] = true := pOk_parts.2 ⟨by simp, by simp; omega⟩
  have hok1 : pOk [a] = true := pOk_parts.2 ⟨by simp, by simp; omega⟩
  constructor
  · rw [guessI_iff hok (in3_parts.2 (by omega))]
    unfold Gs
    rw [tp_all (l := [a, b]) (n := 2) (by simp)]
    have h1 : a ≤ tp [a, b] 1 := by rw [tp_one]; exact nth0_ge (by simp)
    have h2 : 1 * 1 ≤ tp [a, b] 1 * pc := Int.mul_le_mul (by omega) hp (by omega) (by omega)
    omega
  · rw [guessI_iff hok1 (by decide)]
    unfold Gs
    rw [tp_all (l := [a]) (n := 2) (by simp), tp_single a (Nat.le_refl 1)]
    omega
theorem lead_two {a b pc : Int} (ha : 1 ≤ a) (ha2 : a ≤ 100000) (hb : 0 ≤ b) (hb2 : b ≤ 100000) (hp : 0 ≤ pc) (hp2 : pc < 100) : leadI [b, a] 2 pc = true := by
  have hok : pOk [b, a] = true := pOk_parts.2 ⟨by simp, by simp; omega⟩
  rw [leadI_iff hok (by decide) (in3_parts.2 (by omega))]
  show pc * [b, a].sum < tp [b, a] 2 * 100
  rw [tp_all (l := [b, a]) (n := 2) (by simp), Int.mul_comm _ 100]
  exact Int.mul_lt_mul_of_pos_right hp2 (by simp; omega)
theorem zero_ok {q : Nat} (hq : q ≤ 20) : pOk (List.replicate q (0 : Int)) = true := pOk_parts.2 ⟨by simpa using hq, fun x hx => by have := List.eq_of_mem_replicate hx; omega⟩
theorem zero_sum (q : Nat) : (List.replicate q (0 : Int)).sum = 0 := by induction q with
  | zero => rfl
  | succ q ih => rw [List.replicate_succ, List.sum_cons, ih]; rfl
theorem zero_tp {q : Nat} (hq : q ≤ 20) (k : Nat) : tp (List.replicate q (0 : Int)) k = 0 := by
  have h := pOk_nn (zero_ok hq)
  have h1 := tp_nn h k
  have h2 := tp_le_sum h k
  rw [zero_sum] at h2; omega
theorem few_zero (q : Nat) (n : Int) : fewI (List.replicate q (0 : Int)) n = false := by
  rw [fewI_eq, show posN (List.replicate q (0 : Int)) = 0 by unfold posN; rw [List.filter_replicate]; simp]; simp
theorem lead_zero {q : Nat} (n pc : Int) : leadI (List.replicate q (0 : Int)) n pc = false := by
  rw [Bool.eq_false_iff]; intro h
  obtain ⟨h1, h2, h3⟩ := leadI_inv h
  rw [leadI_iff h1 h2 h3, zero_tp (by have := (pOk_parts.1 h1).1; simpa using this), zero_sum] at h
  simp at h
theorem guess_zero {q : Nat} (pc : Int) : guessI (List.replicate q (0 : Int)) pc = false := guessI_not fun h1 _ => by
  have hq : q ≤ 20 := by have := (pOk_parts.1 h1).1; simpa using this
  unfold Gs
  rw [zero_tp hq, zero_tp hq, zero_sum]; simp
theorem spare_zero {q : Nat} (hq : q ≤ 20) {pc : Int} (h0 : 0 ≤ pc) (h1 : pc ≤ 100) : spareI (List.replicate q (0 : Int)) pc = 0 := by
  rw [spareI_ok (zero_ok hq) (in3_parts.2 ⟨h0, h1⟩), zero_tp hq, zero_tp hq, zero_sum]; simp
theorem spareI_perm {a b : List Int} (h : a.Perm b) (pc : Int) : spareI a pc = spareI b pc := by
  unfold spareI; rw [pOk_perm h, lackI_eq, lackI_eq, tp_perm h, tp_perm h, sum_perm h]
theorem spareI_snoc0 {l : List Int} {pc : Int} (h : pOk l = true) (hp : in3 pc 0 100 = true) (hl : l.length ≤ 19) : spareI (l ++ [0]) pc = spareI l pc := by
  have h0 := pOk_app h (q := [0]) (by simp; omega) (by simp)
  rw [spareI_ok h hp, spareI_ok h0 hp, tp_snoc0 (pOk_nn h), tp_snoc0 (pOk_nn h), sum_app]; simp
theorem spare_next {l : List Int} {pc : Int} (h : pOk l = true) (hp : in3 pc 0 100 = true) : (spareI l pc ≤ spareI l (pc + 1)) ∨ (pc = 100 ∧ spareI l (pc + 1) = -1) := by
  obtain ⟨p0, p1⟩ := in3_parts.1 hp
  by_cases h1 : pc = 100
  · right; subst h1
    exact ⟨rfl, spareI_no fun h2 => by have := (in3_parts.1 h2.2).2; omega⟩
  · left
    rw [spareI_ok h hp, spareI_ok h (in3_parts.2 (by omega)), Int.mul_add]
    have := tp_nn (pOk_nn h) 1
    omega
theorem spare_bound {l : List Int} {pc : Int} (h : pOk l = true) (hp : in3 pc 0 100 = true) : 100 * spareI l pc < pc * topI l 1 + 100 ∧ 0 ≤ spareI l pc ∧ spareI l pc ≤ 2000000 ∧ 0 ≤ pc * topI l 1 ∧ pc * topI l 1 ≤ 200000000 := by
  obtain ⟨p0, p1⟩ := in3_parts.1 hp
  rw [spareI_ok h hp, show topI l 1 = tp l 1 from topI_nat h 1, Int.mul_comm pc]
  have h1 := tp_bd h 1
  have h2 := rest_nn (pOk_nn h)
  have h3 := mul_bd h1.1 h1.2 p0 p1
  omega
theorem spare_iff {l : List Int} {pc : Int} (h : pOk l = true) (hp : in3 pc 0 100 = true) : decide (spareI l pc = 0) = !guessI l pc := by
  rw [guessI_ok h hp, spareI_ok h hp, Bool.eq_iff_iff]
  simp only [decide_eq_true_eq, Bool.not_eq_true', decide_eq_false_iff_not]
  omega
theorem second_is {l : List Int} (h : pOk l = true) : topI l 2 - topI l 1 = nth l 1 := by
  have h1 := top_succ h (n := 1) (by omega)
  have e : topI l 2 = topI l 1 + nth l 1 := h1
  omega
theorem snoc_same {l : List Int} (h : pOk l = true) {m : Int} (h0 : 0 ≤ m) (h1 : m ≤ nth l 1) : tp (l ++ [m]) 1 = tp l 1 ∧ tp (l ++ [m]) 2 = tp l 2 := by
  have hn := pOk_nn h
  have a1 := nth_anti hn 0
  simp only [Nat.zero_add] at a1
  have e1 := tp_snoc_max hn h0 0
  have e2 := tp_snoc_max hn h0 1
  have s1 := tp_succ l 0
  have s2 := tp_succ l 1
  have hz := tp_zero l
  simp only [Nat.zero_add, Nat.reduceAdd] at e1 e2 s1 s2
  omega
theorem spare_enough {l : List Int} {pc : Int} (h : pOk l = true) (hp : in3 pc 0 100 = true) (h1 : spareI l pc ≤ nth l 1) (_hl : l.length ≤ 19) : guessI (l ++ [spareI l pc]) pc = false := guessI_not fun _ _ => by
  have hb := spare_bound h hp
  have hs := snoc_same h hb.2.1 h1
  unfold Gs
  rw [hs.1, hs.2, sum_app]
  simp only [List.sum_cons, List.sum_nil]
  rw [spareI_ok h hp]
  omega
theorem spare_less {l : List Int} {pc : Int} (h : pOk l = true) (hp : in3 pc 0 100 = true) (h0 : 1 ≤ spareI l pc) (h1 : spareI l pc ≤ nth l 1) (hl : l.length ≤ 19) : guessI (l ++ [spareI l pc - 1]) pc = true := by
  have hs := snoc_same h (m := spareI l pc - 1) (by omega) (by omega)
  have hnb := nth_bd h 1
  have h0' := pOk_app h (q := [spareI l pc - 1]) (by simp; omega) (by simp; omega)
  rw [guessI_iff h0' hp]
  unfold Gs
  rw [hs.1, hs.2, sum_app]
  simp only [List.sum_cons, List.sum_nil]
  rw [spareI_ok h hp] at *
  omega
theorem half_ok {t : Int} (h0 : 0 ≤ t) (h1 : t ≤ 100000) : 0 ≤ t / 2 ∧ t / 2 ≤ 100000 ∧ 0 ≤ t / 2 / 2 ∧ t / 2 / 2 ≤ t / 2 ∧ t / 2 ≤ t := by omega
theorem top1_bd {l : List Int} (h : pOk l = true) : 0 ≤ topI l 1 ∧ topI l 1 ≤ 100000 := by
  rw [show topI l 1 = tp l 1 from topI_nat h 1, tp_one]; exact nth_bd h 0
theorem guess_len {l : List Int} {pc : Int} (h : guessI l pc = true) : 0 < l.length := by
  obtain ⟨h1, h2⟩ := guessI_inv h
  cases l with
  | nil => exact absurd ((guessI_iff h1 h2).1 h) (gs_nil pc)
  | cons a l => simp
theorem guess_more {l : List Int} {pc : Int} (h : guessI l pc = true) (hp : pc ≠ 100) : guessI l (pc + 1) = true := by
  obtain ⟨h1, h2⟩ := guessI_inv h
  have := in3_parts.1 h2
  exact (guessI_iff h1 (in3_parts.2 (by omega))).2 (gs_more (pOk_nn h1) ((guessI_iff h1 h2).1 h))
theorem guess_no_two {l : List Int} {pc : Int} (h : pOk l = true) (hp : in3 pc 0 100 = true) : guessI (l ++ [topI l 1, topI l 1]) pc = false := guessI_not fun _ _ => by
  rw [show topI l 1 = tp l 1 from topI_nat h 1]; exact no_two (pOk_nn h) (in3_parts.1 hp).2
theorem guess_merge {l : List Int} {pc s m : Int} (h : pOk l = true) (hp : in3 pc 0 100 = true) (hs : s = topI l 1 / 2) (hl : l.length ≤ 16) (hg : guessI (l ++ [s, s, s]) pc = false) (h0 : 0 ≤ m) (h1 : m ≤ s) : guessI (l ++ [s, s, s] ++ [m]) pc = false := guessI_not fun _ _ => by
  have hb := top1_bd h
  have hs1 := half_ok hb.1 hb.2
  rw [← hs] at hs1
  have hx := pOk_app h (q := [s, s, s]) (by simp; omega) (by simp; omega)
  have hn : Nn [s, s, s] := by intro x hx; simp at hx; omega
  have h2 := tp1_app (pOk_nn h) hn
  rw [show topI l 1 = tp l 1 from topI_nat h 1] at hs1
  refine no_snoc (pOk_nn hx) (fun h3 => ?_) h0 (by omega)
  rw [(guessI_iff hx hp).2 h3] at hg; cases hg
theorem sort_over {l : List Int} (h : pOk l = true) {n : Int} (hn : 0 ≤ n) : (l.filter fun x => decide (nth l n.toNat < x)).sum ≤ topI l n ∧ ((l.filter fun x => decide (nth l n.toNat < x)).length : Int) ≤ n := by
  have := filt_over (pOk_nn h) n.toNat
  rw [topI_ok h hn]
  exact ⟨this.1, by omega⟩
end Go.Proofs.Ytfaffpfjgipifaa
