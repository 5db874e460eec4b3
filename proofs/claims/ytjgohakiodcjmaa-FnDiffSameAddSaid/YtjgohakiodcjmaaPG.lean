/- Tables of some of the people. Mathematics alone. -/
import Derived.Test.YtjgohakiodcjmaaDF
import Derived.Test.YtjgohakiodcjmaaPF
import Derived.Test.YtjgohakiodcjmaaIP2
import Derived.Test.YtjgohakiodcjmaaS5
namespace Go.Proofs.Ytjgohakiodcjmaa
theorem cel_perm {l m : List Pn} (h : l.Perm m) (i j : Int) : cel l i j = cel m i j := by
  unfold cel
  rw [(h.filter _).length_eq]
theorem tabOf_perm {l m : List Pn} (h : l.Perm m) : tabOf l = tabOf m := by
  unfold tabOf
  exact List.map_congr_left fun i _ => List.map_congr_left fun j _ => cel_perm h _ _
theorem okL_perm {l m : List Pn} (h : l.Perm m) : okL l = okL m := by
  have h1 : l.all okP = m.all okP := by
    rw [Bool.eq_iff_iff, List.all_eq_true, List.all_eq_true]
    exact ⟨fun g x hx => g x (h.mem_iff.2 hx), fun g x hx => g x (h.mem_iff.1 hx)⟩
  unfold okL
  rw [h.length_eq, h1]
theorem okL_tab {l : List Pn} (h : okL l = true) : Tab (tabOf l) := tabOf_tab (by have := (okL_all h).1; omega)
theorem cT_tabOf (l : List Pn) {i j : Nat} (hi : i < 4) (hj : j < 4) : cT (tabOf l) i j = cel l i j := tabOf_cell l hi hj
theorem cel_sub {a b : List Pn} (h : ∀ q, b.count q ≤ a.count q) (i j : Int) : cel b i j ≤ cel a i j := by
  unfold cel
  have := sub_filter h fun p => decide (p.area = i) && decide (p.job = j)
  omega
theorem dok_tabs {a b : List Pn} (ha : okL a = true) (hb : okL b = true) (h : ∀ q, b.count q ≤ a.count q) : DOk (tabOf a) (tabOf b) :=
  dok_of (okL_tab ha) (okL_tab hb) (by rw [tabOf_len, tabOf_len]) (by rw [tabOf_wd, tabOf_wd]) fun i j hi hj => by
    rw [tabOf_len] at hi
    rw [tabOf_wd] at hj
    rw [cT_tabOf b hi hj, cT_tabOf a hi hj]
    exact cel_sub h _ _
theorem dppl_parts {a b : List Pn} (h : dppl a b = true) : okL a = true ∧ okL b = true ∧ ∀ q, b.count q ≤ a.count q := by
  simp only [dppl, Bool.and_eq_true, decide_eq_true_eq] at h
  exact ⟨h.1.1, h.1.2, smN_full h.2⟩
theorem dppl_of {a b : List Pn} (ha : okL a = true) (hb : okL b = true) (h : ∀ q, b.count q ≤ a.count q) : dppl a b = true := by
  simp only [dppl, Bool.and_eq_true, decide_eq_true_eq]
  exact ⟨⟨ha, hb⟩, smN_sub h⟩
/-- P161. -/
theorem tot_tabs {a b : List Pn} (h : dppl a b = true) : ttot (diffT (tabOf a) (tabOf b)) = (a.length : Int) - b.length := by
  obtain ⟨ha, hb, hc⟩ := dppl_parts h
  have hd := dok_tabs ha hb hc
  rw [ttot, if_pos (tab_iff.2 hd.d), diff_tsum hd, tabOf_tsum ha, tabOf_tsum hb]
/-- P162. -/
theorem less1_sub (l : List Pn) (k : Nat) : ∀ q, (less1 l k).count q ≤ l.count q := fun q => by
  have h : l.count q = (l.take k).count q + (l.drop k).count q := by rw [← List.count_append, List.take_append_drop]
  rw [less1, List.count_append, h]
  have := (List.drop_sublist_drop_left l (show k ≤ k + 1 by omega)).count_le q
  omega
theorem cel_app (x y : List Pn) (i j : Int) : cel (x ++ y) i j = cel x i j + cel y i j := by
  unfold cel
  rw [List.filter_append, List.length_append]; omega
theorem cel_one (p : Pn) (i j : Int) : 0 ≤ cel [p] i j ∧ cel [p] i j ≤ 1 := by
  have := cel_bd [p] i j
  simpa using this
theorem less1_cel {l : List Pn} {k : Nat} (hk : k < l.length) (i j : Int) : cel l i j = cel (less1 l k) i j + cel [l[k]] i j := by
  have h : l = l.take k ++ ([l[k]] ++ l.drop (k + 1)) := by rw [List.singleton_append, ← List.drop_eq_getElem_cons hk, List.take_append_drop]
  have h2 : cel l i j = cel (l.take k ++ ([l[k]] ++ l.drop (k + 1))) i j := congrArg (fun m => cel m i j) h
  rw [cel_app, cel_app] at h2
  rw [less1, cel_app]
  omega
theorem one_risk {l : List Pn} {k : Nat} (hk : k < l.length) (h : okL l = true) : riskI (tabOf l) (tabOf (less1 l k)) 2 = 1 := by
  have h2 := less1_ok hk h
  have hd := dok_tabs h h2 (less1_sub l k)
  rw [riskI_yes (dok_iff.2 hd), mm_ind, indT_tab hd.d]
  have e : (mat (diffT (tabOf l) (tabOf (less1 l k))).length (wd (diffT (tabOf l) (tabOf (less1 l k)))) fun a b => ind 2 (cT (diffT (tabOf l) (tabOf (less1 l k))) a b)) = diffT (tabOf l) (tabOf (less1 l k)) := by
    refine Eq.trans (mat_ext fun a b ha hb => ?_) (tab_as hd.d).symm
    rw [diff_len, tabOf_len] at ha
    rw [diff_wd hd.ht, tabOf_wd] at hb
    rw [diff_cell _ _ (by rw [tabOf_len]; exact ha) (by rw [tabOf_wd]; exact hb), cT_tabOf _ ha hb, cT_tabOf _ ha hb, less1_cel hk]
    have := cel_one l[k] a b
    unfold ind
    split <;> omega
  rw [e, diff_tsum hd, tabOf_tsum h, tabOf_tsum h2, less1_len hk]
  omega
theorem less1_dppl {l : List Pn} {k : Nat} (hk : k < l.length) (h : okL l = true) : dppl l (less1 l k) = true := dppl_of h (less1_ok hk h) (less1_sub l k)
/-- P163. -/
theorem rot_perm {α : Type} (l : List α) (k : Nat) : (l.drop k ++ l.take k).Perm l := by
  have h := List.perm_append_comm (l₁ := l.drop k) (l₂ := l.take k)
  rwa [List.take_append_drop] at h
theorem dppl_perm {a b a' b' : List Pn} (ha : a'.Perm a) (hb : b'.Perm b) : dppl a' b' = dppl a b := by
  unfold dppl
  rw [okL_perm ha, okL_perm hb, smN_perm ha hb, hb.length_eq]
theorem dsame_perm {a b a' b' : List Pn} (ha : a'.Perm a) (hb : b'.Perm b) : dsame a' b' = dsame a b := by
  unfold dsame
  rw [okL_perm ha, okL_perm hb, smN_perm ha hb]
theorem dsame_full {a b : List Pn} (h : dppl a b = true) : dsame a b = b.length := by
  simp only [dppl, Bool.and_eq_true, decide_eq_true_eq] at h
  unfold dsame
  rw [if_pos (by rw [h.1.1, h.1.2]; rfl), h.2]
/-- P164. -/
theorem dsame_ok {a b : List Pn} (h : ¬ dsame a b < 0) : okL a = true ∧ okL b = true ∧ dsame a b = (smN a b : Nat) := by
  unfold dsame at *
  cases e : (okL a && okL b)
  · rw [e] at h; simp at h
  · rw [Bool.and_eq_true] at e
    exact ⟨e.1, e.2, by simp⟩
theorem dsame_comm (a b : List Pn) : dsame b a = dsame a b := by
  unfold dsame
  rw [smN_comm b a, Bool.and_comm]
theorem dsame_self {a : List Pn} (h : okL a = true) : dsame a a = a.length := by
  unfold dsame
  rw [if_pos (by rw [h]; rfl), smN_self]
theorem dppl_as {a b : List Pn} (ha : okL a = true) (hb : okL b = true) : dppl a b = decide (smN a b = b.length) := by unfold dppl; rw [ha, hb]; rfl
/-- P165. -/
theorem okL_take {l : List Pn} (h : okL l = true) (k : Nat) : okL (l.take k) = true ∧ okL (l.drop k) = true := by
  obtain ⟨h1, h2⟩ := okL_all h
  rw [List.all_eq_true] at h2
  simp only [okL, Bool.and_eq_true, decide_eq_true_eq, List.all_eq_true, List.length_take, List.length_drop]
  exact ⟨⟨by omega, fun p hp => h2 p (List.mem_of_mem_take hp)⟩, by omega, fun p hp => h2 p (List.mem_of_mem_drop hp)⟩
theorem take_sub (l : List Pn) (k : Nat) : ∀ q, (l.take k).count q ≤ l.count q := fun q => (List.take_sublist k l).count_le q
theorem diff_parts {l : List Pn} (h : okL l = true) (k : Nat) : DOk (tabOf l) (tabOf (l.take k)) ∧ diffT (tabOf l) (tabOf (l.take k)) = tabOf (l.drop k) := by
  have hd := dok_tabs h (okL_take h k).1 (take_sub l k)
  refine ⟨hd, tb_ext (d := 4) (by rw [diff_len, tabOf_len, tabOf_len]) (fun i hi => ?_) (fun i hi => ?_) fun i j hi hj => ?_⟩
  · rw [diff_len] at hi
    rw [diff_rlen _ _ hi, tabOf_wd]
  · rw [tab_len (okL_tab (okL_take h k).2) hi, tabOf_wd]
  · rw [diff_len, tabOf_len] at hi
    rw [diff_cell _ _ (by rw [tabOf_len]; exact hi) (by rw [tabOf_wd]; exact hj), cT_tabOf _ hi hj, cT_tabOf _ hi hj, cT_tabOf _ hi hj]
    have := cel_app (l.take k) (l.drop k) i j
    rw [List.take_append_drop] at this
    omega
/-- P169. -/
theorem okL_snoc {l : List Pn} {p : Pn} (h : okL l = true) (h4 : l.length < 40) (hp : okP p = true) : okL (l ++ [p]) = true := by
  obtain ⟨h1, h2⟩ := okL_all h
  simp only [okL, Bool.and_eq_true, decide_eq_true_eq, List.length_append, List.length_singleton, List.all_append, h2, Bool.true_and]
  exact ⟨by omega, by simp [hp]⟩
theorem dsame_add {a b : List Pn} {p : Pn} (ha : okL a = true) (hb : okL b = true) (ha4 : a.length < 40) (hb4 : b.length < 40) (hp : okP p = true) : dsame (a ++ [p]) (b ++ [p]) = (smN a b : Nat) + 1 := by
  unfold dsame
  rw [if_pos (by rw [okL_snoc ha ha4 hp, okL_snoc hb hb4 hp]; rfl), smN_snoc]
  omega
/-- P171. -/
theorem dppl_take {l : List Pn} (h : okL l = true) (k : Nat) : dppl l (l.take k) = true := dppl_of h (okL_take h k).1 (take_sub l k)
theorem dppl_takeL {l : List Pn} (h : okL l = true) {k : Nat} (hk : k ≤ l.length) : dppl (l.take k) l = decide (k = l.length) := by
  rw [dppl_as (okL_take h k).1 h, smN_takeL, List.length_take, Nat.min_eq_left hk]
end Go.Proofs.Ytjgohakiodcjmaa
