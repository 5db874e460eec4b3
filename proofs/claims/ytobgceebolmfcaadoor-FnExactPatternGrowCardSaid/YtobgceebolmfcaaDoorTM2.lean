/- Tables of people, masks, and what the laws of chapter 11 ask. -/
import Derived.Test.YtobgceebolmfcaaDoorTM
namespace Go.Proofs.YtobgceebolmfcaaDoor
open Go.RowKit
/-- How many people are in a cell. -/
def cel (l : List Pn) (i j : Int) : Int := ((l.filter fun p => decide (p.area = i) && decide (p.job = j)).length : Nat)
def ari (l : List Pn) (i : Int) : Int := ((l.filter fun p => decide (p.area = i)).length : Nat)
def joi (l : List Pn) (j : Int) : Int := ((l.filter fun p => decide (p.job = j)).length : Nat)
def tabOf (l : List Pn) : Tb := (List.range 4).map fun (i : Nat) => (List.range 4).map fun (j : Nat) => cel l (i : Int) (j : Int)
def tabI (l : List Pn) : Tb := if okL l = true then tabOf l else []
theorem tabOf_len (l : List Pn) : (tabOf l).length = 4 := by simp [tabOf]
theorem tabOf_row (l : List Pn) {i : Nat} (hi : i < 4) : (tabOf l).getD i [] = (List.range 4).map fun (j : Nat) => cel l (i : Int) (j : Int) := by
  rw [getD_of _ _ (by rw [tabOf_len]; exact hi)]; simp [tabOf]
theorem tabOf_cell (l : List Pn) {i j : Nat} (hi : i < 4) (hj : j < 4) : ((tabOf l).getD i []).getD j 0 = cel l i j := by
  rw [tabOf_row l hi, getD_of _ _ (by simpa using hj)]; simp
theorem tabOf_rect (l : List Pn) : ∀ r ∈ tabOf l, r.length = 4 := fun r hr => by
  obtain ⟨i, _, rfl⟩ := List.mem_map.1 hr; simp
theorem tabOf_wd (l : List Pn) : wd (tabOf l) = 4 := wd_of (by rw [tabOf_len]; omega) (tabOf_rect l)
theorem cel_bd (l : List Pn) (i j : Int) : 0 ≤ cel l i j ∧ cel l i j ≤ l.length := by
  have := List.length_filter_le (fun p : Pn => decide (p.area = i) && decide (p.job = j)) l
  unfold cel; omega
theorem tabOf_tab {l : List Pn} (h : l.length ≤ 99) : Tab (tabOf l) := by
  refine ⟨by rw [tabOf_len]; omega, by rw [tabOf_len]; omega, by rw [tabOf_wd]; omega, by rw [tabOf_wd]; omega, fun r hr => by rw [tabOf_wd]; exact tabOf_rect l r hr, fun r hr x hx => ?_⟩
  obtain ⟨i, _, rfl⟩ := List.mem_map.1 hr
  obtain ⟨j, _, rfl⟩ := List.mem_map.1 hx
  have := cel_bd l i j; omega
theorem cel_snoc (l : List Pn) (p : Pn) (i j : Int) : cel (l ++ [p]) i j = cel l i j + if p.area = i ∧ p.job = j then 1 else 0 := by
  unfold cel
  rw [List.filter_append, List.length_append, List.filter_cons]
  by_cases h : p.area = i ∧ p.job = j
  · simp [h]
  · rw [if_neg h, if_neg (by simpa using h)]; simp
/-- One person more: one cell has one more. -/
theorem tabOf_snoc (l : List Pn) (p : Pn) {a b : Nat} (_ha : a < 4) (hb : b < 4) (h1 : p.area = a) (h2 : p.job = b) :
    tabOf (l ++ [p]) = (tabOf l).set a (((tabOf l).getD a []).set b (((tabOf l).getD a []).getD b 0 + 1)) := by
  refine List.ext_getElem (by rw [List.length_set, tabOf_len, tabOf_len]) fun i hi _ => ?_
  rw [tabOf_len] at hi
  rw [← getD_of (tabOf (l ++ [p])) [] (by rw [tabOf_len]; exact hi), tabOf_row _ hi, List.getElem_set]
  by_cases e : a = i
  · subst e
    rw [if_pos rfl]
    refine List.ext_getElem (by rw [List.length_set, tabOf_row _ hi]; simp) fun j hj _ => ?_
    have hj4 : j < 4 := by simpa using hj
    rw [List.getElem_set]
    by_cases e2 : b = j
    · subst e2
      rw [if_pos rfl, tabOf_cell l hi hb]
      simp only [List.getElem_map, List.getElem_range]
      rw [cel_snoc, if_pos ⟨h1, h2⟩]
    · rw [if_neg e2]
      simp only [tabOf_row l hi, List.getElem_map, List.getElem_range]
      rw [cel_snoc, if_neg (by omega)]; simp
  · rw [if_neg e, ← getD_of (tabOf l) [] (by rw [tabOf_len]; exact hi), tabOf_row l hi]
    refine List.map_congr_left fun j _ => ?_
    rw [cel_snoc, if_neg (by omega)]; simp
theorem sum_one4 (f : Nat → Int) : ((List.range 4).map f).sum = f 0 + f 1 + f 2 + f 3 := by
  simp [List.range_succ]; omega
theorem row_sum {l : List Pn} (h : ∀ p ∈ l, 0 ≤ p.job ∧ p.job ≤ 3) (i : Int) : ((List.range 4).map fun (j : Nat) => cel l i (j : Int)).sum = ari l i := by
  rw [sum_one4]
  induction l with
  | nil => rfl
  | cons p l ih =>
    have hi := ih fun q hq => h q (List.mem_cons_of_mem _ hq)
    have hp := h p (by simp)
    have e : ∀ j : Int, cel (p :: l) i j = cel l i j + if p.area = i ∧ p.job = j then 1 else 0 := fun j => by
      unfold cel; rw [List.filter_cons]
      by_cases h : p.area = i ∧ p.job = j
      · simp [h]
      · rw [if_neg h, if_neg (by simpa using h)]; simp
    have e2 : ari (p :: l) i = ari l i + if p.area = i then 1 else 0 := by
      unfold ari; rw [List.filter_cons]
      by_cases h : p.area = i <;> simp [h]
    rw [e2, ← hi, e, e, e, e]
    by_cases ha : p.area = i
    · simp only [ha, true_and, if_true]
      rcases (show p.job = 0 ∨ p.job = 1 ∨ p.job = 2 ∨ p.job = 3 by omega) with h | h | h | h <;> simp [h] <;> omega
    · simp [ha]
theorem col_sum {l : List Pn} (h : ∀ p ∈ l, 0 ≤ p.area ∧ p.area ≤ 3) (j : Int) : ((List.range 4).map fun (i : Nat) => cel l (i : Int) j).sum = joi l j := by
  rw [sum_one4]
  induction l with
  | nil => rfl
  | cons p l ih =>
    have hi := ih fun q hq => h q (List.mem_cons_of_mem _ hq)
    have hp := h p (by simp)
    have e : ∀ i : Int, cel (p :: l) i j = cel l i j + if p.area = i ∧ p.job = j then 1 else 0 := fun i => by
      unfold cel; rw [List.filter_cons]
      by_cases h : p.area = i ∧ p.job = j
      · simp [h]
      · rw [if_neg h, if_neg (by simpa using h)]; simp
    have e2 : joi (p :: l) j = joi l j + if p.job = j then 1 else 0 := by
      unfold joi; rw [List.filter_cons]
      by_cases h : p.job = j <;> simp [h]
    rw [e2, ← hi, e, e, e, e]
    by_cases ha : p.job = j
    · simp only [ha, and_true, if_true]
      rcases (show p.area = 0 ∨ p.area = 1 ∨ p.area = 2 ∨ p.area = 3 by omega) with h | h | h | h <;> simp [h] <;> omega
    · simp [ha]
theorem ari_sum {l : List Pn} (h : ∀ p ∈ l, 0 ≤ p.area ∧ p.area ≤ 3) : ((List.range 4).map fun (i : Nat) => ari l (i : Int)).sum = l.length := by
  rw [sum_one4]
  induction l with
  | nil => rfl
  | cons p l ih =>
    have hi := ih fun q hq => h q (List.mem_cons_of_mem _ hq)
    have hp := h p (by simp)
    have e2 : ∀ i : Int, ari (p :: l) i = ari l i + if p.area = i then 1 else 0 := fun i => by
      unfold ari; rw [List.filter_cons]
      by_cases h : p.area = i <;> simp [h]
    rw [e2, e2, e2, e2, List.length_cons, Int.natCast_add, ← hi]
    rcases (show p.area = 0 ∨ p.area = 1 ∨ p.area = 2 ∨ p.area = 3 by omega) with h | h | h | h <;> simp [h] <;> omega
theorem ok_codes {l : List Pn} (h : okL l = true) : (∀ p ∈ l, 0 ≤ p.area ∧ p.area ≤ 3) ∧ (∀ p ∈ l, 0 ≤ p.job ∧ p.job ≤ 3) ∧ l.length ≤ 40 := by
  simp only [okL, Bool.and_eq_true, decide_eq_true_eq, List.all_eq_true] at h
  refine ⟨fun p hp => ?_, fun p hp => ?_, h.1⟩ <;>
    have := h.2 p hp <;> simp only [okP, inC, Bool.and_eq_true, decide_eq_true_eq] at this <;> omega
theorem tabOf_rsum {l : List Pn} (h : okL l = true) : rsum (tabOf l) = (List.range 4).map fun (i : Nat) => ari l (i : Int) := by
  simp only [rsum, tabOf, List.map_map]
  exact List.map_congr_left fun i _ => row_sum (ok_codes h).2.1 (i : Int)
theorem tabOf_csum {l : List Pn} (h : okL l = true) : csum (tabOf l) = (List.range 4).map fun (j : Nat) => joi l (j : Int) := by
  unfold csum
  rw [tabOf_wd]
  refine List.map_congr_left fun j hj => ?_
  have hj4 : j < 4 := by simpa using hj
  rw [← col_sum (ok_codes h).1 (j : Int)]
  congr 1
  simp only [col, tabOf, List.map_map]
  refine List.map_congr_left fun i _ => ?_
  simp only [Function.comp]
  rw [getD_of _ _ (by simpa using hj4)]; simp
theorem tabOf_tsum {l : List Pn} (h : okL l = true) : tsum (tabOf l) = l.length := by
  rw [tsum, tabOf_rsum h, ari_sum (ok_codes h).1]
/-- The area 1 becomes the area 0. -/
def mrg (l : List Pn) : List Pn := l.map fun p => if p.area = 1 then ⟨0, p.job, p.sex, p.pay⟩ else p
theorem mrg_len (l : List Pn) : (mrg l).length = l.length := List.length_map ..
theorem mrg_ok {l : List Pn} (h : okL l = true) : okL (mrg l) = true := by
  simp only [okL, Bool.and_eq_true, decide_eq_true_eq, List.all_eq_true] at h ⊢
  refine ⟨by rw [mrg_len]; exact h.1, fun p hp => ?_⟩
  obtain ⟨q, hq, rfl⟩ := List.mem_map.1 hp
  have := h.2 q hq
  simp only [okP, inC, Bool.and_eq_true, decide_eq_true_eq] at this ⊢
  split <;> (try simp only) <;> omega
theorem cel_mrg (l : List Pn) (i j : Int) : cel (mrg l) i j = if i = 0 then cel l 0 j + cel l 1 j else if i = 1 then 0 else cel l i j := by
  induction l with
  | nil => simp [cel, mrg]
  | cons p l ih =>
    have e : ∀ (q : Pn) (x : List Pn) (i : Int), cel (q :: x) i j = cel x i j + if q.area = i ∧ q.job = j then 1 else 0 := fun q x i => by
      unfold cel; rw [List.filter_cons]
      by_cases h : q.area = i ∧ q.job = j
      · simp [h]
      · rw [if_neg h, if_neg (by simpa using h)]; simp
    have e0 : mrg (p :: l) = (if p.area = 1 then ⟨0, p.job, p.sex, p.pay⟩ else p) :: mrg l := rfl
    rw [e0, e, ih, e, e, e]
    by_cases h1 : p.area = 1
    · rw [if_pos h1]
      by_cases hj : p.job = j
      · by_cases hi0 : i = 0
        · subst hi0; simp [h1, hj]; omega
        · by_cases hi1 : i = 1
          · subst hi1; simp
          · have a1 : ¬ (0 : Int) = i := fun h => hi0 h.symm
            have a2 : ¬ p.area = i := fun h => hi1 (by omega)
            simp [hi0, hi1, a1, a2]
      · simp [hj]
    · rw [if_neg h1]
      by_cases hj : p.job = j
      · by_cases hi0 : i = 0
        · subst hi0; simp [h1, hj]; omega
        · by_cases hi1 : i = 1
          · subst hi1; simp [h1]
          · simp [hi0, hi1]
      · simp [hj]
theorem four (l : List Pn) : tabOf l = [(tabOf l).getD 0 [], (tabOf l).getD 1 [], (tabOf l).getD 2 [], (tabOf l).getD 3 []] := rfl
/-- P88. -/
theorem m_merge {l : List Pn} (h : okL l = true) : foldOk (tabOf l) 0 1 = true ∧ foldT (tabOf l) 0 1 = (tabOf (mrg l)).getD 0 [] :: (tabOf (mrg l)).drop 2 ∧ ((tabOf (mrg l)).getD 1 []).sum = 0 := by
  obtain ⟨ha, hj, hl⟩ := ok_codes h
  have ht : Tab (tabOf l) := tabOf_tab (by omega)
  have e : foldT (tabOf l) 0 1 = (tabOf (mrg l)).getD 0 [] :: (tabOf (mrg l)).drop 2 := by
    have e1 : foldT (tabOf l) 0 1 = [addRow ((tabOf l).getD 0 []) ((tabOf l).getD 1 []), (tabOf l).getD 2 [], (tabOf l).getD 3 []] := rfl
    have e2 : (tabOf (mrg l)).getD 0 [] :: (tabOf (mrg l)).drop 2 = [(tabOf (mrg l)).getD 0 [], (tabOf (mrg l)).getD 2 [], (tabOf (mrg l)).getD 3 []] := rfl
    rw [e1, e2]
    congr 1
    · rw [tabOf_row _ (by omega), tabOf_row _ (by omega), tabOf_row _ (by omega)]
      unfold addRow
      rw [List.zipWith_map, List.zipWith_self]
      exact List.map_congr_left fun j _ => by rw [cel_mrg]; simp
    · congr 1
      · rw [tabOf_row _ (by omega), tabOf_row _ (by omega)]
        exact List.map_congr_left fun j _ => by rw [cel_mrg]; simp
      · congr 1
        rw [tabOf_row _ (by omega), tabOf_row _ (by omega)]
        exact List.map_congr_left fun j _ => by rw [cel_mrg]; simp
  have hm := tabOf_tab (l := mrg l) (by rw [mrg_len]; omega)
  have hmem : ∀ r ∈ foldT (tabOf l) 0 1, r ∈ tabOf (mrg l) := fun r hr => by
    rw [e] at hr
    rcases List.mem_cons.1 hr with rfl | hr
    · rw [getD_of _ _ (by rw [tabOf_len]; omega)]; exact List.getElem_mem _
    · exact List.mem_of_mem_drop hr
  have hfl : (foldT (tabOf l) 0 1).length = 3 := by rw [fold_len _ (by rw [tabOf_len]; omega), tabOf_len]
  have hw : wd (foldT (tabOf l) 0 1) = 4 := wd_of (by omega) fun r hr => tabOf_rect _ r (hmem r hr)
  refine ⟨?_, e, ?_⟩
  · have hf : tabOk (foldT (tabOf l) 0 1) = true := tab_iff.2 ⟨by omega, by omega, by omega, by omega, fun r hr => by rw [hw]; exact tabOf_rect _ r (hmem r hr), fun r hr x hx => hm.bd r (hmem r hr) x hx⟩
    have hl4 := tabOf_len l
    simp only [foldOk, tab_iff.2 ht, in3, Bool.true_and, Bool.and_eq_true, decide_eq_true_eq]
    exact ⟨by omega, hf⟩
  · rw [tabOf_row _ (by omega), sum_one4]
    simp [cel_mrg]
abbrev Mk := List (List Bool)
def mkOk (t : Tb) (m : Mk) : Bool := tabOk t && decide (m.length = t.length) && m.all fun r => decide (r.length = wd t)
def cntB (r : List Bool) : Nat := (r.filter id).length
def mmany (m : Mk) : Nat := (m.map cntB).sum
def small (k : Int) (r : List Int) : List Bool := r.map fun x => decide (0 < x) && decide (x < k)
def msmall (t : Tb) (k : Int) : Mk := t.map (small k)
def msmallI (t : Tb) (k : Int) : Mk := if tabOk t = true then msmall t k else []
theorem mk_parts {t : Tb} {m : Mk} : mkOk t m = true ↔ Tab t ∧ m.length = t.length ∧ ∀ r ∈ m, r.length = wd t := by
  simp only [mkOk, Bool.and_eq_true, decide_eq_true_eq, List.all_eq_true, tab_iff, and_assoc]
theorem cntB_le (r : List Bool) : cntB r ≤ r.length := List.length_filter_le _ _
theorem mmany_app (m n : Mk) : mmany (m ++ n) = mmany m + mmany n := by simp [mmany]
theorem mmany_le {m : Mk} {w : Nat} (h : ∀ r ∈ m, r.length = w) : mmany m ≤ m.length * w := by
  induction m with
  | nil => simp [mmany]
  | cons r m ih =>
    have h1 := ih fun s hs => h s (List.mem_cons_of_mem _ hs)
    have h2 := cntB_le r
    rw [h r (by simp)] at h2
    have e : mmany (r :: m) = cntB r + mmany m := by simp [mmany]
    rw [e, List.length_cons, Nat.add_mul]; omega
/-- P89. -/
theorem m_mask {t : Tb} {m : Mk} (h : mkOk t m = true) : (mmany m : Int) ≤ (t.length : Int) * (wd t : Int) ∧ mkOk t m.tail = false ∧ (∀ r, mkOk t (m ++ [r]) = false) := by
  obtain ⟨h1, h2, h3⟩ := mk_parts.1 h
  refine ⟨?_, ?_, fun r => ?_⟩
  · have := mmany_le h3
    rw [h2] at this
    have e : (t.length : Int) * (wd t : Int) = ((t.length * wd t : Nat) : Int) := by simp
    rw [e]; omega
  · cases hm : mkOk t m.tail
    · rfl
    · have := (mk_parts.1 hm).2.1
      have := h1.h1
      rw [List.length_tail] at *; omega
  · cases hm : mkOk t (m ++ [r])
    · rfl
    · have := (mk_parts.1 hm).2.1
      rw [List.length_append] at this; simp at this; omega
/-- P90. -/
theorem m_maskMany (m : Mk) (k : Nat) : mmany m = mmany (m.take k) + mmany (m.drop k) := by rw [← mmany_app, List.take_append_drop]
theorem msmall_ok {t : Tb} (h : tabOk t = true) (k : Int) : mkOk t (msmall t k) = true := by
  refine mk_parts.2 ⟨tab_iff.1 h, List.length_map .., fun r hr => ?_⟩
  obtain ⟨s, hs, rfl⟩ := List.mem_map.1 hr
  rw [small, List.length_map]; exact (tab_iff.1 h).len s hs
theorem cntB_mono {α : Type} (f g : α → Bool) : ∀ L : List α, (∀ x ∈ L, f x = true → g x = true) → cntB (L.map f) ≤ cntB (L.map g)
  | [], _ => Nat.le_refl _
  | x :: L, h => by
    have h1 := cntB_mono f g L fun y hy => h y (List.mem_cons_of_mem _ hy)
    have h2 := h x (by simp)
    simp only [cntB, List.map_cons, List.filter_cons, id] at h1 ⊢
    cases hf : f x <;> cases hg : g x <;> simp_all <;> omega
theorem msmall_mono (t : Tb) {k q : Int} (h : k ≤ q) : mmany (msmall t k) ≤ mmany (msmall t q) := by
  induction t with
  | nil => exact Nat.le_refl _
  | cons r t ih =>
    have h1 := cntB_mono (fun x : Int => decide (0 < x) && decide (x < k)) (fun x : Int => decide (0 < x) && decide (x < q)) r fun x _ hx => by
      simp only [Bool.and_eq_true, decide_eq_true_eq] at hx ⊢; omega
    have e : ∀ k, mmany (msmall (r :: t) k) = cntB (small k r) + mmany (msmall t k) := fun k => by simp [mmany, msmall]
    rw [e, e]; unfold small; omega
theorem msmall_one (t : Tb) : mmany (msmall t 1) = 0 := by
  have z : ∀ r : List Int, cntB (small 1 r) = 0 := fun r => by
    unfold cntB small
    rw [List.length_eq_zero_iff, List.filter_eq_nil_iff]
    intro b hb
    obtain ⟨x, _, rfl⟩ := List.mem_map.1 hb
    simp; omega
  induction t with
  | nil => rfl
  | cons r t ih =>
    have e : mmany (msmall (r :: t) 1) = cntB (small 1 r) + mmany (msmall t 1) := by simp [mmany, msmall]
    rw [e, ih, z]
/-- How many cells are not 0. -/
def nz (t : Tb) : Int := (t.map fun r => (r.map fun x => if 1 ≤ x then (1 : Int) else x).sum).sum
theorem nz_row : ∀ r : List Int, (∀ x ∈ r, 0 ≤ x ∧ x ≤ 99) → (cntB (small 100 r) : Int) = (r.map fun x => if 1 ≤ x then (1 : Int) else x).sum
  | [], _ => rfl
  | x :: r, h => by
    have h1 := nz_row r fun y hy => h y (List.mem_cons_of_mem _ hy)
    have h2 := h x (by simp)
    have e : cntB (small 100 (x :: r)) = (if 1 ≤ x then 1 else 0) + cntB (small 100 r) := by
      simp only [cntB, small, List.map_cons, List.filter_cons, id]
      by_cases hx : 1 ≤ x
      · have : (decide (0 < x) && decide (x < 100)) = true := by simp; omega
        rw [if_pos this, if_pos hx, List.length_cons]; omega
      · have : ¬ (decide (0 < x) && decide (x < 100)) = true := by simp; omega
        rw [if_neg this, if_neg hx]; omega
    rw [e, List.map_cons, List.sum_cons, ← h1]
    split <;> omega
theorem msmall_all {t : Tb} (h : Tab t) : (mmany (msmall t 100) : Int) = nz t := by
  have key : ∀ t : Tb, (∀ r ∈ t, ∀ x ∈ r, 0 ≤ x ∧ x ≤ 99) → (mmany (msmall t 100) : Int) = nz t := fun t => by
    induction t with
    | nil => intro _; rfl
    | cons r t ih =>
      intro h
      have h1 := ih fun s hs => h s (List.mem_cons_of_mem _ hs)
      have h2 := nz_row r (h r (by simp))
      have e : mmany (msmall (r :: t) 100) = cntB (small 100 r) + mmany (msmall t 100) := by simp [mmany, msmall]
      have e2 : nz (r :: t) = (r.map fun x => if 1 ≤ x then (1 : Int) else x).sum + nz t := by simp [nz]
      rw [e, e2]; omega
  exact key t h.bd
/-- A mask turned. -/
def mturn (m : Mk) : Mk := (List.range (m.headD []).length).map fun j => m.map fun r => r.getD j false
theorem msmall_turn {t : Tb} (h : Tab t) (k : Int) : msmall (turn t) k = mturn (msmall t k) := by
  have hw : ((msmall t k).headD []).length = wd t := by
    cases t with
    | nil => rfl
    | cons r t => simp [msmall, small, wd]
  unfold mturn
  rw [hw, turn, msmall, List.map_map]
  refine List.map_congr_left fun j hj => ?_
  have hj2 : j < wd t := List.mem_range.1 hj
  simp only [Function.comp, col, small, msmall, List.map_map]
  refine List.map_congr_left fun r hr => ?_
  have hl := h.len r hr
  simp only [Function.comp]
  have e1 := getD_of r 0 (i := j) (by omega)
  have e2 := getD_of (small k r) false (i := j) (by rw [small, List.length_map]; omega)
  show (decide (0 < r.getD j 0) && decide (r.getD j 0 < k)) = (small k r).getD j false
  rw [e2]; simp only [e1]; simp [small]
/-- P82. -/
theorem tab_take {t : Tb} (h : Tab t) {k : Nat} (h1 : 1 ≤ k) (h2 : k ≤ t.length) : Tab (t.take k) := by
  have hl : (t.take k).length = k := by simp; omega
  have hw : wd (t.take k) = wd t := wd_of (by omega) fun r hr => h.len r (List.mem_of_mem_take hr)
  exact ⟨by omega, by have := h.h4; omega, by rw [hw]; exact h.w1, by rw [hw]; exact h.w4, fun r hr => by rw [hw]; exact h.len r (List.mem_of_mem_take hr), fun r hr => h.bd r (List.mem_of_mem_take hr)⟩
theorem tab_drop {t : Tb} (h : Tab t) {k : Nat} (h2 : k < t.length) : Tab (t.drop k) := by
  have hl : (t.drop k).length = t.length - k := by simp
  have hw : wd (t.drop k) = wd t := wd_of (by omega) fun r hr => h.len r (List.mem_of_mem_drop hr)
  exact ⟨by omega, by have := h.h4; omega, by rw [hw]; exact h.w1, by rw [hw]; exact h.w4, fun r hr => by rw [hw]; exact h.len r (List.mem_of_mem_drop hr), fun r hr => h.bd r (List.mem_of_mem_drop hr)⟩
theorem tab_long {t : Tb} (h : Tab t) {r : List Int} (hr : r.length ≠ wd t) : tabOk (t ++ [r]) = false := by
  cases hk : tabOk (t ++ [r])
  · rfl
  · have hh := tab_iff.1 hk
    have e : wd (t ++ [r]) = wd t := by
      cases t with
      | nil => have := h.h1; simp at this
      | cons s t => rfl
    have := hh.len r (by simp)
    rw [e] at this; exact absurd this hr
theorem tab_neg {t : Tb} {r : List Int} (hr : r ∈ t) {x : Int} (hx : x ∈ r) (h0 : x < 0) : tabOk t = false := by
  cases hk : tabOk t
  · rfl
  · have := (tab_iff.1 hk).bd r hr x hx; omega
theorem tsum_app (t u : Tb) : tsum (t ++ u) = tsum t + tsum u := by simp [tsum, rsum]
/-- P93. -/
theorem m_parts {t : Tb} (h : Tab t) {k : Nat} (h1 : 1 ≤ k) (h2 : k < t.length) : ttot (t.take k) + ttot (t.drop k) = ttot t := by
  rw [ttot, if_pos (tab_iff.2 (tab_take h h1 (by omega))), ttot, if_pos (tab_iff.2 (tab_drop h h2)), ttot, if_pos (tab_iff.2 h), ← tsum_app, List.take_append_drop]
theorem ttot_turn {t : Tb} (h : Tab t) : ttot (turn t) = ttot t := by
  rw [ttot, if_pos (tab_iff.2 (tab_turn h)), ttot, if_pos (tab_iff.2 h), tsum_turn h.len]
theorem sum_bd99 : ∀ r : List Int, (∀ x ∈ r, 0 ≤ x ∧ x ≤ 99) → 0 ≤ r.sum ∧ r.sum ≤ 99 * r.length
  | [], _ => by simp
  | x :: r, h => by
    have h1 := sum_bd99 r fun y hy => h y (List.mem_cons_of_mem _ hy)
    have h2 := h x (by simp)
    rw [List.sum_cons, List.length_cons]; omega
end Go.Proofs.YtobgceebolmfcaaDoor
