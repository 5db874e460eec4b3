/- Patterns: what the document says of safe cells, of the cells that need more, of a step and of growing, in lists. Mathematics alone. Patterns: a step, growing. Mathematics alone. Patterns as bits of a number. Mathematics alone. -/
import Derived.Test.YtobgceebolmfcaaDoorBMB
import Derived.Laws.BitsAllLaws
import Derived.Laws.Bits64b
import Derived.Lib.TrailingZeros
namespace Go.Proofs.YtobgceebolmfcaaDoor
/-- Is the cell hidden, and safe for the distance n? -/
noncomputable def safB (t : Tb) (m : Mk) (n : Int) (k l : Nat) : Bool := hF m k l && (decide (cF t k l + n ≤ hiI t m k l) && decide (loI t m k l ≤ max 0 (cF t k l - n)))
noncomputable def pSafe (t : Tb) (m : Mk) (i j n : Int) : Bool := bOk t m i j && in3 n 0 99 && safB t m n i.toNat j.toNat
/-- A first cell that is not safe. -/
noncomputable def unF (t : Tb) (f m : Mk) (n : Int) (k l : Nat) : Bool := hF f k l && !safB t m n k l
def pOk3 (t : Tb) (f m : Mk) (n : Int) : Bool := mkOk t f && mkOk t m && in3 n 0 99
noncomputable def needN (t : Tb) (f m : Mk) (n : Int) : Int := if pOk3 t f m n = true then cnt2 t.length (wd t) (unF t f m n) else -1
/-- The cells in order: what has come when (i, j) is next. -/
def np (d i j : Nat) : List (Nat × Nat) := ((List.range i).flatMap fun a => (List.range d).map fun b => (a, b)) ++ (List.range j).map fun b => (i, b)
theorem np_zero (d : Nat) : np d 0 0 = [] := rfl
theorem np_step (d i j : Nat) : np d i (j + 1) = np d i j ++ [(i, j)] := by simp [np, List.range_succ]
theorem np_next (d i : Nat) : np d i d = np d (i + 1) 0 := by simp [np, List.range_succ]
theorem np_mem {d i j a b : Nat} : (a, b) ∈ np d i j ↔ (a < i ∧ b < d) ∨ (a = i ∧ b < j) := by
  simp only [np, List.mem_append, List.mem_flatMap, List.mem_map, List.mem_range, Prod.mk.injEq]
  constructor
  · rintro (⟨x, hx, y, hy, rfl, rfl⟩ | ⟨y, hy, rfl, rfl⟩)
    · exact .inl ⟨hx, hy⟩
    · exact .inr ⟨rfl, hy⟩
  · rintro (⟨h1, h2⟩ | ⟨rfl, h2⟩)
    · exact .inl ⟨a, h1, b, h2, rfl, rfl⟩
    · exact .inr ⟨b, h2, rfl, rfl⟩
theorem np_all {q d a b : Nat} : (a, b) ∈ np d q 0 ↔ a < q ∧ b < d := by rw [np_mem]; omega
/-- The number of cells that hold, cell by cell. -/
def cntL (f : Nat → Nat → Bool) (l : List (Nat × Nat)) : Int := (l.map fun x => if f x.1 x.2 = true then (1 : Int) else 0).sum
theorem cntL_snoc (f : Nat → Nat → Bool) (l : List (Nat × Nat)) (a b : Nat) : cntL f (l ++ [(a, b)]) = cntL f l + if f a b = true then 1 else 0 := by simp [cntL, List.sum_append]
theorem sumL_row (g : Nat → Nat → Int) (i : Nat) : ∀ j, (((List.range j).map fun b => (i, b)).map fun x : Nat × Nat => g x.1 x.2).sum = sm j (g i)
  | 0 => rfl
  | j + 1 => by rw [List.range_succ, List.map_append, List.map_append, List.sum_append, sumL_row g i j]; simp [sm]
theorem sumL_np (g : Nat → Nat → Int) (d : Nat) : ∀ i j, ((np d i j).map fun x => g x.1 x.2).sum = sm i (fun a => sm d (g a)) + sm j (g i)
  | 0, j => by simp only [np, List.range_zero, List.flatMap_nil, List.nil_append, sm]; rw [sumL_row]; omega
  | i + 1, j => by
    have h := sumL_np g d i d
    rw [np_next] at h
    have e : np d (i + 1) j = np d (i + 1) 0 ++ (List.range j).map fun b => (i + 1, b) := by simp [np]
    rw [e, List.map_append, List.sum_append, h, sumL_row]
    simp only [sm]
theorem cntL_all (f : Nat → Nat → Bool) (q d : Nat) : cntL f (np d q 0) = cnt2 q d f := by
  unfold cntL cnt2
  have := sumL_np (fun a b => if f a b = true then (1 : Int) else 0) d q 0
  rw [this]; simp [sm]
section
variable {q d : Nat} {f g : Nat → Nat → Bool}
theorem cnt2_congr (h : ∀ k l, k < q → l < d → f k l = g k l) : cnt2 q d f = cnt2 q d g := sm_congr fun k hk => sm_congr fun l hl => by rw [h k l hk hl]
theorem cnt2_le (h : ∀ k l, k < q → l < d → f k l = true → g k l = true) : cnt2 q d f ≤ cnt2 q d g := sm_le fun k hk => sm_le fun l hl => by
  by_cases e : f k l = true
  · rw [if_pos e, if_pos (h k l hk hl e)]; omega
  · rw [if_neg e]; split <;> omega
theorem cnt2_pos (q d : Nat) (f : Nat → Nat → Bool) : 0 ≤ cnt2 q d f := sm_pos fun k _ => sm_pos fun l _ => by split <;> omega
theorem cnt2_split (q d : Nat) (f g : Nat → Nat → Bool) : cnt2 q d f = cnt2 q d (fun k l => f k l && g k l) + cnt2 q d (fun k l => f k l && !g k l) := by
  unfold cnt2
  rw [← sm_add]
  refine sm_congr fun k _ => ?_
  rw [← sm_add]
  refine sm_congr fun l _ => ?_
  show (if f k l = true then (1 : Int) else 0) = (if (f k l && g k l) = true then 1 else 0) + if (f k l && !g k l) = true then 1 else 0
  generalize f k l = a
  generalize g k l = b
  revert a b; decide
theorem cnt2_zero : cnt2 q d f = 0 ↔ ∀ k l, k < q → l < d → f k l = false := by
  constructor
  · intro h k l hk hl
    cases e : f k l
    · rfl
    · have h1 := sm_one (n := d) (f := fun l => if f k l = true then (1 : Int) else 0) hl fun i _ _ => by show (0 : Int) ≤ if f k i = true then 1 else 0; split <;> omega
      have h2 := sm_one (n := q) (f := fun k => sm d fun l => if f k l = true then (1 : Int) else 0) hk fun i _ _ => sm_pos fun l _ => by split <;> omega
      have h3 : (if f k l = true then (1 : Int) else 0) = 1 := if_pos e
      have h4 : cnt2 q d f = sm q fun k => sm d fun l => if f k l = true then (1 : Int) else 0 := rfl
      simp only [h3] at h1
      rw [h4] at h
      omega
  · intro h
    unfold cnt2
    rw [sm_congr (g := fun _ => 0) fun k hk => ?_, sm_zero]
    rw [sm_congr (g := fun _ => 0) fun l hl => ?_, sm_zero]
    rw [h k l hk hl]; rfl
theorem cnt2_some (h : cnt2 q d f ≠ 0) : ∃ k l, k < q ∧ l < d ∧ f k l = true := by
  refine Classical.byContradiction fun hn => h (cnt2_zero.2 fun k l hk hl => ?_)
  cases e : f k l
  · rfl
  · exact absurd ⟨k, l, hk, hl, e⟩ hn
theorem sm_ind (n a : Nat) : sm n (fun i => if i = a then (1 : Int) else 0) ≤ 1 ∧ (a < n → sm n (fun i => if i = a then (1 : Int) else 0) = 1) := by
  induction n with
  | zero => exact ⟨by simp [sm], fun h => by omega⟩
  | succ n ih =>
    simp only [sm]
    by_cases e : n = a
    · subst e
      have h0 : sm n (fun i => if i = n then (1 : Int) else 0) = 0 := by
        rw [sm_congr (g := fun _ => 0) fun i hi => if_neg (by omega), sm_zero]
      rw [h0]; simp
    · rw [if_neg e]; exact ⟨by omega, fun h => by have := ih.2 (by omega); omega⟩
/-- One cell alone. -/
theorem cnt2_single (q d a b : Nat) : cnt2 q d (fun k l => decide (k = a) && decide (l = b)) ≤ 1 := by
  have h : cnt2 q d (fun k l => decide (k = a) && decide (l = b)) ≤ sm q (fun k => if k = a then (1 : Int) else 0) := sm_le fun k _ => by
    by_cases e : k = a
    · subst e
      simp only [if_true, decide_true, Bool.true_and, decide_eq_true_eq]
      exact (sm_ind d b).1
    · simp only [e, decide_false, Bool.false_and, if_false]
      rw [show sm d (fun _ => if false = true then (1 : Int) else 0) = sm d (fun _ => 0) from rfl, sm_zero]
      exact Int.le_refl _
  exact Int.le_trans h (sm_ind q a).1
theorem cnt2_or (q d : Nat) (f g : Nat → Nat → Bool) : cnt2 q d (fun k l => f k l || g k l) ≤ cnt2 q d f + cnt2 q d g := by
  unfold cnt2
  rw [← sm_add]
  refine sm_le fun k _ => ?_
  rw [← sm_add]
  refine sm_le fun l _ => ?_
  show (if (f k l || g k l) = true then (1 : Int) else 0) ≤ (if f k l = true then 1 else 0) + if g k l = true then 1 else 0
  generalize f k l = a
  generalize g k l = b
  revert a b; decide
/-- At least one more. -/
theorem cnt2_lt (h : ∀ k l, k < q → l < d → f k l = true → g k l = true) {a b : Nat} (ha : a < q) (hb : b < d) (h1 : f a b = false) (h2 : g a b = true) : cnt2 q d f + 1 ≤ cnt2 q d g := by
  have e := cnt2_split q d g f
  have e1 : cnt2 q d f ≤ cnt2 q d (fun k l => g k l && f k l) := cnt2_le fun k l hk hl hf => by rw [hf, h k l hk hl hf]; rfl
  have e2 : cnt2 q d (fun k l => g k l && !f k l) ≠ 0 := fun e0 => by
    have := cnt2_zero.1 e0 a b ha hb
    rw [h1, h2] at this; cases this
  have := cnt2_pos q d (fun k l => g k l && !f k l)
  omega
end
section
variable {t : Tb} {f m m' : Mk} {n : Int} {k l : Nat}
theorem pOk3_iff : pOk3 t f m n = true ↔ mkOk t f = true ∧ mkOk t m = true ∧ 0 ≤ n ∧ n ≤ 99 := by
  simp only [pOk3, in3, Bool.and_eq_true, decide_eq_true_eq, and_assoc]
theorem safB_iff : safB t m n k l = true ↔ hF m k l = true ∧ cF t k l + n ≤ hiI t m k l ∧ loI t m k l ≤ max 0 (cF t k l - n) := by
  simp only [safB, Bool.and_eq_true, decide_eq_true_eq]
theorem pSafe_iff {i j : Int} : pSafe t m i j n = true ↔ bOk t m i j = true ∧ 0 ≤ n ∧ n ≤ 99 ∧ safB t m n i.toNat j.toNat = true := by
  simp only [pSafe, in3, Bool.and_eq_true, decide_eq_true_eq, and_assoc]
theorem pSafe_nat (h : mkOk t m = true) (hk : k < t.length) (hl : l < wd t) (h0 : 0 ≤ n) (h9 : n ≤ 99) : pSafe t m k l n = safB t m n k l := by
  have e : bOk t m k l = true := bOk_iff.2 ⟨h, by omega, by omega, by omega, by omega⟩
  have e2 : in3 n 0 99 = true := by simp only [in3, Bool.and_eq_true, decide_eq_true_eq]; omega
  rw [pSafe, e, e2]; rfl
/-- P139. -/
theorem safB_less {n' : Int} (h : safB t m n k l = true) (hn : n' ≤ n) : safB t m n' k l = true := by
  obtain ⟨h1, h2, h3⟩ := safB_iff.1 h
  exact safB_iff.2 ⟨h1, by omega, by omega⟩
/-- P140. -/
theorem safB_more (h : mkOk t m = true) (h' : mkOk t m' = true) (hm : ∀ k l, k < t.length → l < wd t → hF m k l = true → hF m' k l = true) (hk : k < t.length) (hl : l < wd t) (hs : safB t m n k l = true) : safB t m' n k l = true := by
  obtain ⟨h1, h2, h3⟩ := safB_iff.1 hs
  obtain ⟨e1, e2⟩ := m_highMore h h' hm hk hl
  exact safB_iff.2 ⟨hm k l hk hl h1, by omega, by omega⟩
theorem safB_wide (h : mkOk t m = true) (hk : k < t.length) (hl : l < wd t) (hs : safB t m n k l = true) (hn : 1 ≤ n) : loI t m k l ≠ hiI t m k l := by
  obtain ⟨h1, h2, h3⟩ := safB_iff.1 hs
  have := ((mk_tab h).cell hk hl).1
  omega
theorem safB_zero (h : mkOk t m = true) (hk : k < t.length) (hl : l < wd t) : safB t m 0 k l = hF m k l := by
  have e1 := (hiI_is h hk hl).ge (mk_tab h).posF
  have e2 := (loI_is h hk hl).le (mk_tab h).posF
  have e3 := ((mk_tab h).cell hk hl).1
  rw [Bool.eq_iff_iff, safB_iff]
  exact ⟨fun x => x.1, fun x => ⟨x, by omega, by omega⟩⟩
theorem needN_yes (h : pOk3 t f m n = true) : needN t f m n = cnt2 t.length (wd t) (unF t f m n) := by rw [needN, if_pos h]
theorem needN_no (h : pOk3 t f m n = false) : needN t f m n = -1 := by rw [needN, h]; rfl
theorem needN_ok : 0 ≤ needN t f m n ↔ pOk3 t f m n = true := by
  cases h : pOk3 t f m n
  · rw [needN_no h]; simp
  · rw [needN_yes h]; exact ⟨fun _ => rfl, fun _ => cnt2_pos _ _ _⟩
theorem cnt2_bd (q d : Nat) (hq : q ≤ 4) (hd : d ≤ 4) (f : Nat → Nat → Bool) : 0 ≤ cnt2 q d f ∧ cnt2 q d f ≤ 16 := by
  refine ⟨cnt2_pos _ _ _, ?_⟩
  have h1 : ∀ k, sm d (fun l => if f k l = true then (1 : Int) else 0) ≤ d * 1 := fun k => sm_le_mul fun l _ => by split <;> omega
  have h2 : cnt2 q d f ≤ q * 4 := sm_le_mul fun k _ => by have := h1 k; omega
  omega
theorem needN_bd : -1 ≤ needN t f m n ∧ needN t f m n ≤ 16 := by
  cases h : pOk3 t f m n
  · rw [needN_no h]; omega
  · rw [needN_yes h]
    have ht := mk_tab (pOk3_iff.1 h).1
    have := cnt2_bd t.length (wd t) ht.h4 ht.w4 (unF t f m n)
    omega
theorem needN_zero : needN t f m n = 0 ↔ pOk3 t f m n = true ∧ ∀ k l, k < t.length → l < wd t → hF f k l = true → safB t m n k l = true := by
  cases h : pOk3 t f m n
  · rw [needN_no h]; simp
  · rw [needN_yes h, cnt2_zero]
    constructor
    · intro e
      refine ⟨rfl, fun k l hk hl hf => ?_⟩
      have := e k l hk hl
      simp only [unF, hf, Bool.true_and, Bool.not_eq_false'] at this
      exact this
    · rintro ⟨_, e⟩ k l hk hl
      cases hf : hF f k l
      · simp [unF, hf]
      · simp [unF, e k l hk hl hf]
theorem mmany_cnt2 (h : mkOk t m = true) : ((mmany m : Nat) : Int) = cnt2 t.length (wd t) (hF m) := by
  rw [mmany_sm, mk_len h]
  refine sm_congr fun k hk => ?_
  rw [cntB_sm, mk_row h hk]; rfl
/-- P142. -/
theorem need_many : needN t f m n ≤ (mmany f : Nat) := by
  cases h : pOk3 t f m n
  · rw [needN_no h]; omega
  · rw [needN_yes h, mmany_cnt2 (pOk3_iff.1 h).1]
    exact cnt2_le fun k l _ _ e => by simp only [unF, Bool.and_eq_true] at e; exact e.1
theorem need_next (h : pOk3 t f m n = true) : (n ≤ 98 ∧ needN t f m n ≤ needN t f m (n + 1)) ∨ (n = 99 ∧ needN t f m (n + 1) = -1) := by
  obtain ⟨h1, h2, h3, h4⟩ := pOk3_iff.1 h
  by_cases e : n ≤ 98
  · refine .inl ⟨e, ?_⟩
    rw [needN_yes h, needN_yes (pOk3_iff.2 ⟨h1, h2, by omega, by omega⟩)]
    refine cnt2_le fun k l _ _ e2 => ?_
    simp only [unF, Bool.and_eq_true, Bool.not_eq_true'] at e2 ⊢
    refine ⟨e2.1, ?_⟩
    cases e3 : safB t m (n + 1) k l
    · rfl
    · rw [safB_less e3 (by omega)] at e2; exact e2.2
  · refine .inr ⟨by omega, needN_no ?_⟩
    cases e2 : pOk3 t f m (n + 1)
    · rfl
    · have := (pOk3_iff.1 e2).2.2.2; omega
/-- P151: hiding more needs no more. -/
theorem need_more (h : pOk3 t f m n = true) (h' : mkOk t m' = true) (hm : ∀ k l, k < t.length → l < wd t → hF m k l = true → hF m' k l = true) : 0 ≤ needN t f m' n ∧ needN t f m' n ≤ needN t f m n := by
  obtain ⟨h1, h2, h3, h4⟩ := pOk3_iff.1 h
  have h9 := pOk3_iff.2 ⟨h1, h', h3, h4⟩
  refine ⟨needN_ok.2 h9, ?_⟩
  rw [needN_yes h, needN_yes h9]
  refine cnt2_le fun k l hk hl e2 => ?_
  simp only [unF, Bool.and_eq_true, Bool.not_eq_true'] at e2 ⊢
  refine ⟨e2.1, ?_⟩
  cases e3 : safB t m n k l
  · rfl
  · rw [safB_more h2 h' hm hk hl e3] at e2; exact e2.2
/-- P151: one first cell less. -/
theorem need_first {f' : Mk} (h : pOk3 t f m n = true) (h' : mkOk t f' = true) {i j : Nat} (hf : ∀ k l, k < t.length → l < wd t → hF f' k l = if k = i ∧ l = j then false else hF f k l) :
    needN t f m n - needN t f' m n = 0 ∨ needN t f m n - needN t f' m n = 1 := by
  obtain ⟨h1, h2, h3, h4⟩ := pOk3_iff.1 h
  rw [needN_yes h, needN_yes (pOk3_iff.2 ⟨h', h2, h3, h4⟩)]
  have a := cnt2_le (q := t.length) (d := wd t) (f := unF t f' m n) (g := unF t f m n) fun k l hk hl e => by
    simp only [unF, Bool.and_eq_true, hf k l hk hl] at e ⊢
    by_cases e1 : k = i ∧ l = j
    · rw [if_pos e1] at e; exact absurd e.1 (by decide)
    · rw [if_neg e1] at e; exact e
  have b := cnt2_le (q := t.length) (d := wd t) (f := unF t f m n) (g := fun k l => unF t f' m n k l || (decide (k = i) && decide (l = j))) fun k l hk hl e => by
    by_cases e1 : k = i ∧ l = j
    · simp [e1]
    · simp only [unF, hf k l hk hl, if_neg e1] at e ⊢
      rw [e]; rfl
  have c := cnt2_or t.length (wd t) (unF t f' m n) (fun k l => decide (k = i) && decide (l = j))
  have e := cnt2_single t.length (wd t) i j
  omega
/-- P157. -/
theorem need_none (h : mkOk t m = true) (h0 : 0 ≤ n) (h9 : n ≤ 99) : needN t (allM t false) m n = 0 :=
  needN_zero.2 ⟨pOk3_iff.2 ⟨allM_ok (mk_tab h) false, h, h0, h9⟩, fun k l hk hl e => by rw [allM_at false hk hl] at e; cases e⟩
theorem need_bare (h : mkOk t f = true) (h0 : 0 ≤ n) (h9 : n ≤ 99) : needN t f (allM t false) n = (mmany f : Nat) := by
  rw [needN_yes (pOk3_iff.2 ⟨h, allM_ok (mk_tab h) false, h0, h9⟩), mmany_cnt2 h]
  exact cnt2_congr fun k l hk hl => by simp [unF, safB, allM_at false hk hl]
/-- P149, P150. -/
theorem safB_turn (h : mkOk t m = true) (hk : k < t.length) (hl : l < wd t) : safB (turn t) (mturn m) n l k = safB t m n k l := by
  obtain ⟨e1, e2⟩ := m_highTurn h hk hl
  rw [safB, safB, hF_turn h hk hl, cF_turn hk hl, e1, e2]
theorem need_turn (h : needN t f m n = 0) : needN (turn t) (mturn f) (mturn m) n = 0 := by
  obtain ⟨h1, h2⟩ := needN_zero.1 h
  obtain ⟨h3, h4, h5, h6⟩ := pOk3_iff.1 h1
  have ht := mk_tab h3
  refine needN_zero.2 ⟨pOk3_iff.2 ⟨mk_turn h3, mk_turn h4, h5, h6⟩, fun l k hl hk e => ?_⟩
  rw [turn_len] at hl
  rw [wd_turn ht.w1] at hk
  rw [hF_turn h3 hk hl] at e
  rw [safB_turn h4 hk hl]; exact h2 k l hk hl e
theorem need_fewer {f' : Mk} (h : needN t f m n = 0) (h' : mkOk t f' = true) (hf : ∀ k l, k < t.length → l < wd t → hF f' k l = true → hF f k l = true) : needN t f' m n = 0 := by
  obtain ⟨h1, h2⟩ := needN_zero.1 h
  obtain ⟨h3, h4, h5, h6⟩ := pOk3_iff.1 h1
  exact needN_zero.2 ⟨pOk3_iff.2 ⟨h', h4, h5, h6⟩, fun k l hk hl e => h2 k l hk hl (hf k l hk hl e)⟩
theorem need_wider (h : needN t f m n = 0) (h' : mkOk t m' = true) (hm : ∀ k l, k < t.length → l < wd t → hF m k l = true → hF m' k l = true) : needN t f m' n = 0 := by
  have := need_more (needN_zero.1 h).1 h' hm
  omega
/-- P153, P156: a safe cell is not alone in its row or its column. -/
theorem safB_two (h : mkOk t m = true) (hk : k < t.length) (hl : l < wd t) (hs : safB t m n k l = true) (hn : 1 ≤ n) :
    (∃ o, o < wd t ∧ o ≠ l ∧ hF m k o = true) ∧ ∃ o, o < t.length ∧ o ≠ k ∧ hF m o l = true := by
  obtain ⟨h1, h2, h3⟩ := safB_iff.1 hs
  constructor
  · refine Classical.byContradiction fun hno => ?_
    have := (m_alone h hk hl (.inl fun o ho hol => by
      cases e : hF m k o
      · rfl
      · exact absurd ⟨o, ho, hol, e⟩ hno)).1
    omega
  · refine Classical.byContradiction fun hno => ?_
    have := (m_alone h hk hl (.inr (.inl fun o ho hol => by
      cases e : hF m o l
      · rfl
      · exact absurd ⟨o, ho, hol, e⟩ hno))).1
    omega
/-- P153. -/
theorem need_line (h : needN t f m n = 0) (hn : 1 ≤ n) (hd : t.length ≤ 1 ∨ wd t ≤ 1) : mmany f = 0 := by
  obtain ⟨h1, h2⟩ := needN_zero.1 h
  obtain ⟨h3, h4, h5, h6⟩ := pOk3_iff.1 h1
  have e : cnt2 t.length (wd t) (hF f) = 0 := cnt2_zero.2 fun k l hk hl => by
    cases e : hF f k l
    · rfl
    · obtain ⟨⟨o, ho, hol, _⟩, ⟨p, hp, hpk, _⟩⟩ := safB_two h4 hk hl (h2 k l hk hl e) hn
      omega
  rw [← mmany_cnt2 h3] at e
  omega
/-- P147. -/
def costF (t : Tb) (m : Mk) : Nat → Nat → Int := fun k l => if hF m k l = true then cF t k l else 0
def costN (t : Tb) (m : Mk) : Int := if mkOk t m = true then sm t.length (fun k => sm (wd t) (costF t m k)) else -1
theorem costN_yes (h : mkOk t m = true) : costN t m = sm t.length (fun k => sm (wd t) (costF t m k)) := by rw [costN, if_pos h]
theorem costN_no (h : mkOk t m = false) : costN t m = -1 := by rw [costN, h]; rfl
theorem costN_le (h : mkOk t m = true) (h' : mkOk t m' = true) (hm : ∀ k l, k < t.length → l < wd t → hF m k l = true → hF m' k l = true) : costN t m ≤ costN t m' := by
  rw [costN_yes h, costN_yes h']
  refine sm_le fun k hk => sm_le fun l hl => ?_
  have := ((mk_tab h).cell hk hl).1
  unfold costF
  by_cases e : hF m k l = true
  · rw [if_pos e, if_pos (hm k l hk hl e)]; omega
  · rw [if_neg e]; split <;> omega
theorem costN_all (ht : Tab t) : costN t (allM t true) = tsum t := by
  rw [costN_yes (allM_ok ht true), ← all_sum ht]
  exact sm_congr fun k hk => sm_congr fun l hl => by rw [costF, allM_at true hk hl]; rfl
theorem costN_not (h : mkOk t m = true) (h' : mkOk t m' = true) (hm : ∀ k l, k < t.length → l < wd t → hF m' k l = !hF m k l) : costN t m + costN t m' = tsum t := by
  rw [costN_yes h, costN_yes h', ← all_sum (mk_tab h), ← sm_add]
  refine sm_congr fun k hk => ?_
  rw [← sm_add]
  refine sm_congr fun l hl => ?_
  unfold costF
  rw [hm k l hk hl]
  cases hF m k l <;> simp
theorem costN_bd (h : mkOk t m = true) : 0 ≤ costN t m ∧ costN t m ≤ tsum t := by
  refine ⟨?_, ?_⟩
  · rw [costN_yes h]
    refine sm_pos fun k hk => sm_pos fun l hl => ?_
    have := ((mk_tab h).cell hk hl).1
    unfold costF; split <;> omega
  · rw [← costN_all (mk_tab h)]
    exact costN_le h (allM_ok (mk_tab h) true) fun k l hk hl _ => allM_at true hk hl
end
end Go.Proofs.YtobgceebolmfcaaDoor
namespace Go.Proofs.YtobgceebolmfcaaDoor
def mset (m : Mk) (k l : Nat) : Mk := m.set k ((m.getD k []).set l true)
theorem mset_hF (m : Mk) {k l : Nat} (hk : k < m.length) (hl : l < (m.getD k []).length) (a b : Nat) : hF (mset m k l) a b = (hF m a b || (decide (a = k) && decide (b = l))) := by
  unfold hF mset
  simp only [List.getD_eq_getElem?_getD, List.getElem?_set]
  by_cases h1 : k = a
  · subst h1
    simp only [if_pos, hk, Option.getD_some]
    rw [List.getElem?_set]
    by_cases h2 : l = b
    · subst h2
      simp only [List.getD_eq_getElem?_getD] at hl
      simp [hl]
    · simp [h2, Ne.symm h2]
  · simp [h1, Ne.symm h1]
section
variable {t : Tb} {f m m' r : Mk} {n : Int} {i j k l : Nat}
theorem mset_ok (h : mkOk t m = true) (hk : k < t.length) : mkOk t (mset m k l) = true := by
  obtain ⟨h1, h2, h3⟩ := mk_parts.1 h
  refine mk_parts.2 ⟨h1, by rw [mset, List.length_set]; exact h2, fun r hr => ?_⟩
  rcases List.mem_or_eq_of_mem_set hr with h4 | h4
  · exact h3 r h4
  · rw [h4, List.length_set]; exact h3 _ (by rw [getD_of _ _ (by omega)]; exact List.getElem_mem _)
theorem mset_at (h : mkOk t m = true) (hk : k < t.length) (hl : l < wd t) (a b : Nat) : hF (mset m k l) a b = (hF m a b || (decide (a = k) && decide (b = l))) :=
  mset_hF m (by rw [mk_len h]; exact hk) (by rw [mk_row h hk]; exact hl) a b
/-- Four cells set. -/
def sq (m : Mk) (i j k l : Nat) : Mk := mset (mset (mset (mset m i j) i l) k j) k l
def inSq (i j k l a b : Nat) : Bool := (decide (a = i) || decide (a = k)) && (decide (b = j) || decide (b = l))
theorem sq_ok (h : mkOk t m = true) (hi : i < t.length) (hk : k < t.length) : mkOk t (sq m i j k l) = true := mset_ok (mset_ok (mset_ok (mset_ok h hi) hi) hk) hk
theorem sq_at (h : mkOk t m = true) (hi : i < t.length) (hj : j < wd t) (hk : k < t.length) (hl : l < wd t) (a b : Nat) : hF (sq m i j k l) a b = (hF m a b || inSq i j k l a b) := by
  unfold sq inSq
  rw [mset_at (mset_ok (mset_ok (mset_ok h hi) hi) hk) hk hl, mset_at (mset_ok (mset_ok h hi) hi) hk hj, mset_at (mset_ok h hi) hi hl, mset_at h hi hj]
  generalize hF m a b = x
  generalize decide (a = i) = y1
  generalize decide (a = k) = y2
  generalize decide (b = j) = y3
  generalize decide (b = l) = y4
  revert x y1 y2 y3 y4; decide
/-- What a cell costs that is not set yet. -/
def nC (t : Tb) (m : Mk) (a b : Nat) : Int := if hF m a b = true then 0 else cF t a b
def rc (t : Tb) (m : Mk) (i j : Nat) (x : Nat × Nat) : Int := nC t m i j + nC t m i x.2 + nC t m x.1 j + nC t m x.1 x.2
def isNew (m : Mk) (i j : Nat) (x : Nat × Nat) : Bool := !(hF m i j && hF m i x.2 && hF m x.1 j && hF m x.1 x.2)
def goodR (m : Mk) (i j : Nat) (x : Nat × Nat) : Bool := decide (x.1 ≠ i) && decide (x.2 ≠ j) && isNew m i j x
def bstep (t : Tb) (m : Mk) (i j : Nat) (b : Option (Nat × Nat)) (x : Nat × Nat) : Option (Nat × Nat) :=
  if goodR m i j x = true then (match b with | none => some x | some y => if rc t m i j x < rc t m i j y then some x else some y) else b
def bst (t : Tb) (m : Mk) (i j : Nat) (L : List (Nat × Nat)) : Option (Nat × Nat) := L.foldl (bstep t m i j) none
theorem bst_nil : bst t m i j [] = none := rfl
theorem bst_snoc (L : List (Nat × Nat)) (x : Nat × Nat) : bst t m i j (L ++ [x]) = bstep t m i j (bst t m i j L) x := by
  unfold bst; rw [List.foldl_append]; rfl
theorem bst_no {L : List (Nat × Nat)} {x : Nat × Nat} (h : goodR m i j x = false) : bst t m i j (L ++ [x]) = bst t m i j L := by
  rw [bst_snoc]; unfold bstep; rw [h]; rfl
theorem bst_one {L : List (Nat × Nat)} {x : Nat × Nat} (h : goodR m i j x = true) (hb : bst t m i j L = none) : bst t m i j (L ++ [x]) = some x := by
  rw [bst_snoc]; unfold bstep; rw [h, hb]; rfl
theorem bst_new {L : List (Nat × Nat)} {x y : Nat × Nat} (h : goodR m i j x = true) (hb : bst t m i j L = some y) (hc : rc t m i j x < rc t m i j y) : bst t m i j (L ++ [x]) = some x := by
  rw [bst_snoc]; unfold bstep; rw [h, hb]; simp [hc]
theorem bst_old {L : List (Nat × Nat)} {x y : Nat × Nat} (hb : bst t m i j L = some y) (hc : ¬ rc t m i j x < rc t m i j y) : bst t m i j (L ++ [x]) = some y := by
  rw [bst_snoc]; unfold bstep; rw [hb]; simp [hc]
theorem bst_in0 {y : Nat × Nat} : ∀ (L : List (Nat × Nat)) (b : Option (Nat × Nat)), L.foldl (bstep t m i j) b = some y → b = some y ∨ (y ∈ L ∧ goodR m i j y = true)
  | [], b, h => .inl h
  | x :: L, b, h => by
    rcases bst_in0 L _ h with e | ⟨e1, e2⟩
    · unfold bstep at e
      cases hg : goodR m i j x
      · rw [hg] at e; exact .inl e
      · rw [hg] at e
        cases b with
        | none => injection e with e; subst e; exact .inr ⟨by simp, hg⟩
        | some z =>
          simp only [if_true] at e
          split at e
          · injection e with e; subst e; exact .inr ⟨by simp, hg⟩
          · exact .inl e
    · exact .inr ⟨List.mem_cons_of_mem _ e1, e2⟩
theorem bst_in {y : Nat × Nat} {L : List (Nat × Nat)} (h : bst t m i j L = some y) : y ∈ L ∧ goodR m i j y = true := by
  rcases bst_in0 L none h with e | e
  · cases e
  · exact e
/-- The first of the cells that holds. -/
def fst1 (u : Nat → Nat → Bool) (L : List (Nat × Nat)) : Option (Nat × Nat) := L.find? fun x => u x.1 x.2
theorem fst1_snoc (u : Nat → Nat → Bool) (L : List (Nat × Nat)) (a b : Nat) : fst1 u (L ++ [(a, b)]) = match fst1 u L with | some y => some y | none => if u a b = true then some (a, b) else none := by
  unfold fst1
  rw [List.find?_append]
  cases L.find? fun x => u x.1 x.2
  · simp only [Option.none_or, List.find?_cons, List.find?_nil]
    cases u a b <;> rfl
  · rfl
theorem fst1_some {u : Nat → Nat → Bool} {L : List (Nat × Nat)} {x : Nat × Nat} (h : fst1 u L = some x) : x ∈ L ∧ u x.1 x.2 = true := ⟨List.mem_of_find?_eq_some h, by have := List.find?_some h; exact this⟩
theorem fst1_none {u : Nat → Nat → Bool} {L : List (Nat × Nat)} (h : fst1 u L = none) : ∀ x ∈ L, u x.1 x.2 = false := fun x hx => by
  have := List.find?_eq_none.1 h x hx
  simpa using this
/-- A step. -/
noncomputable def stepO (t : Tb) (f m : Mk) (n : Int) : Option Mk :=
  if needN t f m n < 1 then none else
  match fst1 (unF t f m n) (np (wd t) t.length 0) with
  | none => none
  | some x => match bst t m x.1 x.2 (np (wd t) t.length 0) with
    | none => none
    | some y => some (sq m x.1 x.2 y.1 y.2)
theorem need_fst (h : 1 ≤ needN t f m n) : ∃ x : Nat × Nat, fst1 (unF t f m n) (np (wd t) t.length 0) = some x ∧ x.1 < t.length ∧ x.2 < wd t ∧ unF t f m n x.1 x.2 = true := by
  have h3 := needN_ok.1 (show 0 ≤ needN t f m n by omega)
  rw [needN_yes h3] at h
  obtain ⟨a, b, ha, hb, hu⟩ := cnt2_some (show cnt2 t.length (wd t) (unF t f m n) ≠ 0 by omega)
  cases e : fst1 (unF t f m n) (np (wd t) t.length 0) with
  | none => have := fst1_none e (a, b) (np_all.2 ⟨ha, hb⟩); rw [hu] at this; cases this
  | some x =>
    obtain ⟨h1, h2⟩ := fst1_some e
    obtain ⟨h4, h5⟩ := np_all.1 h1
    exact ⟨x, rfl, h4, h5, h2⟩
theorem step_yes {x y : Nat × Nat} (h : 1 ≤ needN t f m n) (hx : fst1 (unF t f m n) (np (wd t) t.length 0) = some x) (hy : bst t m x.1 x.2 (np (wd t) t.length 0) = some y) : stepO t f m n = some (sq m x.1 x.2 y.1 y.2) := by
  rw [stepO, if_neg (by omega), hx]
  dsimp only
  rw [hy]
theorem step_not {x : Nat × Nat} (h : 1 ≤ needN t f m n) (hx : fst1 (unF t f m n) (np (wd t) t.length 0) = some x) (hy : bst t m x.1 x.2 (np (wd t) t.length 0) = none) : stepO t f m n = none := by
  rw [stepO, if_neg (by omega), hx]
  dsimp only
  rw [hy]
theorem step_low (h : needN t f m n < 1) : stepO t f m n = none := by rw [stepO, if_pos h]
/-- What a step sets. -/
structure Stp (t : Tb) (f m m' : Mk) (n : Int) (i j k l : Nat) : Prop where
  ok : pOk3 t f m n = true
  need : 1 ≤ needN t f m n
  hi : i < t.length
  hj : j < wd t
  hk : k < t.length
  hl : l < wd t
  ki : k ≠ i
  lj : l ≠ j
  un : unF t f m n i j = true
  new : isNew m i j (k, l) = true
  eq : m' = sq m i j k l
theorem step_some (h : stepO t f m n = some m') : ∃ i j k l, Stp t f m m' n i j k l := by
  by_cases e : needN t f m n < 1
  · rw [step_low e] at h; cases h
  · obtain ⟨x, hx, h1, h2, h3⟩ := need_fst (show 1 ≤ needN t f m n by omega)
    cases hy : bst t m x.1 x.2 (np (wd t) t.length 0) with
    | none => rw [step_not (by omega) hx hy] at h; cases h
    | some y =>
      rw [step_yes (by omega) hx hy] at h
      injection h with h
      obtain ⟨a, b⟩ := bst_in hy
      obtain ⟨h4, h5⟩ := np_all.1 a
      simp only [goodR, Bool.and_eq_true, decide_eq_true_eq] at b
      exact ⟨x.1, x.2, y.1, y.2, ⟨needN_ok.1 (by omega), by omega, h1, h2, h4, h5, b.1.1, b.1.2, h3, b.2, h.symm⟩⟩
theorem Stp.mok (s : Stp t f m m' n i j k l) : mkOk t m' = true := by rw [s.eq]; exact sq_ok (pOk3_iff.1 s.ok).2.1 s.hi s.hk
theorem Stp.at (s : Stp t f m m' n i j k l) (a b : Nat) : hF m' a b = (hF m a b || inSq i j k l a b) := by rw [s.eq]; exact sq_at (pOk3_iff.1 s.ok).2.1 s.hi s.hj s.hk s.hl a b
theorem Stp.more (s : Stp t f m m' n i j k l) (a b : Nat) (h : hF m a b = true) : hF m' a b = true := by rw [s.at, h]; rfl
theorem Stp.newcell (s : Stp t f m m' n i j k l) : ∃ a b, a < t.length ∧ b < wd t ∧ hF m a b = false ∧ hF m' a b = true := by
  have h := s.new
  have e1 : inSq i j k l i j = true := by simp [inSq]
  have e2 : inSq i j k l i l = true := by simp [inSq]
  have e3 : inSq i j k l k j = true := by simp [inSq]
  have e4 : inSq i j k l k l = true := by simp [inSq]
  cases h1 : hF m i j
  · exact ⟨i, j, s.hi, s.hj, h1, by rw [s.at, e1]; simp⟩
  · cases h2 : hF m i l
    · exact ⟨i, l, s.hi, s.hl, h2, by rw [s.at, e2]; simp⟩
    · cases h3 : hF m k j
      · exact ⟨k, j, s.hk, s.hj, h3, by rw [s.at, e3]; simp⟩
      · cases h4 : hF m k l
        · exact ⟨k, l, s.hk, s.hl, h4, by rw [s.at, e4]; simp⟩
        · simp [isNew, h1, h2, h3, h4] at h
/-- P143. -/
def newC (m m' : Mk) (a b : Nat) : Bool := hF m' a b && !hF m a b
theorem step_count (h : stepO t f m n = some m') : 1 ≤ cnt2 t.length (wd t) (newC m m') ∧ cnt2 t.length (wd t) (newC m m') ≤ 4 := by
  obtain ⟨i, j, k, l, s⟩ := step_some h
  constructor
  · obtain ⟨a, b, ha, hb, h1, h2⟩ := s.newcell
    have h0 : cnt2 t.length (wd t) (newC m m') ≠ 0 := fun e => by
      have := cnt2_zero.1 e a b ha hb
      simp [newC, h1, h2] at this
    have := cnt2_pos t.length (wd t) (newC m m')
    omega
  · have c0 := cnt2_le (q := t.length) (d := wd t) (f := newC m m') (g := fun a b => ((decide (a = i) && decide (b = j)) || (decide (a = i) && decide (b = l))) || ((decide (a = k) && decide (b = j)) || (decide (a = k) && decide (b = l)))) fun a b _ _ e => by
      simp only [newC, s.at, inSq] at e
      revert e
      generalize hF m a b = x
      generalize decide (a = i) = y1
      generalize decide (a = k) = y2
      generalize decide (b = j) = y3
      generalize decide (b = l) = y4
      revert x y1 y2 y3 y4; decide
    have c1 := cnt2_or t.length (wd t) (fun a b => (decide (a = i) && decide (b = j)) || (decide (a = i) && decide (b = l))) (fun a b => (decide (a = k) && decide (b = j)) || (decide (a = k) && decide (b = l)))
    have c2 := cnt2_or t.length (wd t) (fun a b => decide (a = i) && decide (b = j)) (fun a b => decide (a = i) && decide (b = l))
    have c3 := cnt2_or t.length (wd t) (fun a b => decide (a = k) && decide (b = j)) (fun a b => decide (a = k) && decide (b = l))
    have d1 := cnt2_single t.length (wd t) i j
    have d2 := cnt2_single t.length (wd t) i l
    have d3 := cnt2_single t.length (wd t) k j
    have d4 := cnt2_single t.length (wd t) k l
    omega
theorem step_ok (h : stepO t f m n = some m') : pOk3 t f m n = true ∧ mkOk t m' = true ∧ (∀ a b, hF m a b = true → hF m' a b = true) ∧ 1 ≤ needN t f m n := by
  obtain ⟨i, j, k, l, s⟩ := step_some h
  exact ⟨s.ok, s.mok, s.more, s.need⟩
theorem step_need (h : stepO t f m n = some m') : needN t f m' n ≤ needN t f m n := by
  obtain ⟨h1, h2, h3, _⟩ := step_ok h
  exact (need_more h1 h2 fun a b _ _ => h3 a b).2
/-- P154: a new cell is alone neither in its row nor in its column. -/
theorem step_row (h : stepO t f m n = some m') {a b : Nat} (hn : newC m m' a b = true) : (∃ o, o < wd t ∧ o ≠ b ∧ hF m' a o = true) ∧ ∃ o, o < t.length ∧ o ≠ a ∧ hF m' o b = true := by
  obtain ⟨i, j, k, l, s⟩ := step_some h
  have hin : inSq i j k l a b = true := by
    simp only [newC, s.at] at hn
    revert hn
    generalize hF m a b = x
    generalize inSq i j k l a b = y
    revert x y; decide
  simp only [inSq, Bool.and_eq_true, Bool.or_eq_true, decide_eq_true_eq] at hin
  have hat : ∀ a b, (a = i ∨ a = k) → (b = j ∨ b = l) → hF m' a b = true := fun a b ha hb => by
    rw [s.at]
    have : inSq i j k l a b = true := by simp only [inSq, Bool.and_eq_true, Bool.or_eq_true, decide_eq_true_eq]; exact ⟨ha, hb⟩
    rw [this]; simp
  have hki := s.ki
  have hlj := s.lj
  constructor
  · rcases hin.2 with e | e
    · exact ⟨l, s.hl, by omega, hat a l hin.1 (.inr rfl)⟩
    · exact ⟨j, s.hj, by omega, hat a j hin.1 (.inl rfl)⟩
  · rcases hin.1 with e | e
    · exact ⟨k, s.hk, by omega, hat k b (.inr rfl) hin.2⟩
    · exact ⟨i, s.hi, by omega, hat i b (.inl rfl) hin.2⟩
theorem step_any (h : stepO t f m n = some m') : ∃ a b, a < t.length ∧ b < wd t ∧ newC m m' a b = true := by
  obtain ⟨i, j, k, l, s⟩ := step_some h
  obtain ⟨a, b, ha, hb, h1, h2⟩ := s.newcell
  exact ⟨a, b, ha, hb, by simp [newC, h1, h2]⟩
/-- The cells that are not set. -/
def miss (t : Tb) (m : Mk) : Nat := (cnt2 t.length (wd t) fun a b => !hF m a b).toNat
theorem miss_lt (h : stepO t f m n = some m') : miss t m' < miss t m := by
  obtain ⟨i, j, k, l, s⟩ := step_some h
  obtain ⟨a, b, ha, hb, h1, h2⟩ := s.newcell
  have := cnt2_lt (q := t.length) (d := wd t) (f := fun a b => !hF m' a b) (g := fun a b => !hF m a b) (fun c e _ _ h3 => by
    cases h4 : hF m c e
    · rfl
    · simp only [s.more c e h4] at h3; exact h3) ha hb (by simp [h2]) (by simp [h1])
  have := cnt2_pos t.length (wd t) fun a b => !hF m' a b
  unfold miss
  omega
theorem miss_le (h : mkOk t m = true) : miss t m ≤ 16 := by
  have ht := mk_tab h
  have := cnt2_bd t.length (wd t) ht.h4 ht.w4 fun a b => !hF m a b
  unfold miss; omega
/-- Growing. -/
noncomputable def growF (t : Tb) (f : Mk) (n : Int) : Nat → Mk → Option Mk
  | 0, _ => none
  | k + 1, m => if needN t f m n = 0 then some m else match stepO t f m n with
    | none => none
    | some m' => growF t f n k m'
noncomputable def growO (t : Tb) (f : Mk) (n : Int) : Option Mk := if needN t f f n < 0 then none else growF t f n 17 f
theorem growF_done {g : Nat} (h : needN t f m n = 0) (hg : 0 < g) : growF t f n g m = some m := by
  obtain ⟨g, rfl⟩ : ∃ k, g = k + 1 := ⟨g - 1, by omega⟩
  rw [growF, if_pos h]
theorem growF_fail {g : Nat} (h : needN t f m n ≠ 0) (hs : stepO t f m n = none) : growF t f n g m = none := by
  cases g with
  | zero => rfl
  | succ g => rw [growF, if_neg h, hs]
theorem growF_step {g : Nat} (h : needN t f m n ≠ 0) (hs : stepO t f m n = some m') : growF t f n (g + 1) m = growF t f n g m' := by
  rw [growF, if_neg h, hs]
theorem growF_some : ∀ {g : Nat} {m : Mk}, mkOk t m = true → growF t f n g m = some r → needN t f r n = 0 ∧ mkOk t r = true ∧ ∀ a b, hF m a b = true → hF r a b = true
  | 0, m, _, h => by cases h
  | g + 1, m, hm, h => by
    by_cases e : needN t f m n = 0
    · rw [growF_done e (by omega)] at h
      injection h with h
      subst h
      exact ⟨e, hm, fun _ _ h => h⟩
    · cases hs : stepO t f m n with
      | none => rw [growF_fail e hs] at h; cases h
      | some m' =>
        rw [growF_step e hs] at h
        obtain ⟨h1, h2, h3, h4⟩ := step_ok hs
        obtain ⟨a, b, c⟩ := growF_some h2 h
        exact ⟨a, b, fun x y hh => c x y (h3 x y hh)⟩
theorem grow_low (h : needN t f f n < 0) : growO t f n = none := by rw [growO, if_pos h]
theorem grow_go (h : 0 ≤ needN t f f n) : growO t f n = growF t f n 17 f := by rw [growO, if_neg (by omega)]
theorem grow_some (h : growO t f n = some r) : pOk3 t f f n = true ∧ needN t f r n = 0 ∧ mkOk t r = true ∧ ∀ a b, hF f a b = true → hF r a b = true := by
  by_cases e : needN t f f n < 0
  · rw [grow_low e] at h; cases h
  · have h3 := needN_ok.1 (show 0 ≤ needN t f f n by omega)
    rw [grow_go (by omega)] at h
    obtain ⟨a, b, c⟩ := growF_some (pOk3_iff.1 h3).1 h
    exact ⟨h3, a, b, c⟩
/-- P145. -/
theorem grow_none (h : needN t f f n = 0) : growO t f n = some f := by rw [grow_go (by omega), growF_done h (by omega)]
theorem grow_step (h : growO t f n = some r) (h0 : needN t f f n ≠ 0) : ∃ x, stepO t f f n = some x ∧ mkOk t x = true ∧ ∀ a b, hF x a b = true → hF r a b = true := by
  have h3 := (grow_some h).1
  have := needN_ok.2 h3
  rw [grow_go this] at h
  cases hs : stepO t f f n with
  | none => rw [growF_fail h0 hs] at h; cases h
  | some x =>
    rw [growF_step h0 hs] at h
    obtain ⟨h1, h2, _⟩ := step_ok hs
    exact ⟨x, rfl, h2, (growF_some h2 h).2.2⟩
/-- P146. -/
theorem grow_zero (h : mkOk t f = true) : growO t f 0 = some f :=
  grow_none (needN_zero.2 ⟨pOk3_iff.2 ⟨h, h, by omega, by omega⟩, fun k l hk hl e => by rw [safB_zero h hk hl]; exact e⟩)
theorem grow_bare (ht : Tab t) (h0 : 0 ≤ n) (h9 : n ≤ 99) : growO t (allM t false) n = some (allM t false) := grow_none (need_none (allM_ok ht false) h0 h9)
theorem grow_many (h : growO t f n = some r) : mmany f ≤ mmany r := by
  obtain ⟨h1, _, h2, h3⟩ := grow_some h
  have := cnt2_le (q := t.length) (d := wd t) fun a b _ _ => h3 a b
  rw [← mmany_cnt2 (pOk3_iff.1 h1).1, ← mmany_cnt2 h2] at this
  omega
/-- P148. -/
theorem grow_all (h : growO t f n = some r) : needN t f (allM t true) n = 0 := by
  obtain ⟨h1, h2, _, _⟩ := grow_some h
  have ht := mk_tab (pOk3_iff.1 h1).1
  exact need_wider h2 (allM_ok ht true) fun k l hk hl _ => allM_at true hk hl
/-- P152. -/
theorem grow_cost (h : growO t f n = some r) : costN t f ≤ costN t r ∧ costN t r ≤ tsum t := by
  obtain ⟨h1, _, h2, h3⟩ := grow_some h
  exact ⟨costN_le (pOk3_iff.1 h1).1 h2 fun a b _ _ => h3 a b, (costN_bd h2).2⟩
/-- P153. -/
theorem grow_line (h : growO t f n = some r) : n = 0 ∨ (1 < t.length ∧ 1 < wd t) ∨ mmany f = 0 := by
  obtain ⟨h1, h2, _, _⟩ := grow_some h
  have h3 := (pOk3_iff.1 h1).2.2.1
  by_cases e : n = 0
  · exact .inl e
  · by_cases e2 : 1 < t.length ∧ 1 < wd t
    · exact .inr (.inl e2)
    · exact .inr (.inr (need_line h2 (by omega) (by omega)))
end
end Go.Proofs.YtobgceebolmfcaaDoor
namespace Go.Proofs.YtobgceebolmfcaaDoor
/-- A list of bits as a number. -/
def encL : List Bool → Nat
  | [] => 0
  | b :: bs => b.toNat + 2 * encL bs
theorem encL_bit : ∀ (l : List Bool) (i : Nat), (encL l).testBit i = l.getD i false
  | [], i => by simp [encL]
  | b :: bs, 0 => by
    simp only [encL, Nat.testBit_zero, List.getD_cons_zero]
    cases b <;> simp <;> omega
  | b :: bs, i + 1 => by
    simp only [encL, Nat.testBit_succ, List.getD_cons_succ]
    rw [← encL_bit bs i]
    congr 1
    cases b <;> simp <;> omega
theorem encL_lt : ∀ l : List Bool, encL l < 2 ^ l.length
  | [] => by simp [encL]
  | b :: bs => by
    have := encL_lt bs
    simp only [encL, List.length_cons, Nat.pow_succ]
    cases b <;> simp <;> omega
/-- Flags of cells as a number: the cell (a, b) has the bit 4 a + b. -/
def enc (h : Nat → Nat → Bool) : Nat := encL ((List.range 16).map fun i => h (i / 4) (i % 4))
theorem enc_lt (h : Nat → Nat → Bool) : enc h < 65536 := by
  have := encL_lt ((List.range 16).map fun i => h (i / 4) (i % 4))
  simpa [enc] using this
theorem enc_bit (h : Nat → Nat → Bool) (i : Nat) : (enc h).testBit i = (decide (i < 16) && h (i / 4) (i % 4)) := by
  unfold enc
  rw [encL_bit, List.getD_eq_getElem?_getD]
  by_cases hi : i < 16
  · rw [List.getElem?_eq_getElem (by simpa using hi)]; simp [hi]
  · rw [List.getElem?_eq_none (by simpa using hi)]; simp [hi]
theorem enc_cell (h : Nat → Nat → Bool) {a b : Nat} (ha : a < 4) (hb : b < 4) : (enc h).testBit (4 * a + b) = h a b := by
  rw [enc_bit, show (4 * a + b) / 4 = a by omega, show (4 * a + b) % 4 = b by omega]
  have : 4 * a + b < 16 := by omega
  simp [this]
theorem pat_ext {x y : Nat} (hx : x < 65536) (hy : y < 65536) (h : ∀ a b, a < 4 → b < 4 → x.testBit (4 * a + b) = y.testBit (4 * a + b)) : x = y := by
  refine Nat.eq_of_testBit_eq fun i => ?_
  by_cases hi : i < 16
  · have := h (i / 4) (i % 4) (by omega) (by omega)
    rwa [show 4 * (i / 4) + i % 4 = i by omega] at this
  · have h1 : x < 2 ^ i := Nat.lt_of_lt_of_le hx (Nat.pow_le_pow_right (n := 2) (by omega) (show 16 ≤ i by omega))
    have h2 : y < 2 ^ i := Nat.lt_of_lt_of_le hy (Nat.pow_le_pow_right (n := 2) (by omega) (show 16 ≤ i by omega))
    rw [Nat.testBit_lt_two_pow h1, Nat.testBit_lt_two_pow h2]
theorem enc_of {x : Nat} {h : Nat → Nat → Bool} (hx : x < 65536) (e : ∀ a b, a < 4 → b < 4 → x.testBit (4 * a + b) = h a b) : x = enc h :=
  pat_ext hx (enc_lt h) fun a b ha hb => by rw [e a b ha hb, enc_cell h ha hb]
theorem enc_ext {h g : Nat → Nat → Bool} (e : ∀ a b, a < 4 → b < 4 → h a b = g a b) : enc h = enc g := enc_of (enc_lt h) fun a b ha hb => by rw [enc_cell h ha hb, e a b ha hb]
theorem bit_lt {i : Nat} (hi : i < 16) : 2 ^ i < 65536 := Nat.pow_lt_pow_right (a := 2) (by omega) hi
theorem bit_pos (i : Nat) : 1 ≤ 2 ^ i := Nat.one_le_two_pow
/-- One cell. -/
theorem bit_enc {a b : Nat} (ha : a < 4) (hb : b < 4) : 2 ^ (4 * a + b) = enc fun k l => decide (k = a) && decide (l = b) :=
  enc_of (bit_lt (by omega)) fun k l hk hl => by
    rw [Nat.testBit_two_pow, Bool.eq_iff_iff]
    simp only [decide_eq_true_eq, Bool.and_eq_true]
    omega
theorem or_lt {x y : Nat} (hx : x < 65536) (hy : y < 65536) : x ||| y < 65536 := Nat.or_lt_two_pow (n := 16) hx hy
theorem and_lt {x y : Nat} (hx : x < 65536) : x &&& y < 65536 := Nat.lt_of_le_of_lt Nat.and_le_left hx
theorem or_enc (h g : Nat → Nat → Bool) : enc h ||| enc g = enc fun a b => h a b || g a b :=
  enc_of (or_lt (enc_lt h) (enc_lt g)) fun a b ha hb => by rw [Nat.testBit_or, enc_cell h ha hb, enc_cell g ha hb]
theorem and_enc (h g : Nat → Nat → Bool) : enc h &&& enc g = enc fun a b => h a b && g a b :=
  enc_of (and_lt (enc_lt h)) fun a b ha hb => by rw [Nat.testBit_and, enc_cell h ha hb, enc_cell g ha hb]
theorem not_bit {y i : Nat} (hy : y < 65536) (hi : i < 64) : (18446744073709551615 - y).testBit i = !y.testBit i := by
  have := Nat.testBit_two_pow_sub_succ (n := 64) (x := y) (by omega) i
  rw [show 2 ^ 64 - (y + 1) = 18446744073709551615 - y by omega] at this
  rw [this]; simp [hi]
theorem less_enc (h g : Nat → Nat → Bool) : enc h &&& (18446744073709551615 - enc g) = enc fun a b => h a b && !g a b :=
  enc_of (and_lt (enc_lt h)) fun a b ha hb => by rw [Nat.testBit_and, not_bit (enc_lt g) (by omega), enc_cell h ha hb, enc_cell g ha hb]
theorem or_int {x y : Nat} (hx : x < 65536) (hy : y < 65536) : bits .or .u64 (x : Int) (y : Int) = ((x ||| y : Nat) : Int) := bits_or_u64_nat x y (by omega) (by omega)
theorem and_int {x y : Nat} (hx : x < 65536) (hy : y < 65536) : bits .and .u64 (x : Int) (y : Int) = ((x &&& y : Nat) : Int) := bits_and_u64_nat x y (by omega) (by omega)
theorem less_int {x y : Nat} (hx : x < 65536) (hy : y < 65536) : bits .andNot .u64 (x : Int) (y : Int) = ((x &&& (18446744073709551615 - y) : Nat) : Int) := u64_andNot_nat x y (by omega) (by omega)
theorem enc_zero : enc (fun _ _ => false) = 0 := by decide +kernel
theorem enc_eq0 {h : Nat → Nat → Bool} : enc h = 0 ↔ ∀ a b, a < 4 → b < 4 → h a b = false := by
  constructor
  · intro e a b ha hb
    rw [← enc_cell h ha hb, e]; simp
  · intro e
    rw [← enc_zero]; exact enc_ext e
/-- The least bit. -/
theorem ctz_bit {x : Nat} (h0 : x ≠ 0) (hx : x < 65536) : Lib.ctz 64 x < 16 ∧ x.testBit (Lib.ctz 64 x) = true ∧ ∀ i, i < Lib.ctz 64 x → x.testBit i = false := by
  have e : Lib.ctz 64 x = Lib.ctzFrom 64 x := by simp [Lib.ctz, h0]
  rw [e]
  obtain ⟨m, hm, _⟩ := Lib.ctzFrom_spec 64 x (by omega) (by omega)
  generalize Lib.ctzFrom 64 x = k at hm
  have h1 : x.testBit k = true := by
    rw [hm, Nat.mul_comm, Nat.testBit_mul_two_pow]
    simp [Nat.testBit_zero]
  refine ⟨?_, h1, fun i hi => ?_⟩
  · refine Classical.byContradiction fun h => ?_
    have h2 : x < 2 ^ k := Nat.lt_of_lt_of_le hx (Nat.pow_le_pow_right (n := 2) (by omega) (show 16 ≤ k by omega))
    rw [Nat.testBit_lt_two_pow h2] at h1; cases h1
  · rw [hm, Nat.mul_comm, Nat.testBit_mul_two_pow]
    have : ¬ k ≤ i := by omega
    simp [this]
/-- How many bits are set, as bits.OnesCount64 reckons it. -/
def pop16 (x : Nat) : Nat :=
  let x1 := (x / 2 &&& 6148914691236517205) + (x &&& 6148914691236517205)
  let x2 := (x1 / 4 &&& 3689348814741910323) + (x1 &&& 3689348814741910323)
  let x3 := (x2 / 16 + x2) &&& 1085102592571150095
  let x4 := x3 + x3 / 256
  let x5 := x4 + x4 / 65536
  let x6 := x5 + x5 / 4294967296
  x6 &&& 127
def popN (x : Nat) : Nat := ((List.range 16).filter fun i => x.testBit i).length
theorem and_split {a c : Nat} (ha : a < 2 ^ 8) (hc : c < 2 ^ 8) (b d : Nat) : (2 ^ 8 * b + a) &&& (2 ^ 8 * d + c) = 2 ^ 8 * (b &&& d) + (a &&& c) := by
  refine Nat.eq_of_testBit_eq fun i => ?_
  have h : a &&& c < 2 ^ 8 := Nat.and_lt_two_pow _ hc
  rw [Nat.testBit_and, Nat.testBit_two_pow_mul_add _ ha, Nat.testBit_two_pow_mul_add _ hc, Nat.testBit_two_pow_mul_add _ h]
  split <;> rw [Nat.testBit_and]
/-- A byte's steps. -/
def pb1 (a : Nat) : Nat := (a / 2 &&& 85) + (a &&& 85)
def pb2 (a : Nat) : Nat := (a / 4 &&& 51) + (a &&& 51)
def pb3 (a : Nat) : Nat := (a / 16 + a) &&& 15
theorem pb1_lt : ∀ a : Fin 256, pb1 a.val ≤ 170 := by decide +kernel
theorem pb1_top : ∀ a : Fin 256, (128 + a.val / 2) &&& 85 = a.val / 2 &&& 85 := by decide +kernel
theorem pb2_lt2 : ∀ a : Fin 256, pb2 (pb1 a.val) ≤ 68 ∧ pb2 (pb1 a.val) % 16 ≤ 4 := by decide +kernel
theorem pb2_top : ∀ c : Fin 4, ∀ a : Fin 256, (64 * c.val + a.val / 4) &&& 51 = a.val / 4 &&& 51 := by decide +kernel
theorem pb3_top : ∀ c : Fin 16, ∀ a : Fin 70, (16 * c.val + a.val / 16 + a.val) &&& 15 = (a.val / 16 + a.val) &&& 15 := by decide +kernel
theorem pb_all : ∀ a : Fin 256, pb3 (pb2 (pb1 a.val)) = ((List.range 8).filter fun i => a.val.testBit i).length := by decide +kernel
theorem pb_last : ∀ a : Fin 9, ∀ b : Fin 9, (256 * b.val + a.val + b.val) &&& 127 = a.val + b.val := by decide +kernel
theorem pb_byte : ∀ b : Fin 256, b.val &&& 24019198012642645 = b.val &&& 85 ∧ b.val / 2 &&& 24019198012642645 = b.val / 2 &&& 85 ∧ b.val &&& 14411518807585587 = b.val &&& 51 ∧ b.val / 4 &&& 14411518807585587 = b.val / 4 &&& 51 := by decide +kernel
theorem pb_byte3 : ∀ b : Fin 256, b.val &&& 4238682002231055 = b.val &&& 15 := by decide +kernel
theorem pop16_split {a b : Nat} (ha : a < 256) (hb : b < 256) : pop16 (2 ^ 8 * b + a) = pb3 (pb2 (pb1 a)) + pb3 (pb2 (pb1 b)) := by
  obtain ⟨b1, b2, _, _⟩ := pb_byte ⟨b, hb⟩
  simp only at b1 b2
  have s1 : ((2 ^ 8 * b + a) / 2 &&& 6148914691236517205) + ((2 ^ 8 * b + a) &&& 6148914691236517205) = 2 ^ 8 * pb1 b + pb1 a := by
    rw [show (2 ^ 8 * b + a) / 2 = 2 ^ 8 * (b / 2) + (128 * (b % 2) + a / 2) by omega, show (6148914691236517205 : Nat) = 2 ^ 8 * 24019198012642645 + 85 by decide,
      and_split (by omega) (by decide), and_split (by omega) (by decide), b1, b2]
    have e : (128 * (b % 2) + a / 2) &&& 85 = a / 2 &&& 85 := by
      have := pb1_top ⟨a, ha⟩
      simp only at this
      rcases (show b % 2 = 0 ∨ b % 2 = 1 by omega) with h | h <;> rw [h]
      · simp
      · exact this
    rw [e]; unfold pb1; omega
  have l1 := pb1_lt ⟨a, ha⟩
  have l2 := pb1_lt ⟨b, hb⟩
  have m1 := pb2_lt2 ⟨a, ha⟩
  have m2 := pb2_lt2 ⟨b, hb⟩
  have z1 := pb_all ⟨a, ha⟩
  have z2 := pb_all ⟨b, hb⟩
  simp only at l1 l2 m1 m2 z1 z2
  have y1 : pb3 (pb2 (pb1 a)) ≤ 8 := by rw [z1]; exact Nat.le_trans (List.length_filter_le _ _) (by simp)
  have y2 : pb3 (pb2 (pb1 b)) ≤ 8 := by rw [z2]; exact Nat.le_trans (List.length_filter_le _ _) (by simp)
  unfold pop16
  simp only []
  rw [s1]
  clear z1 z2 s1 b1 b2
  generalize pb1 a = a1 at *
  generalize pb1 b = b1 at *
  obtain ⟨_, _, b3, b4⟩ := pb_byte ⟨b1, by omega⟩
  simp only at b3 b4
  have s2 : ((2 ^ 8 * b1 + a1) / 4 &&& 3689348814741910323) + ((2 ^ 8 * b1 + a1) &&& 3689348814741910323) = 2 ^ 8 * pb2 b1 + pb2 a1 := by
    rw [show (2 ^ 8 * b1 + a1) / 4 = 2 ^ 8 * (b1 / 4) + (64 * (b1 % 4) + a1 / 4) by omega, show (3689348814741910323 : Nat) = 2 ^ 8 * 14411518807585587 + 51 by decide,
      and_split (by omega) (by decide), and_split (by omega) (by decide), b3, b4]
    have := pb2_top ⟨b1 % 4, by omega⟩ ⟨a1, by omega⟩
    simp only at this
    rw [this]; unfold pb2; omega
  rw [s2]
  clear s2 b3 b4
  generalize pb2 a1 = a2 at *
  generalize pb2 b1 = b2 at *
  have b5 := pb_byte3 ⟨b2 / 16 + b2, by omega⟩
  simp only at b5
  have s3 : ((2 ^ 8 * b2 + a2) / 16 + (2 ^ 8 * b2 + a2)) &&& 1085102592571150095 = 2 ^ 8 * pb3 b2 + pb3 a2 := by
    rw [show (2 ^ 8 * b2 + a2) / 16 + (2 ^ 8 * b2 + a2) = 2 ^ 8 * (b2 / 16 + b2) + (16 * (b2 % 16) + a2 / 16 + a2) by omega, show (1085102592571150095 : Nat) = 2 ^ 8 * 4238682002231055 + 15 by decide,
      and_split (by omega) (by decide), b5]
    have := pb3_top ⟨b2 % 16, by omega⟩ ⟨a2, by omega⟩
    simp only at this
    rw [this]; rfl
  rw [s3]
  have := pb_last ⟨pb3 a2, by omega⟩ ⟨pb3 b2, by omega⟩
  simp only at this
  rw [← this]
  congr 1
  omega
theorem popN_split {a b : Nat} (ha : a < 256) (_hb : b < 256) : popN (2 ^ 8 * b + a) = ((List.range 8).filter fun i => a.testBit i).length + ((List.range 8).filter fun i => b.testBit i).length := by
  unfold popN
  rw [show (16 : Nat) = 8 + 8 by rfl, List.range_add, List.filter_append, List.length_append]
  congr 1
  · congr 1
    refine List.filter_congr fun i hi => ?_
    rw [Nat.testBit_two_pow_mul_add _ (show a < 2 ^ 8 from ha), if_pos (by simpa using hi)]
  · rw [List.filter_map, List.length_map]
    congr 1
    refine List.filter_congr fun i _ => ?_
    show (2 ^ 8 * b + a).testBit (8 + i) = b.testBit i
    rw [Nat.testBit_two_pow_mul_add _ (show a < 2 ^ 8 from ha), if_neg (by omega)]
    congr 1; omega
theorem pop16_eq {x : Nat} (hx : x < 65536) : pop16 x = popN x := by
  have e : x = 2 ^ 8 * (x / 256) + x % 256 := by omega
  rw [e, pop16_split (by omega) (by omega), popN_split (by omega) (by omega)]
  have z1 := pb_all ⟨x % 256, by omega⟩
  have z2 := pb_all ⟨x / 256, by omega⟩
  simp only at z1 z2
  rw [z1, z2]
end Go.Proofs.YtobgceebolmfcaaDoor
