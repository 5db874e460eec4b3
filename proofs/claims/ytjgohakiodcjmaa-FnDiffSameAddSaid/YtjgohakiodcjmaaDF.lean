/- Tables subtracted. Mathematics alone. -/
import Derived.Test.YtjgohakiodcjmaaTSA
import Derived.Test.YtjgohakiodcjmaaTM2
namespace Go.Proofs.Ytjgohakiodcjmaa
def cT (t : Tb) (a b : Nat) : Int := (t.getD a []).getD b 0
def diffT (t u : Tb) : Tb := mat t.length (wd t) fun a b => cT t a b - cT u a b
def diffOk (t u : Tb) : Bool := tabOk t && tabOk u && (decide (u.length = t.length) && decide (wd u = wd t)) && tabOk (diffT t u)
def diffI (t u : Tb) : Tb := if diffOk t u = true then diffT t u else []
def riskI (t u : Tb) (k : Int) : Int := if diffOk t u = true then ((mmany (msmall (diffT t u) k) : Nat) : Int) else -1
structure DOk (t u : Tb) : Prop where
  ht : Tab t
  hu : Tab u
  l : u.length = t.length
  w : wd u = wd t
  d : Tab (diffT t u)
theorem dok_iff {t u : Tb} : diffOk t u = true ↔ DOk t u := by
  simp only [diffOk, Bool.and_eq_true, decide_eq_true_eq, tab_iff]
  exact ⟨fun ⟨⟨⟨a, b⟩, c, d⟩, e⟩ => ⟨a, b, c, d, e⟩, fun ⟨a, b, c, d, e⟩ => ⟨⟨⟨a, b⟩, c, d⟩, e⟩⟩
theorem diffI_yes {t u : Tb} (h : diffOk t u = true) : diffI t u = diffT t u := by rw [diffI, if_pos h]
theorem diffI_no {t u : Tb} (h : diffOk t u = false) : diffI t u = [] := by rw [diffI, h]; rfl
theorem riskI_yes {t u : Tb} (h : diffOk t u = true) (k : Int) : riskI t u k = ((mmany (msmall (diffT t u) k) : Nat) : Int) := by rw [riskI, if_pos h]
theorem riskI_no {t u : Tb} (h : diffOk t u = false) (k : Int) : riskI t u k = -1 := by rw [riskI, h]; rfl
theorem riskI_ok {t u : Tb} {k : Int} (h : ¬ riskI t u k < 0) : diffOk t u = true := by
  cases e : diffOk t u
  · rw [riskI_no e] at h; omega
  · rfl
theorem wd_mat {h n : Nat} (f : Nat → Nat → Int) (hh : 1 ≤ h) : wd (mat h n f) = n := wd_of (by rw [mat_len]; exact hh) fun r hr => by
  obtain ⟨i, _, rfl⟩ := List.mem_map.1 hr; simp
theorem cT_mat {h n : Nat} (f : Nat → Nat → Int) {i j : Nat} (hi : i < h) (hj : j < n) : cT (mat h n f) i j = f i j := mat_cell h n f hi hj
theorem tab_mat {h n : Nat} {f : Nat → Nat → Int} (h1 : 1 ≤ h) (h4 : h ≤ 4) (n1 : 1 ≤ n) (n4 : n ≤ 4) (hf : ∀ a b, a < h → b < n → 0 ≤ f a b ∧ f a b ≤ 99) : Tab (mat h n f) := by
  have hw := wd_mat f (n := n) h1
  refine ⟨by rw [mat_len]; exact h1, by rw [mat_len]; exact h4, by rw [hw]; exact n1, by rw [hw]; exact n4, fun r hr => ?_, fun r hr x hx => ?_⟩
  · obtain ⟨i, _, rfl⟩ := List.mem_map.1 hr; rw [hw]; simp
  · obtain ⟨i, hi, rfl⟩ := List.mem_map.1 hr
    obtain ⟨j, hj, rfl⟩ := List.mem_map.1 hx
    exact hf i j (List.mem_range.1 hi) (List.mem_range.1 hj)
theorem tb_ext {t u : Tb} {d : Nat} (hl : t.length = u.length) (ht : ∀ i, i < t.length → (t.getD i []).length = d) (hu : ∀ i, i < u.length → (u.getD i []).length = d) (h : ∀ i j, i < t.length → j < d → cT t i j = cT u i j) : t = u := by
  refine List.ext_getElem hl fun i h1 h2 => ?_
  have e1 := ht i h1
  have e2 := hu i h2
  rw [getD_of _ _ h1] at e1
  rw [getD_of _ _ h2] at e2
  refine List.ext_getElem (by rw [e1, e2]) fun j g1 g2 => ?_
  have h3 := h i j h1 (by omega)
  unfold cT at h3
  rw [getD_of _ _ h1, getD_of _ _ h2, getD_of _ _ g1, getD_of _ _ g2] at h3
  exact h3
theorem tab_len {t : Tb} (h : Tab t) {i : Nat} (hi : i < t.length) : (t.getD i []).length = wd t := by rw [getD_of _ _ hi]; exact h.len _ (List.getElem_mem hi)
theorem tab_as {t : Tb} (h : Tab t) : t = mat t.length (wd t) (cT t) :=
  tb_ext (d := wd t) (by rw [mat_len]) (fun i hi => tab_len h hi) (fun i hi => by rw [mat_len] at hi; exact mat_rlen _ _ _ hi) fun i j hi hj => (cT_mat _ hi hj).symm
theorem cT_bd {t : Tb} (h : Tab t) {i j : Nat} (hi : i < t.length) (hj : j < wd t) : 0 ≤ cT t i j ∧ cT t i j ≤ 99 := by
  have hl := tab_len h hi
  unfold cT
  rw [getD_of _ 0 (by rw [hl]; exact hj)]
  exact h.bd _ (by rw [getD_of _ _ hi]; exact List.getElem_mem hi) _ (List.getElem_mem _)
theorem diff_len (t u : Tb) : (diffT t u).length = t.length := mat_len _ _ _
theorem diff_wd {t : Tb} (h : Tab t) (u : Tb) : wd (diffT t u) = wd t := wd_mat _ h.h1
theorem diff_rlen (t u : Tb) {i : Nat} (hi : i < t.length) : ((diffT t u).getD i []).length = wd t := mat_rlen _ _ _ hi
theorem diff_cell (t u : Tb) {i j : Nat} (hi : i < t.length) (hj : j < wd t) : cT (diffT t u) i j = cT t i j - cT u i j := cT_mat _ hi hj
theorem DOk.le {t u : Tb} (h : DOk t u) {i j : Nat} (hi : i < t.length) (hj : j < wd t) : cT u i j ≤ cT t i j := by
  have := cT_bd h.d (i := i) (j := j) (by rw [diff_len]; exact hi) (by rw [diff_wd h.ht]; exact hj)
  rw [diff_cell t u hi hj] at this
  omega
theorem dok_of {t u : Tb} (ht : Tab t) (hu : Tab u) (hl : u.length = t.length) (hw : wd u = wd t) (h : ∀ i j, i < t.length → j < wd t → cT u i j ≤ cT t i j) : DOk t u :=
  ⟨ht, hu, hl, hw, tab_mat ht.h1 ht.h4 ht.w1 ht.w4 fun a b ha hb => by
    have h1 := cT_bd ht ha hb
    have h2 := cT_bd hu (i := a) (j := b) (by omega) (by omega)
    have := h a b ha hb
    omega⟩
theorem dok_self {t : Tb} (h : Tab t) : DOk t t := dok_of h h rfl rfl fun _ _ _ _ => Int.le_refl _
/-- Sums. -/
theorem sum_map_sub (f g : Nat → Int) : ∀ L : List Nat, (L.map fun j => f j - g j).sum = (L.map f).sum - (L.map g).sum
  | [] => rfl
  | j :: L => by simp only [List.map_cons, List.sum_cons, sum_map_sub f g L]; omega
theorem rsum_mat (h n : Nat) (f : Nat → Nat → Int) : rsum (mat h n f) = (List.range h).map fun i => ((List.range n).map (f i)).sum := by
  unfold rsum mat
  rw [List.map_map]; rfl
theorem col_mat (h n : Nat) (f : Nat → Nat → Int) {j : Nat} (hj : j < n) : col (mat h n f) j = (List.range h).map fun i => f i j := by
  unfold col mat
  rw [List.map_map]
  refine List.map_congr_left fun i _ => ?_
  simp [List.getD_eq_getElem?_getD, hj]
theorem csum_mat {h n : Nat} (f : Nat → Nat → Int) (hh : 1 ≤ h) : csum (mat h n f) = (List.range n).map fun j => ((List.range h).map fun i => f i j).sum := by
  unfold csum
  rw [wd_mat f hh]
  exact List.map_congr_left fun j hj => by rw [col_mat h n f (List.mem_range.1 hj)]
theorem tsum_mat (h n : Nat) (f : Nat → Nat → Int) : tsum (mat h n f) = ((List.range h).map fun i => ((List.range n).map (f i)).sum).sum := by rw [tsum, rsum_mat]
theorem rng_get (f : Nat → Int) {n i : Nat} (hi : i < n) : ((List.range n).map f).getD i 0 = f i := by rw [getD_of _ _ (by simpa using hi)]; simp
theorem diff_rsum {t u : Tb} (h : DOk t u) {i : Nat} (hi : i < t.length) : (rsum (diffT t u)).getD i 0 = (rsum t).getD i 0 - (rsum u).getD i 0 := by
  have e1 := congrArg rsum (tab_as h.ht)
  have e2 := congrArg rsum (tab_as h.hu)
  rw [h.l, h.w] at e2
  rw [e1, e2, diffT, rsum_mat, rsum_mat, rsum_mat, rng_get _ hi, rng_get _ hi, rng_get _ hi, sum_map_sub]
theorem diff_csum {t u : Tb} (h : DOk t u) {j : Nat} (hj : j < wd t) : (csum (diffT t u)).getD j 0 = (csum t).getD j 0 - (csum u).getD j 0 := by
  have e1 := congrArg csum (tab_as h.ht)
  have e2 := congrArg csum (tab_as h.hu)
  rw [h.l, h.w] at e2
  have h1 := h.ht.h1
  rw [e1, e2, diffT, csum_mat _ h1, csum_mat _ h1, csum_mat _ h1, rng_get _ hj, rng_get _ hj, rng_get _ hj, sum_map_sub]
theorem diff_tsum {t u : Tb} (h : DOk t u) : tsum (diffT t u) = tsum t - tsum u := by
  have e1 := congrArg tsum (tab_as h.ht)
  have e2 := congrArg tsum (tab_as h.hu)
  rw [h.l, h.w] at e2
  rw [e1, e2, diffT, tsum_mat, tsum_mat, tsum_mat, ← sum_map_sub]
  refine congrArg List.sum (List.map_congr_left fun i _ => ?_)
  rw [sum_map_sub]
theorem diff_tot {t u : Tb} (h : DOk t u) : ttot (diffT t u) + ttot u = ttot t := by
  rw [ttot, ttot, ttot, if_pos (tab_iff.2 h.d), if_pos (tab_iff.2 h.hu), if_pos (tab_iff.2 h.ht), diff_tsum h]; omega
theorem diff_tot0 {t : Tb} (h : Tab t) : ttot (diffT t t) = 0 := by have := diff_tot (dok_self h); omega
/-- P159. -/
theorem diff_twice {t u : Tb} (h : DOk t u) : DOk t (diffT t u) ∧ diffT t (diffT t u) = u := by
  refine ⟨dok_of h.ht h.d (diff_len t u) (diff_wd h.ht u) fun i j hi hj => ?_, ?_⟩
  · rw [diff_cell t u hi hj]
    have := cT_bd h.hu (i := i) (j := j) (by rw [h.l]; exact hi) (by rw [h.w]; exact hj)
    omega
  · refine tb_ext (d := wd t) (by rw [diff_len, h.l]) (fun i hi => diff_rlen _ _ (by rw [diff_len] at hi; exact hi)) (fun i hi => by rw [tab_len h.hu hi, h.w]) fun i j hi hj => ?_
    rw [diff_len] at hi
    rw [diff_cell _ _ hi hj, diff_cell _ _ hi hj]; omega
/-- P166. -/
theorem cT_turn (t : Tb) {a b : Nat} (ha : a < wd t) (hb : b < t.length) : cT (turn t) a b = cT t b a := by
  unfold cT
  rw [turn_get t ha, col_get t a hb]
theorem diff_turn {t u : Tb} (h : DOk t u) : DOk (turn t) (turn u) ∧ diffT (turn t) (turn u) = turn (diffT t u) := by
  have l1 := turn_len t
  have l2 := wd_turn h.ht.w1
  have e3 := wd_turn h.hu.w1
  refine ⟨dok_of (tab_turn h.ht) (tab_turn h.hu) (by rw [turn_len, turn_len, h.w]) (by rw [l2, e3, h.l]) fun i j hi hj => ?_, ?_⟩
  · rw [l1] at hi
    rw [l2] at hj
    rw [cT_turn t hi hj, cT_turn u (by rw [h.w]; exact hi) (by rw [h.l]; exact hj)]
    exact h.le hj hi
  · have w1 : wd (diffT t u) = wd t := diff_wd h.ht u
    refine tb_ext (d := t.length) (by rw [diff_len, turn_len, turn_len, w1]) (fun i hi => ?_) (fun i hi => ?_) fun i j hi hj => ?_
    · rw [diff_len] at hi
      rw [diff_rlen _ _ hi, l2]
    · rw [turn_len] at hi
      rw [turn_get _ hi, col_len, diff_len]
    · rw [diff_len, turn_len] at hi
      rw [diff_cell _ _ (by rw [l1]; exact hi) (by rw [l2]; exact hj), cT_turn t hi hj, cT_turn u (by rw [h.w]; exact hi) (by rw [h.l]; exact hj), cT_turn _ (by rw [w1]; exact hi) (by rw [diff_len]; exact hj), diff_cell _ _ hj hi]
/-- Small cells as a sum. -/
def ind (k x : Int) : Int := if 0 < x ∧ x < k then 1 else 0
def indT (k : Int) (t : Tb) : Tb := t.map fun r => r.map (ind k)
theorem ind_zero (k : Int) : ind k 0 = 0 := by simp [ind]
theorem mm_row (k : Int) : ∀ r : List Int, (cntB (small k r) : Int) = (r.map (ind k)).sum
  | [] => rfl
  | x :: r => by
    have ih := mm_row k r
    unfold small cntB at ih ⊢
    simp only [List.map_cons, List.sum_cons, List.filter_cons, id_eq]
    by_cases h : 0 < x ∧ x < k
    · have e : (decide (0 < x) && decide (x < k)) = true := by simp [h.1, h.2]
      rw [if_pos e, List.length_cons, ind, if_pos h]; omega
    · have e : (decide (0 < x) && decide (x < k)) = false := by
        cases e : (decide (0 < x) && decide (x < k))
        · rfl
        · simp at e; exact absurd e h
      rw [e, ind, if_neg h]; simp; omega
theorem mm_ind (k : Int) : ∀ t : Tb, (mmany (msmall t k) : Int) = tsum (indT k t)
  | [] => rfl
  | r :: t => by
    have ih := mm_ind k t
    have h1 := mm_row k r
    unfold mmany msmall tsum rsum indT at ih ⊢
    simp only [List.map_cons, List.sum_cons] at ih ⊢
    omega
theorem indT_mat (k : Int) (h n : Nat) (f : Nat → Nat → Int) : indT k (mat h n f) = mat h n fun a b => ind k (f a b) := by
  unfold indT mat
  rw [List.map_map]
  refine List.map_congr_left fun i _ => ?_
  simp only [Function.comp_def, List.map_map]
theorem indT_tab {t : Tb} (h : Tab t) (k : Int) : indT k t = mat t.length (wd t) fun a b => ind k (cT t a b) := by
  have e := congrArg (indT k) (tab_as h)
  rw [indT_mat] at e
  exact e
theorem mm_turn {t : Tb} (h : Tab t) (k : Int) : mmany (msmall (turn t) k) = mmany (msmall t k) := by
  have h1 := mm_ind k (turn t)
  have h2 := mm_ind k t
  have e : indT k (turn t) = turn (indT k t) := by
    rw [indT_tab h, indT_tab (tab_turn h), turn_len, wd_turn h.w1, turn_mat (mat _ _ _), wd_mat _ h.h1, mat_len]
    exact mat_ext fun a b ha hb => by
      have := mat_cell t.length (wd t) (fun a b => ind k (cT t a b)) hb ha
      rw [this, cT_turn t ha hb]
  have hr : ∀ r ∈ indT k t, r.length = wd (indT k t) := by
    rw [indT_tab h, wd_mat _ h.h1]
    intro r hr
    obtain ⟨i, _, rfl⟩ := List.mem_map.1 hr; simp
  rw [e, tsum_turn hr] at h1
  omega
theorem risk_turn {t u : Tb} (h : DOk t u) (k : Int) : riskI (turn t) (turn u) k = riskI t u k := by
  obtain ⟨h1, h2⟩ := diff_turn h
  rw [riskI_yes (dok_iff.2 h1), riskI_yes (dok_iff.2 h), h2, mm_turn h.d]
theorem sum_map_le (f g : Nat → Int) : ∀ L : List Nat, (∀ j ∈ L, f j ≤ g j) → (L.map f).sum ≤ (L.map g).sum
  | [], _ => Int.le_refl _
  | j :: L, h => by
    have h1 := sum_map_le f g L fun k hk => h k (List.mem_cons_of_mem _ hk)
    have h2 := h j (by simp)
    simp only [List.map_cons, List.sum_cons]; omega
/-- P168. -/
theorem mm_le {t : Tb} (h : Tab t) (k : Int) : (mmany (msmall t k) : Int) ≤ tsum t := by
  have e2 := congrArg tsum (tab_as h)
  rw [mm_ind, indT_tab h, e2, tsum_mat, tsum_mat]
  refine sum_map_le _ _ _ fun i hi => sum_map_le _ _ _ fun j hj => ?_
  have := cT_bd h (List.mem_range.1 hi) (List.mem_range.1 hj)
  unfold ind
  split <;> omega
theorem mm_zero {t : Tb} (h : Tab t) (k : Int) (h0 : tsum t = 0) : mmany (msmall t k) = 0 := by
  have := mm_le h k
  omega
theorem risk_self {t : Tb} (h : Tab t) (k : Int) : riskI t t k = 0 := by
  have hd := dok_self h
  rw [riskI_yes (dok_iff.2 hd), mm_zero hd.d k (by rw [diff_tsum hd]; omega)]; rfl
theorem risk_one {t u : Tb} (h : DOk t u) : riskI t u 1 = 0 := by rw [riskI_yes (dok_iff.2 h), msmall_one]; rfl
theorem risk_tot {t u : Tb} (h : DOk t u) (k : Int) : riskI t u k ≤ ttot (diffT t u) := by
  rw [riskI_yes (dok_iff.2 h), ttot, if_pos (tab_iff.2 h.d)]
  exact mm_le h.d k
theorem risk_more {t u : Tb} (h : DOk t u) (k : Int) : riskI t u k ≤ riskI t u (k + 1) := by
  rw [riskI_yes (dok_iff.2 h), riskI_yes (dok_iff.2 h)]
  have := msmall_mono (diffT t u) (k := k) (q := k + 1) (by omega)
  omega
theorem mm_bd {t u : Tb} (h : DOk t u) (k : Int) : mmany (msmall (diffT t u) k) ≤ 1000000000 := by
  have h1 := (m_mask (msmall_ok (tab_iff.2 h.d) k)).1
  have h2 := h.d.h4
  have h3 := h.d.w4
  have : ((diffT t u).length : Int) * (wd (diffT t u) : Int) ≤ 4 * 4 := Int.mul_le_mul (by omega) (by omega) (by omega) (by omega)
  omega
/-- P167. -/
theorem fold01 {t : Tb} (h : Tab t) (h2 : 2 ≤ t.length) : (∀ i, i + 1 < t.length → ((foldT t 0 1).getD i []).length = wd t) ∧ ∀ i j, i + 1 < t.length → j < wd t → cT (foldT t 0 1) i j = if i = 0 then cT t 0 j + cT t 1 j else cT t (i + 1) j := by
  have hr := fold_rect h (a := 0) (b := 1) (by omega) (by omega)
  have hl := fold_len t (a := 0) (b := 1) (by omega)
  refine ⟨fun i hi => by rw [getD_of _ _ (by omega)]; exact hr _ (List.getElem_mem _), fun i j hi hj => ?_⟩
  unfold cT
  by_cases h0 : i = 0
  · subst h0
    have := fold_get t (a := 0) (b := 1) (by omega) (by omega) (i := 0) (by omega) (by omega)
    simp only [if_true, show (0 : Nat) < 1 by omega] at this
    rw [this, if_pos rfl, addRow_get (by rw [tab_len h (by omega), tab_len h (by omega)])]
  · have := fold_get t (a := 0) (b := 1) (by omega) (by omega) (i := i + 1) (by omega) (by omega)
    rw [if_neg (by omega), if_neg (by omega), show i + 1 - 1 = i by omega] at this
    rw [this, if_neg h0]
theorem diff_fold {t u : Tb} (h : DOk t u) (ht : foldOk t 0 1 = true) (hu : foldOk u 0 1 = true) : DOk (foldT t 0 1) (foldT u 0 1) ∧ foldOk (diffT t u) 0 1 = true ∧ diffT (foldT t 0 1) (foldT u 0 1) = foldT (diffT t u) 0 1 := by
  obtain ⟨_, i1, j1, a1, a2, a3, a4, a5, _⟩ := foldOk_parts ht
  obtain ⟨_, i2, j2, b1, b2, b3, b4, b5, _⟩ := foldOk_parts hu
  have : i1 = 0 := by omega
  have : j1 = 1 := by omega
  have : i2 = 0 := by omega
  have : j2 = 1 := by omega
  subst i1 j1 i2 j2
  have h2 : 2 ≤ t.length := by omega
  obtain ⟨p1, p2⟩ := fold01 h.ht h2
  obtain ⟨q1, q2⟩ := fold01 h.hu (by rw [h.l]; exact h2)
  obtain ⟨r1, r2⟩ := fold01 h.d (by rw [diff_len]; exact h2)
  have lt := fold_len t (a := 0) (b := 1) (by omega)
  have lu := fold_len u (a := 0) (b := 1) (by omega)
  have ld := fold_len (diffT t u) (a := 0) (b := 1) (by rw [diff_len]; omega)
  have wt := fold_wd h.ht (a := 0) (b := 1) (by omega) (by omega)
  have wu := fold_wd h.hu (a := 0) (b := 1) (by omega) (by omega)
  rw [h.l] at lu q1 q2
  rw [h.w] at wu q1 q2
  rw [diff_len] at ld r1 r2
  have hwd := diff_wd h.ht u
  rw [hwd] at r1 r2
  have hd : DOk (foldT t 0 1) (foldT u 0 1) := dok_of a5 b5 (by rw [lt, lu]) (by rw [wt, wu]) fun i j hi hj => by
    rw [lt] at hi
    rw [wt] at hj
    rw [p2 i j (by omega) hj, q2 i j (by omega) hj]
    have e0 := h.le (i := 0) (by omega) hj
    have e1 := h.le (i := 1) (by omega) hj
    have e2 := h.le (i := i + 1) (by omega) hj
    split <;> omega
  have he : diffT (foldT t 0 1) (foldT u 0 1) = foldT (diffT t u) 0 1 := by
    refine tb_ext (d := wd t) (by rw [diff_len, lt, ld]) (fun i hi => ?_) (fun i hi => r1 i (by omega)) fun i j hi hj => ?_
    · rw [diff_len] at hi
      rw [diff_rlen _ _ hi, wt]
    · rw [diff_len, lt] at hi
      rw [diff_cell _ _ (by rw [lt]; exact hi) (by rw [wt]; exact hj), p2 i j (by omega) hj, q2 i j (by omega) hj, r2 i j (by omega) hj,
        diff_cell t u (by omega) hj, diff_cell t u (by omega) hj, diff_cell t u (by omega) hj]
      split <;> omega
  refine ⟨hd, ?_, he⟩
  have e5 : tabOk (foldT (diffT t u) 0 1) = true := by rw [← he]; exact tab_iff.2 hd.d
  rw [foldOk, tab_iff.2 h.d, diff_len]
  simp only [show (0 : Int).toNat = 0 from rfl, show (1 : Int).toNat = 1 from rfl, e5, Bool.true_and, Bool.and_true]
  simp [in3]; omega
end Go.Proofs.Ytjgohakiodcjmaa
