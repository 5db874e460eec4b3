/- Bounds of hidden cells: sums, tables that fit, cuts, paths. Mathematics alone. Bounds of hidden cells: a path's change, the search for paths. Mathematics alone. Bounds of hidden cells: the greatest and the least number. Mathematics alone. Bounds of hidden cells: a path or a cut; doubled, turned round, told, shown. Mathematics alone. Bounds of hidden cells: lists. Bounds of hidden cells: places. -/
import Derived.Lib.Hide
import Derived.Test.YtobgceebolmfcaaDoorTM2
namespace Go.Proofs.YtobgceebolmfcaaDoor
/-- The sum of f 0, .., f (n - 1). -/
def sm : Nat → (Nat → Int) → Int
  | 0, _ => 0
  | n + 1, f => sm n f + f n
theorem sm_congr {n : Nat} {f g : Nat → Int} (h : ∀ i, i < n → f i = g i) : sm n f = sm n g := by
  induction n with
  | zero => rfl
  | succ n ih => rw [sm, sm, ih fun i hi => h i (by omega), h n (by omega)]
theorem sm_zero (n : Nat) : sm n (fun _ => 0) = 0 := by
  induction n with
  | zero => rfl
  | succ n ih => rw [sm, ih]; rfl
theorem sm_add (n : Nat) (f g : Nat → Int) : sm n (fun i => f i + g i) = sm n f + sm n g := by
  induction n with
  | zero => rfl
  | succ n ih => simp only [sm, ih]; omega
theorem sm_sub (n : Nat) (f g : Nat → Int) : sm n (fun i => f i - g i) = sm n f - sm n g := by
  induction n with
  | zero => rfl
  | succ n ih => simp only [sm, ih]; omega
theorem sm_neg (n : Nat) (f : Nat → Int) : sm n (fun i => - f i) = - sm n f := by
  induction n with
  | zero => rfl
  | succ n ih => simp only [sm, ih]; omega
theorem sm_mul (n : Nat) (c : Int) (f : Nat → Int) : sm n (fun i => c * f i) = c * sm n f := by
  induction n with
  | zero => simp [sm]
  | succ n ih => simp only [sm, ih, Int.mul_add]
theorem sm_swap (n m : Nat) (f : Nat → Nat → Int) : sm n (fun i => sm m (f i)) = sm m (fun j => sm n fun i => f i j) := by
  induction n with
  | zero => simp only [sm]; exact (sm_zero m).symm
  | succ n ih => simp only [sm]; rw [ih, sm_add]
theorem sm_pos {n : Nat} {f : Nat → Int} (h : ∀ i, i < n → 0 ≤ f i) : 0 ≤ sm n f := by
  induction n with
  | zero => simp [sm]
  | succ n ih => have := ih fun i hi => h i (by omega); have := h n (by omega); simp only [sm]; omega
theorem sm_le {n : Nat} {f g : Nat → Int} (h : ∀ i, i < n → f i ≤ g i) : sm n f ≤ sm n g := by
  induction n with
  | zero => simp [sm]
  | succ n ih => have := ih fun i hi => h i (by omega); have := h n (by omega); simp only [sm]; omega
/-- One of them, if no other is negative. -/
theorem sm_one {n : Nat} {f : Nat → Int} {a : Nat} (ha : a < n) (h : ∀ i, i < n → i ≠ a → 0 ≤ f i) : f a ≤ sm n f := by
  induction n with
  | zero => omega
  | succ n ih =>
    simp only [sm]
    by_cases e : a = n
    · subst e
      have := sm_pos (n := a) (f := f) fun i hi => h i (by omega) (by omega)
      omega
    · have h1 := ih (by omega) fun i hi hn => h i (by omega) hn
      have h2 := h n (by omega) (fun e2 => e e2.symm)
      omega
/-- Two of them. -/
theorem sm_two {n : Nat} {f : Nat → Int} {a b : Nat} (ha : a < n) (hb : b < n) (hab : a ≠ b) (h : ∀ i, i < n → 0 ≤ f i) : f a + f b ≤ sm n f := by
  have h1 := sm_one (n := n) (f := fun i => if i = b then 0 else f i) ha fun i hi _ => by
    by_cases e : i = b
    · simp [e]
    · simp only [e, if_false]; exact h i hi
  have h2 := sm_one (n := n) (f := fun i => if i = b then f i else 0) hb fun i hi hn => by simp [hn]
  have e : sm n f = sm n (fun i => if i = b then 0 else f i) + sm n (fun i => if i = b then f i else 0) := by
    rw [← sm_add]; exact sm_congr fun i _ => by by_cases e : i = b <;> simp [e]
  simp only [hab, if_false, if_true] at h1 h2
  omega
theorem sm_at {n a : Nat} (ha : a < n) (f : Nat → Int) (x : Int) : sm n (fun i => if i = a then f i + x else f i) = sm n f + x := by
  induction n with
  | zero => omega
  | succ n ih =>
    simp only [sm]
    by_cases e : n = a
    · subst e
      rw [if_pos rfl, sm_congr (g := f) fun i hi => if_neg (by omega)]; omega
    · rw [if_neg e, ih (by omega)]; omega
/-- There is one that is positive. -/
theorem sm_some {n : Nat} {f : Nat → Int} (h : 0 < sm n f) : ∃ i, i < n ∧ 0 < f i := by
  refine Classical.byContradiction fun hn => ?_
  have h0 : sm n f ≤ sm n (fun _ => 0) := sm_le fun i hi => by
    refine Classical.byContradiction fun h2 => hn ⟨i, hi, by omega⟩
  rw [sm_zero] at h0; omega
abbrev Tf := Nat → Nat → Int
/-- y has x's sums, and its cells outside h. -/
structure FitF (q d : Nat) (h : Nat → Nat → Bool) (x y : Tf) : Prop where
  pos : ∀ k l, k < q → l < d → 0 ≤ y k l
  row : ∀ k, k < q → sm d (y k) = sm d (x k)
  col : ∀ l, l < d → sm q (fun k => y k l) = sm q (fun k => x k l)
  off : ∀ k l, k < q → l < d → h k l = false → y k l = x k l
section
variable {q d : Nat} {h : Nat → Nat → Bool} {x y z : Tf}
theorem FitF.refl (hx : ∀ k l, k < q → l < d → 0 ≤ x k l) : FitF q d h x x := ⟨hx, fun _ _ => rfl, fun _ _ => rfl, fun _ _ _ _ _ => rfl⟩
theorem FitF.trans (a : FitF q d h x y) (b : FitF q d h y z) : FitF q d h x z :=
  ⟨b.pos, fun k hk => (b.row k hk).trans (a.row k hk), fun l hl => (b.col l hl).trans (a.col l hl), fun k l hk hl e => (b.off k l hk hl e).trans (a.off k l hk hl e)⟩
theorem FitF.symm (a : FitF q d h x y) (hx : ∀ k l, k < q → l < d → 0 ≤ x k l) : FitF q d h y x :=
  ⟨hx, fun k hk => (a.row k hk).symm, fun l hl => (a.col l hl).symm, fun k l hk hl e => (a.off k l hk hl e).symm⟩
theorem FitF.more {h' : Nat → Nat → Bool} (a : FitF q d h x y) (hh : ∀ k l, k < q → l < d → h' k l = false → h k l = false) : FitF q d h' x y :=
  ⟨a.pos, a.row, a.col, fun k l hk hl e => a.off k l hk hl (hh k l hk hl e)⟩
theorem FitF.turn (a : FitF q d h x y) : FitF d q (fun l k => h k l) (fun l k => x k l) (fun l k => y k l) :=
  ⟨fun l k hl hk => a.pos k l hk hl, a.col, a.row, fun l k hl hk e => a.off k l hk hl e⟩
/-- All cells but (i, j) are not negative, and the sum of all is 0. -/
theorem cell_le {E : Tf} {i j : Nat} (hi : i < q) (hj : j < d) (h0 : ∀ k l, k < q → l < d → (k ≠ i ∨ l ≠ j) → 0 ≤ E k l) (hs : sm q (fun k => sm d (E k)) = 0) : E i j ≤ 0 := by
  have h1 : E i j ≤ sm d (E i) := sm_one hj fun l hl hn => h0 i l hi hl (.inr hn)
  have h2 : sm d (E i) ≤ sm q (fun k => sm d (E k)) := sm_one (f := fun k => sm d (E k)) hi fun k hk hn => sm_pos fun l hl => h0 k l hk hl (.inl hn)
  omega
/-- What flows out of rows R and columns C is 0. -/
theorem flow_zero (hy : FitF q d h x y) (R C : Nat → Bool) :
    sm q (fun k => sm d fun l => (if R k = true then y k l - x k l else 0) - (if C l = true then y k l - x k l else 0)) = 0 := by
  have e : ∀ k, sm d (fun l => (if R k = true then y k l - x k l else 0) - (if C l = true then y k l - x k l else 0)) = sm d (fun l => if R k = true then y k l - x k l else 0) - sm d (fun l => if C l = true then y k l - x k l else 0) := fun k => sm_sub _ _ _
  rw [sm_congr fun k _ => e k, sm_sub]
  have h1 : sm q (fun k => sm d fun l => if R k = true then y k l - x k l else 0) = 0 := by
    refine (sm_congr (g := fun _ => 0) fun k hk => ?_).trans (sm_zero q)
    by_cases r : R k = true
    · simp only [r, if_true]
      have e2 : sm d (fun l => y k l - x k l) = sm d (y k) - sm d (x k) := sm_sub _ _ _
      rw [e2, hy.row k hk]; omega
    · simp [r, sm_zero]
  have h2 : sm q (fun k => sm d fun l => if C l = true then y k l - x k l else 0) = 0 := by
    rw [sm_swap q d fun k l => if C l = true then y k l - x k l else 0]
    refine (sm_congr (g := fun _ => 0) fun l hl => ?_).trans (sm_zero d)
    by_cases r : C l = true
    · simp only [r, if_true]
      have e2 : sm q (fun k => y k l - x k l) = sm q (fun k => y k l) - sm q (fun k => x k l) := sm_sub _ _ _
      rw [e2, hy.col l hl]; omega
    · simp [r, sm_zero]
  rw [h1, h2]; rfl
/-- Nobody goes higher than a table from which no path leads on. -/
theorem cut_high (hy : FitF q d h x y) {i j : Nat} (hi : i < q) (hj : j < d) (hx : ∀ k l, k < q → l < d → 0 ≤ x k l) (R C : Nat → Bool) (hiR : R i = true) (hjC : C j = false)
    (c1 : ∀ k l, k < q → l < d → R k = true → h k l = true → 0 < x k l → (k ≠ i ∨ l ≠ j) → C l = true) (c2 : ∀ k l, k < q → l < d → C l = true → h k l = true → R k = true) : y i j ≤ x i j := by
  have hz := cell_le hi hj (E := fun k l => (if R k = true then y k l - x k l else 0) - (if C l = true then y k l - x k l else 0)) (fun k l hk hl hn => ?_) (flow_zero hy R C)
  · simp only [hiR, if_true, hjC] at hz
    simp at hz; omega
  · by_cases r : R k = true <;> by_cases c : C l = true
    · simp [r, c]
    · have hp := hy.pos k l hk hl
      by_cases m : h k l = true
      · by_cases p : 0 < x k l
        · exact absurd (c1 k l hk hl r m p hn) c
        · have := hx k l hk hl; simp [r, c]; omega
      · have := hy.off k l hk hl (by simpa using m); simp [r, c]; omega
    · by_cases m : h k l = true
      · exact absurd (c2 k l hk hl c m) r
      · have := hy.off k l hk hl (by simpa using m); simp [r, c]; omega
    · simp [r, c]
theorem cut_low (hy : FitF q d h x y) {i j : Nat} (hi : i < q) (hj : j < d) (hx : ∀ k l, k < q → l < d → 0 ≤ x k l) (R C : Nat → Bool) (hiR : R i = true) (hjC : C j = false)
    (c1 : ∀ k l, k < q → l < d → R k = true → h k l = true → (k ≠ i ∨ l ≠ j) → C l = true) (c2 : ∀ k l, k < q → l < d → C l = true → h k l = true → 0 < x k l → R k = true) : x i j ≤ y i j := by
  have hs : sm q (fun k => sm d fun l => -((if R k = true then y k l - x k l else 0) - (if C l = true then y k l - x k l else 0))) = 0 := by
    have e : ∀ k, sm d (fun l => -((if R k = true then y k l - x k l else 0) - (if C l = true then y k l - x k l else 0))) = - sm d (fun l => (if R k = true then y k l - x k l else 0) - (if C l = true then y k l - x k l else 0)) := fun k => sm_neg _ _
    rw [sm_congr fun k _ => e k, sm_neg, flow_zero hy R C]; rfl
  have hz := cell_le hi hj (E := fun k l => -((if R k = true then y k l - x k l else 0) - (if C l = true then y k l - x k l else 0))) (fun k l hk hl hn => ?_) hs
  · simp only [hiR, if_true, hjC] at hz
    simp at hz; omega
  · by_cases r : R k = true <;> by_cases c : C l = true
    · simp [r, c]
    · by_cases m : h k l = true
      · exact absurd (c1 k l hk hl r m hn) c
      · have := hy.off k l hk hl (by simpa using m); simp [r, c]; omega
    · have hp := hy.pos k l hk hl
      by_cases m : h k l = true
      · by_cases p : 0 < x k l
        · exact absurd (c2 k l hk hl c m p) r
        · have := hx k l hk hl; simp [r, c]; omega
      · have := hy.off k l hk hl (by simpa using m); simp [r, c]; omega
    · simp [r, c]
end
end Go.Proofs.YtobgceebolmfcaaDoor
namespace Go.Proofs.YtobgceebolmfcaaDoor
/-- One cell changed by e. -/
def up1 (y : Tf) (k l : Nat) (e : Int) : Tf := fun a b => if a = k ∧ b = l then y a b + e else y a b
section
variable {q d : Nat} {h : Nat → Nat → Bool} {x y z : Tf} {k l i j : Nat} {e s : Int}
theorem up1_at (y : Tf) (k l : Nat) (e : Int) : up1 y k l e k l = y k l + e := by simp [up1]
theorem up1_ne (y : Tf) {k l a b : Nat} (e : Int) (hn : a ≠ k ∨ b ≠ l) : up1 y k l e a b = y a b := by
  unfold up1; rw [if_neg fun hh => by rcases hn with hn | hn; exact hn hh.1; exact hn hh.2]
theorem up1_row (hl : l < d) : sm d (up1 y k l e k) = sm d (y k) + e := by
  rw [← sm_at hl]; exact sm_congr fun b _ => by simp [up1]
theorem up1_row' {a : Nat} (ha : a ≠ k) : sm d (up1 y k l e a) = sm d (y a) := sm_congr fun _ _ => up1_ne y e (.inl ha)
theorem up1_col (hk : k < q) : sm q (fun a => up1 y k l e a l) = sm q (fun a => y a l) + e := by
  rw [← sm_at hk]; exact sm_congr fun b _ => by simp [up1]
theorem up1_col' {b : Nat} (hb : b ≠ l) : sm q (fun a => up1 y k l e a b) = sm q (fun a => y a b) := sm_congr fun _ _ => up1_ne y e (.inr hb)
/-- On the way back along a path: the place 'p' is out of balance; no cell between places up to p has been touched but (i, j). -/
structure Mid (q d : Nat) (h : Nat → Nat → Bool) (x : Tf) (i j : Nat) (s : Int) (ord : Nat → Nat) (p : Nat) (y : Tf) : Prop where
  pos : ∀ k l, k < q → l < d → 0 ≤ y k l
  off : ∀ k l, k < q → l < d → h k l = false → y k l = x k l
  row : ∀ k, k < q → sm d (y k) = sm d (x k) + (if k = i then s else 0) - (if p = k then s else 0)
  col : ∀ l, l < d → sm q (fun k => y k l) = sm q (fun k => x k l) + (if p = q + l then s else 0)
  same : ∀ k l, k < q → l < d → (k ≠ i ∨ l ≠ j) → ord k ≤ ord p → ord (q + l) ≤ ord p → y k l = x k l
  own : y i j = x i j + s
variable {ord : Nat → Nat} {p : Nat}
theorem mid_start (hx : ∀ k l, k < q → l < d → 0 ≤ x k l) (hi : i < q) (hj : j < d) (hh : h i j = true) (h0 : 0 ≤ x i j + s) : Mid q d h x i j s ord (q + j) (up1 x i j s) := by
  refine ⟨fun k l hk hl => ?_, fun k l hk hl hf => ?_, fun k hk => ?_, fun l hl => ?_, fun k l hk hl hn _ _ => up1_ne x s hn, up1_at x i j s⟩
  · by_cases e : k = i ∧ l = j
    · obtain ⟨rfl, rfl⟩ := e; rw [up1_at]; exact h0
    · rw [up1_ne x s (by omega)]; exact hx k l hk hl
  · refine up1_ne x s ?_
    by_cases e : k = i ∧ l = j
    · obtain ⟨rfl, rfl⟩ := e; rw [hh] at hf; cases hf
    · omega
  · rw [if_neg (show ¬ q + j = k by omega)]
    by_cases e : k = i
    · subst e; rw [up1_row hj, if_pos rfl]; omega
    · rw [up1_row' e, if_neg e]; omega
  · by_cases e : l = j
    · subst e; rw [up1_col hi, if_pos rfl]
    · rw [up1_col' e, if_neg (by omega)]; omega
theorem mid_col (m : Mid q d h x i j s ord (q + l) y) (hk : k < q) (hl : l < d) (hn : k ≠ i ∨ l ≠ j) (hh : h k l = true) (ho : ord k < ord (q + l)) (h0 : 0 ≤ x k l - s) : Mid q d h x i j s ord k (up1 y k l (-s)) := by
  have hxy : y k l = x k l := m.same k l hk hl hn (Nat.le_of_lt ho) (Nat.le_refl _)
  refine ⟨fun a b ha hb => ?_, fun a b ha hb hf => ?_, fun a ha => ?_, fun b hb => ?_, fun a b ha hb hn2 h1 h2 => ?_, ?_⟩
  · by_cases e : a = k ∧ b = l
    · obtain ⟨rfl, rfl⟩ := e; rw [up1_at, hxy]; omega
    · rw [up1_ne y _ (by omega)]; exact m.pos a b ha hb
  · by_cases e : a = k ∧ b = l
    · obtain ⟨rfl, rfl⟩ := e; rw [hh] at hf; cases hf
    · rw [up1_ne y _ (by omega)]; exact m.off a b ha hb hf
  · have h1 := m.row a ha
    rw [if_neg (show ¬ q + l = a by omega)] at h1
    by_cases e : a = k
    · subst e; rw [up1_row hl, h1, if_pos (rfl : a = a)]; omega
    · rw [up1_row' e, h1, if_neg (show ¬ k = a by omega)]
  · have h1 := m.col b hb
    rw [if_neg (show ¬ k = q + b by omega)]
    by_cases e : b = l
    · subst e; rw [up1_col hk, h1, if_pos rfl]; omega
    · rw [up1_col' e, h1, if_neg (show ¬ q + l = q + b by omega)]
  · by_cases e : a = k ∧ b = l
    · obtain ⟨rfl, rfl⟩ := e; omega
    · rw [up1_ne y _ (by omega)]; exact m.same a b ha hb hn2 (by omega) (by omega)
  · rw [up1_ne y _ (by omega)]; exact m.own
theorem mid_row (m : Mid q d h x i j s ord k y) (hk : k < q) (hl : l < d) (hn : k ≠ i) (hh : h k l = true) (ho : ord (q + l) < ord k) (h0 : 0 ≤ x k l + s) : Mid q d h x i j s ord (q + l) (up1 y k l s) := by
  have hxy : y k l = x k l := m.same k l hk hl (.inl hn) (Nat.le_refl _) (Nat.le_of_lt ho)
  refine ⟨fun a b ha hb => ?_, fun a b ha hb hf => ?_, fun a ha => ?_, fun b hb => ?_, fun a b ha hb hn2 h1 h2 => ?_, ?_⟩
  · by_cases e : a = k ∧ b = l
    · obtain ⟨rfl, rfl⟩ := e; rw [up1_at, hxy]; omega
    · rw [up1_ne y _ (by omega)]; exact m.pos a b ha hb
  · by_cases e : a = k ∧ b = l
    · obtain ⟨rfl, rfl⟩ := e; rw [hh] at hf; cases hf
    · rw [up1_ne y _ (by omega)]; exact m.off a b ha hb hf
  · have h1 := m.row a ha
    rw [if_neg (show ¬ q + l = a by omega)]
    by_cases e : a = k
    · subst e; rw [up1_row hl, h1, if_pos (rfl : a = a), if_neg hn]; omega
    · rw [up1_row' e, h1, if_neg (show ¬ k = a by omega)]
  · have h1 := m.col b hb
    rw [if_neg (show ¬ k = q + b by omega)] at h1
    by_cases e : b = l
    · subst e; rw [up1_col hk, h1, if_pos rfl]; omega
    · rw [up1_col' e, h1, if_neg (show ¬ q + l = q + b by omega)]
  · by_cases e : a = k ∧ b = l
    · obtain ⟨rfl, rfl⟩ := e; omega
    · rw [up1_ne y _ (by omega)]; exact m.same a b ha hb hn2 (by omega) (by omega)
  · rw [up1_ne y _ (by omega)]; exact m.own
theorem mid_end (m : Mid q d h x i j s ord i y) (hi : i < q) : FitF q d h x y := by
  refine ⟨m.pos, fun k hk => ?_, fun l hl => ?_, m.off⟩
  · have h1 := m.row k hk
    by_cases e : k = i
    · subst e; simp only [if_true] at h1; omega
    · rw [if_neg e, if_neg (fun e2 => e e2.symm)] at h1; omega
  · have h1 := m.col l hl
    rw [if_neg (show ¬ i = q + l by omega)] at h1; omega
end
/-- The number of those that are not negative. -/
def cntP (l : List Int) : Nat := (l.filter fun x => decide (0 ≤ x)).length
theorem cntP_le (l : List Int) : cntP l ≤ l.length := List.length_filter_le ..
theorem cntP_set : ∀ (l : List Int) (n : Nat) (v : Int), n < l.length → l.getD n (-1) < 0 → 0 ≤ v → cntP (l.set n v) = cntP l + 1
  | [], n, v, hn, _, _ => by simp at hn
  | a :: l, 0, v, _, h0, hv => by
    have h0' : ¬ 0 ≤ a := by have : a < 0 := h0; omega
    simp [cntP, hv, h0']
  | a :: l, n + 1, v, hn, h0, hv => by
    have ih := cntP_set l n v (by simpa using hn) (by simpa using h0) hv
    unfold cntP at ih ⊢
    by_cases e : 0 ≤ a
    · simp [e, ih]
    · simp [e, ih]
/-- A search from i that has found 'work', in the order 'ord', each but i from its parent. -/
structure Bfs (many : Nat) (op : Nat → Nat → Bool) (i : Nat) (par : List Int) (work : List Nat) (ord : Nat → Nat) : Prop where
  plen : par.length = many
  w0 : i ∈ work
  wlt : ∀ p ∈ work, p < many
  mem : ∀ p, p < many → 0 ≤ par.getD p (-1) → p ∈ work
  root : par.getD i (-1) = (i : Int)
  old : ∀ p ∈ work, p ≠ i → ∃ p', p' ∈ work ∧ par.getD p (-1) = (p' : Int) ∧ op p' p = true ∧ ord p' < ord p
  olt : ∀ p ∈ work, ord p < work.length
  cnt : work.length = cntP par
section
variable {many : Nat} {op : Nat → Nat → Bool} {i : Nat} {par : List Int} {work : List Nat} {ord : Nat → Nat}
theorem Bfs.in_ (b : Bfs many op i par work ord) {p : Nat} (hp : p ∈ work) : 0 ≤ par.getD p (-1) := by
  by_cases e : p = i
  · rw [e, b.root]; omega
  · obtain ⟨p', _, h2, _⟩ := b.old p hp e
    rw [h2]; omega
theorem Bfs.le (b : Bfs many op i par work ord) : work.length ≤ many := by rw [b.cnt, ← b.plen]; exact cntP_le par
theorem getD_set_eq {l : List Int} {n : Nat} {v : Int} (h : n < l.length) : (l.set n v).getD n (-1) = v := by
  rw [List.getD_eq_getElem?_getD, List.getElem?_set_self h]; rfl
theorem getD_set_ne' {l : List Int} {n m : Nat} {v : Int} (h : n ≠ m) : (l.set n v).getD m (-1) = l.getD m (-1) := by
  rw [List.getD_eq_getElem?_getD, List.getElem?_set_ne h, List.getD_eq_getElem?_getD]
theorem cntP_neg (n : Nat) : cntP (List.replicate n (-1)) = 0 := by
  unfold cntP
  rw [List.filter_eq_nil_iff.2 fun x hx => by rw [List.eq_of_mem_replicate hx]; simp]; rfl
theorem bfs_start (hi : i < many) : Bfs many op i ((List.replicate many (-1)).set i (i : Int)) [i] (fun _ => 0) := by
  have hl : i < (List.replicate many (-1 : Int)).length := by simpa using hi
  have hr : ∀ p, (List.replicate many (-1 : Int)).getD p (-1) = -1 := fun p => by
    rw [List.getD_eq_getElem?_getD, List.getElem?_replicate]; split <;> rfl
  refine ⟨by simp, by simp, fun p hp => ?_, fun p hp h0 => ?_, getD_set_eq hl, fun p hp hn => ?_, fun p _ => by simp, ?_⟩
  · simp at hp; omega
  · by_cases e : i = p
    · simp [e]
    · rw [getD_set_ne' e, hr] at h0; omega
  · simp at hp; exact absurd hp hn
  · rw [cntP_set _ _ _ hl (by rw [hr]; omega) (by omega), cntP_neg]; rfl
theorem Bfs.step (b : Bfs many op i par work ord) {p to : Nat} (hp : p ∈ work) (ht : to < many) (h0 : par.getD to (-1) < 0) (ho : op p to = true) :
    Bfs many op i (par.set to (p : Int)) (work ++ [to]) (fun r => if r = to then work.length else ord r) := by
  have htw : to ∉ work := fun hh => by have := b.in_ hh; omega
  have hne : ∀ r ∈ work, r ≠ to := fun r hr e => htw (e ▸ hr)
  have hl : to < par.length := by rw [b.plen]; exact ht
  refine ⟨by rw [List.length_set]; exact b.plen, List.mem_append_left _ b.w0, fun r hr => ?_, fun r hr hr0 => ?_, ?_, fun r hr hri => ?_, fun r hr => ?_, ?_⟩
  · rcases List.mem_append.1 hr with hr | hr
    · exact b.wlt r hr
    · simp at hr; omega
  · by_cases e : to = r
    · subst e; simp
    · rw [getD_set_ne' e] at hr0; exact List.mem_append_left _ (b.mem r hr hr0)
  · rw [getD_set_ne' (fun e => hne i b.w0 e.symm)]; exact b.root
  · rcases List.mem_append.1 hr with hr | hr
    · obtain ⟨p', h1, h2, h3, h4⟩ := b.old r hr hri
      refine ⟨p', List.mem_append_left _ h1, by rw [getD_set_ne' (fun e => hne r hr e.symm)]; exact h2, h3, ?_⟩
      simp only [hne r hr, hne p' h1, if_false]; exact h4
    · simp at hr; subst hr
      refine ⟨p, List.mem_append_left _ hp, getD_set_eq hl, ho, ?_⟩
      simp only [hne p hp, if_false, if_true]; exact b.olt p hp
  · rw [List.length_append]
    rcases List.mem_append.1 hr with hr | hr
    · simp only [hne r hr, if_false]; have := b.olt r hr; simp; omega
    · simp at hr; subst hr; simp
  · rw [List.length_append, b.cnt, cntP_set _ _ _ hl h0 (by omega)]; rfl
end
/-- May a step from the place 'p' to the place 'to' change a cell (rows first, columns behind them)? -/
def pthOk (q : Nat) (h : Nat → Nat → Bool) (x : Tf) (raise : Bool) (p to : Nat) : Bool :=
  if p < q then (if to < q then false else h p (to - q) && (!raise || decide (0 < x p (to - q)))) else (if to < q then h to (p - q) && (raise || decide (0 < x to (p - q))) else false)
/-- .. but the cell (i, j), from its row to its column. -/
def pthTo (q : Nat) (h : Nat → Nat → Bool) (x : Tf) (raise : Bool) (i j : Nat) (p to : Nat) : Bool := pthOk q h x raise p to && !(decide (p = i) && decide (to = q + j))
/-- All that can be reached has been. -/
def Closed (many : Nat) (op : Nat → Nat → Bool) (par : List Int) : Prop := ∀ p to, p < many → to < many → 0 ≤ par.getD p (-1) → op p to = true → 0 ≤ par.getD to (-1)
section
variable {q d : Nat} {h : Nat → Nat → Bool} {x y : Tf} {i j : Nat} {par : List Int}
theorem closed_high (hc : Closed (q + d) (pthTo q h x true i j) par) (hi : i < q) (hj : j < d) (hx : ∀ k l, k < q → l < d → 0 ≤ x k l) (h0 : 0 ≤ par.getD i (-1)) (hn : par.getD (q + j) (-1) < 0) (hy : FitF q d h x y) : y i j ≤ x i j := by
  refine cut_high hy hi hj hx (fun k => decide (0 ≤ par.getD k (-1))) (fun l => decide (0 ≤ par.getD (q + l) (-1))) (by simpa using h0) (decide_eq_false (by omega)) (fun k l hk hl hR hh hp hne => ?_) (fun k l hk hl hC hh => ?_)
  · refine decide_eq_true (hc k (q + l) (by omega) (by omega) (by simpa using hR) ?_)
    have e : q + l - q = l := by omega
    simp only [pthTo, pthOk, hk, if_true, show ¬ q + l < q by omega, if_false, e, hh, hp, decide_true, Bool.not_true, Bool.false_or, Bool.true_and, Bool.not_eq_true']
    by_cases e1 : k = i
    · have : l ≠ j := by omega
      simp [this]
    · simp [e1]
  · refine decide_eq_true (hc (q + l) k (by omega) (by omega) (by simpa using hC) ?_)
    have e : q + l - q = l := by omega
    simp only [pthTo, pthOk, hk, if_true, show ¬ q + l < q by omega, if_false, e, hh, Bool.true_or, Bool.true_and]
    simp [show ¬ q + l = i by omega]
theorem closed_low (hc : Closed (q + d) (pthTo q h x false i j) par) (hi : i < q) (hj : j < d) (hx : ∀ k l, k < q → l < d → 0 ≤ x k l) (h0 : 0 ≤ par.getD i (-1)) (hn : par.getD (q + j) (-1) < 0) (hy : FitF q d h x y) : x i j ≤ y i j := by
  refine cut_low hy hi hj hx (fun k => decide (0 ≤ par.getD k (-1))) (fun l => decide (0 ≤ par.getD (q + l) (-1))) (by simpa using h0) (decide_eq_false (by omega)) (fun k l hk hl hR hh hne => ?_) (fun k l hk hl hC hh hp => ?_)
  · refine decide_eq_true (hc k (q + l) (by omega) (by omega) (by simpa using hR) ?_)
    have e : q + l - q = l := by omega
    simp only [pthTo, pthOk, hk, if_true, show ¬ q + l < q by omega, if_false, e, hh, Bool.not_false, Bool.true_or, Bool.true_and]
    by_cases e1 : k = i
    · have : l ≠ j := by omega
      simp [this]
    · simp [e1]
  · refine decide_eq_true (hc (q + l) k (by omega) (by omega) (by simpa using hC) ?_)
    have e : q + l - q = l := by omega
    simp only [pthTo, pthOk, hk, if_true, show ¬ q + l < q by omega, if_false, e, hh, hp, decide_true, Bool.false_or, Bool.true_and]
    simp [show ¬ q + l = i by omega]
end
end Go.Proofs.YtobgceebolmfcaaDoor
namespace Go.Proofs.YtobgceebolmfcaaDoor
/-- v is the greatest number of the cell (i, j) in all that fit. -/
def IsHi (q d : Nat) (h : Nat → Nat → Bool) (x : Tf) (i j : Nat) (v : Int) : Prop := (∃ y, FitF q d h x y ∧ y i j = v) ∧ ∀ z, FitF q d h x z → z i j ≤ v
def IsLo (q d : Nat) (h : Nat → Nat → Bool) (x : Tf) (i j : Nat) (v : Int) : Prop := (∃ y, FitF q d h x y ∧ y i j = v) ∧ ∀ z, FitF q d h x z → v ≤ z i j
def Pos (q d : Nat) (x : Tf) : Prop := ∀ k l, k < q → l < d → 0 ≤ x k l
section
variable {q d : Nat} {h h' : Nat → Nat → Bool} {x y z : Tf} {i j : Nat} {v v' : Int}
theorem IsHi.one (a : IsHi q d h x i j v) (b : IsHi q d h x i j v') : v = v' := by
  obtain ⟨⟨y, h1, h2⟩, h3⟩ := a
  obtain ⟨⟨y', k1, k2⟩, k3⟩ := b
  have := h3 y' k1; have := k3 y h1; omega
theorem IsLo.one (a : IsLo q d h x i j v) (b : IsLo q d h x i j v') : v = v' := by
  obtain ⟨⟨y, h1, h2⟩, h3⟩ := a
  obtain ⟨⟨y', k1, k2⟩, k3⟩ := b
  have := h3 y' k1; have := k3 y h1; omega
theorem cell_row (hx : Pos q d x) (hi : i < q) (hj : j < d) : x i j ≤ sm d (x i) := sm_one hj fun l hl _ => hx i l hi hl
theorem cell_col (hx : Pos q d x) (hi : i < q) (hj : j < d) : x i j ≤ sm q (fun k => x k j) := sm_one (f := fun k => x k j) hi fun k hk _ => hx k j hk hj
theorem fit_row (f : FitF q d h x y) (hi : i < q) (hj : j < d) : y i j ≤ sm d (x i) := by rw [← f.row i hi]; exact cell_row f.pos hi hj
theorem fit_col (f : FitF q d h x y) (hi : i < q) (hj : j < d) : y i j ≤ sm q (fun k => x k j) := by rw [← f.col j hj]; exact cell_col f.pos hi hj
theorem hi_from (hi : i < q) (hj : j < d) : ∀ (n : Nat) (y : Tf), FitF q d h x y → (sm d (x i) - y i j).toNat ≤ n → ∃ v, IsHi q d h x i j v
  | n, y, hy, hn => by
    by_cases e : ∃ z, FitF q d h x z ∧ y i j < z i j
    · obtain ⟨z, hz, hlt⟩ := e
      have h1 := fit_row hz hi hj
      cases n with
      | zero => omega
      | succ n => exact hi_from hi hj n z hz (by omega)
    · exact ⟨y i j, ⟨y, hy, rfl⟩, fun z hz => Classical.byContradiction fun hn2 => e ⟨z, hz, by omega⟩⟩
theorem hi_exists (hx : Pos q d x) (hi : i < q) (hj : j < d) : ∃ v, IsHi q d h x i j v := hi_from hi hj _ x (FitF.refl hx) (Nat.le_refl _)
theorem lo_from (hi : i < q) (hj : j < d) : ∀ (n : Nat) (y : Tf), FitF q d h x y → (y i j).toNat ≤ n → ∃ v, IsLo q d h x i j v
  | n, y, hy, hn => by
    by_cases e : ∃ z, FitF q d h x z ∧ z i j < y i j
    · obtain ⟨z, hz, hlt⟩ := e
      have h1 := hz.pos i j hi hj
      cases n with
      | zero => omega
      | succ n => exact lo_from hi hj n z hz (by omega)
    · exact ⟨y i j, ⟨y, hy, rfl⟩, fun z hz => Classical.byContradiction fun hn2 => e ⟨z, hz, by omega⟩⟩
theorem lo_exists (hx : Pos q d x) (hi : i < q) (hj : j < d) : ∃ v, IsLo q d h x i j v := lo_from hi hj _ x (FitF.refl hx) (Nat.le_refl _)
open scoped Classical in
/-- The greatest number, the least number. -/
noncomputable def hiV (q d : Nat) (h : Nat → Nat → Bool) (x : Tf) (i j : Nat) : Int := if e : ∃ v, IsHi q d h x i j v then Classical.choose e else 0
open scoped Classical in
noncomputable def loV (q d : Nat) (h : Nat → Nat → Bool) (x : Tf) (i j : Nat) : Int := if e : ∃ v, IsLo q d h x i j v then Classical.choose e else 0
theorem hiV_is (hx : Pos q d x) (hi : i < q) (hj : j < d) : IsHi q d h x i j (hiV q d h x i j) := by
  have e := hi_exists (h := h) hx hi hj
  unfold hiV; rw [dif_pos e]; exact Classical.choose_spec e
theorem loV_is (hx : Pos q d x) (hi : i < q) (hj : j < d) : IsLo q d h x i j (loV q d h x i j) := by
  have e := lo_exists (h := h) hx hi hj
  unfold loV; rw [dif_pos e]; exact Classical.choose_spec e
/-- A cell that is not hidden. -/
theorem IsHi.shown (hx : Pos q d x) (hi : i < q) (hj : j < d) (hh : h i j = false) : IsHi q d h x i j (x i j) := ⟨⟨x, FitF.refl hx, rfl⟩, fun z hz => by rw [hz.off i j hi hj hh]; omega⟩
theorem IsLo.shown (hx : Pos q d x) (hi : i < q) (hj : j < d) (hh : h i j = false) : IsLo q d h x i j (x i j) := ⟨⟨x, FitF.refl hx, rfl⟩, fun z hz => by rw [hz.off i j hi hj hh]; omega⟩
theorem IsHi.ge (a : IsHi q d h x i j v) (hx : Pos q d x) : x i j ≤ v := a.2 x (FitF.refl hx)
theorem IsLo.le (a : IsLo q d h x i j v) (hx : Pos q d x) : v ≤ x i j := a.2 x (FitF.refl hx)
theorem IsHi.pos (a : IsHi q d h x i j v) (hi : i < q) (hj : j < d) : 0 ≤ v := by obtain ⟨⟨y, h1, h2⟩, _⟩ := a; rw [← h2]; exact h1.pos i j hi hj
theorem IsLo.pos (a : IsLo q d h x i j v) (hi : i < q) (hj : j < d) : 0 ≤ v := by obtain ⟨⟨y, h1, h2⟩, _⟩ := a; rw [← h2]; exact h1.pos i j hi hj
/-- P120: tables that fit have the same bounds. -/
theorem IsHi.same (a : IsHi q d h x i j v) (f : FitF q d h x y) (hx : Pos q d x) : IsHi q d h y i j v := by
  obtain ⟨⟨z, h1, h2⟩, h3⟩ := a
  exact ⟨⟨z, (f.symm hx).trans h1, h2⟩, fun w hw => h3 w (f.trans hw)⟩
theorem IsLo.same (a : IsLo q d h x i j v) (f : FitF q d h x y) (hx : Pos q d x) : IsLo q d h y i j v := by
  obtain ⟨⟨z, h1, h2⟩, h3⟩ := a
  exact ⟨⟨z, (f.symm hx).trans h1, h2⟩, fun w hw => h3 w (f.trans hw)⟩
/-- P123: hiding more widens. -/
theorem IsHi.more (a : IsHi q d h x i j v) (b : IsHi q d h' x i j v') (hh : ∀ k l, k < q → l < d → h' k l = false → h k l = false) : v ≤ v' := by
  obtain ⟨⟨z, h1, h2⟩, _⟩ := a
  rw [← h2]; exact b.2 z (h1.more hh)
theorem IsLo.more (a : IsLo q d h x i j v) (b : IsLo q d h' x i j v') (hh : ∀ k l, k < q → l < d → h' k l = false → h k l = false) : v' ≤ v := by
  obtain ⟨⟨z, h1, h2⟩, _⟩ := a
  rw [← h2]; exact b.2 z (h1.more hh)
/-- P124: bounds turn. -/
theorem IsHi.turn (a : IsHi q d h x i j v) : IsHi d q (fun l k => h k l) (fun l k => x k l) j i v := by
  obtain ⟨⟨z, h1, h2⟩, h3⟩ := a
  exact ⟨⟨fun l k => z k l, h1.turn, h2⟩, fun w hw => h3 (fun k l => w l k) hw.turn⟩
theorem IsLo.turn (a : IsLo q d h x i j v) : IsLo d q (fun l k => h k l) (fun l k => x k l) j i v := by
  obtain ⟨⟨z, h1, h2⟩, h3⟩ := a
  exact ⟨⟨fun l k => z k l, h1.turn, h2⟩, fun w hw => h3 (fun k l => w l k) hw.turn⟩
/-- A rectangle's change. -/
def rctF (y : Tf) (i j k l : Nat) (e : Int) : Tf := up1 (up1 (up1 (up1 y i j e) i l (-e)) k j (-e)) k l e
theorem rctF_at {k l : Nat} (hk : k ≠ i) (hl : l ≠ j) (y : Tf) (e : Int) : rctF y i j k l e i j = y i j + e := by
  unfold rctF
  rw [up1_ne _ _ (by omega), up1_ne _ _ (by omega), up1_ne _ _ (by omega), up1_at]
theorem rctF_fit {k l : Nat} (hi : i < q) (hj : j < d) (hk : k < q) (hl : l < d) (hki : k ≠ i) (hlj : l ≠ j) (f : FitF q d h x y) (e : Int) (m1 : h i j = true) (m2 : h i l = true) (m3 : h k j = true) (m4 : h k l = true)
    (p1 : 0 ≤ y i j + e) (p2 : 0 ≤ y i l - e) (p3 : 0 ≤ y k j - e) (p4 : 0 ≤ y k l + e) : FitF q d h x (rctF y i j k l e) := by
  have hc : ∀ a b, rctF y i j k l e a b = if a = i ∧ b = j then y a b + e else if a = i ∧ b = l then y a b - e else if a = k ∧ b = j then y a b - e else if a = k ∧ b = l then y a b + e else y a b := by
    intro a b
    unfold rctF up1
    by_cases ai : a = i
    · subst ai
      by_cases bj : b = j
      · subst bj; simp [Ne.symm hki, Ne.symm hlj]
      · by_cases bl : b = l
        · subst bl; simp [Ne.symm hki, bj]; omega
        · simp [Ne.symm hki, bj, bl]
    · by_cases ak : a = k
      · subst ak
        by_cases bj : b = j
        · subst bj; simp [ai, Ne.symm hlj]; omega
        · by_cases bl : b = l
          · subst bl; simp [ai, bj]
          · simp [ai, bj, bl]
      · simp [ai, ak]
  refine ⟨fun a b ha hb => ?_, fun a ha => ?_, fun b hb => ?_, fun a b ha hb hf => ?_⟩
  · rw [hc]
    split
    · next e1 => obtain ⟨rfl, rfl⟩ := e1; exact p1
    · split
      · next e1 => obtain ⟨rfl, rfl⟩ := e1; exact p2
      · split
        · next e1 => obtain ⟨rfl, rfl⟩ := e1; exact p3
        · split
          · next e1 => obtain ⟨rfl, rfl⟩ := e1; exact p4
          · exact f.pos a b ha hb
  · rw [← f.row a ha]
    unfold rctF
    by_cases ai : a = i
    · subst ai
      rw [up1_row' (Ne.symm hki), up1_row' (Ne.symm hki), up1_row hl, up1_row hj]; omega
    · by_cases ak : a = k
      · subst ak
        rw [up1_row hl, up1_row hj, up1_row' ai, up1_row' ai]; omega
      · rw [up1_row' ak, up1_row' ak, up1_row' ai, up1_row' ai]
  · rw [← f.col b hb]
    unfold rctF
    by_cases bj : b = j
    · subst bj
      rw [up1_col' (Ne.symm hlj), up1_col hk, up1_col' (Ne.symm hlj), up1_col hi]; omega
    · by_cases bl : b = l
      · subst bl
        rw [up1_col hk, up1_col' bj, up1_col hi, up1_col' bj]; omega
      · rw [up1_col' bl, up1_col' bj, up1_col' bl, up1_col' bj]
  · rw [← f.off a b ha hb hf, hc]
    have n1 : ∀ {u v : Nat}, h u v = true → ¬ (a = u ∧ b = v) := fun m e1 => by obtain ⟨rfl, rfl⟩ := e1; rw [m] at hf; cases hf
    rw [if_neg (n1 m1), if_neg (n1 m2), if_neg (n1 m3), if_neg (n1 m4)]
/-- P138: a hidden cell moves by rectangles. -/
theorem IsHi.step (a : IsHi q d h x i j v) (hx : Pos q d x) {k l : Nat} (hi : i < q) (hj : j < d) (hk : k < q) (hl : l < d) (hki : k ≠ i) (hlj : l ≠ j) (m1 : h i j = true) (m2 : h i l = true) (m3 : h k j = true) (m4 : h k l = true) :
    x i j + min (x i l) (x k j) ≤ v := by
  have p1 := hx i j hi hj; have p2 := hx i l hi hl; have p3 := hx k j hk hj; have p4 := hx k l hk hl
  have := a.2 _ (rctF_fit hi hj hk hl hki hlj (FitF.refl hx) (min (x i l) (x k j)) m1 m2 m3 m4 (by omega) (by omega) (by omega) (by omega))
  rw [rctF_at hki hlj] at this; exact this
/-- All but one. -/
theorem sm_but {n a : Nat} (ha : a < n) (f : Nat → Int) : sm n f = f a + sm n (fun b => if b = a then 0 else f b) := by
  have e := sm_at ha (fun b => if b = a then 0 else f b) (f a)
  have e2 : sm n f = sm n (fun b => if b = a then (if b = a then 0 else f b) + f a else if b = a then 0 else f b) := sm_congr fun b _ => by by_cases e : b = a <;> simp [e]
  rw [e2, e]; omega
/-- P121: if all is hidden. -/
theorem IsHi.all (a : IsHi q d h x i j v) (hi : i < q) (hj : j < d) (hh : ∀ k l, k < q → l < d → h k l = true) : v = min (sm d (x i)) (sm q fun k => x k j) := by
  obtain ⟨⟨z, h1, h2⟩, h3⟩ := a
  have b1 := fit_row h1 hi hj
  have b2 := fit_col h1 hi hj
  refine Classical.byContradiction fun hn => ?_
  have l1 : z i j < sm d (x i) := by omega
  have l2 : z i j < sm q (fun k => x k j) := by omega
  rw [← h1.row i hi, sm_but hj (z i)] at l1
  rw [← h1.col j hj, sm_but hi fun k => z k j] at l2
  obtain ⟨l, hl, e1⟩ := sm_some (n := d) (f := fun b => if b = j then 0 else z i b) (by omega)
  obtain ⟨k, hk, e2⟩ := sm_some (n := q) (f := fun b => if b = i then 0 else z b j) (by omega)
  by_cases e3 : l = j
  · simp [e3] at e1
  by_cases e4 : k = i
  · simp [e4] at e2
  simp only [e3, if_false] at e1
  simp only [e4, if_false] at e2
  have p1 := h1.pos i j hi hj; have p4 := h1.pos k l hk hl
  have := h3 _ (rctF_fit hi hj hk hl e4 e3 h1 1 (hh _ _ hi hj) (hh _ _ hi hl) (hh _ _ hk hj) (hh _ _ hk hl) (by omega) (by omega) (by omega) (by omega))
  rw [rctF_at e4 e3] at this; omega
/-- All of a table: a cell's row, the rest of its column, what is in neither. -/
theorem sm_cross (hi : i < q) (hj : j < d) (z : Tf) : sm q (fun k => sm d (z k)) = sm d (z i) + sm q (fun k => z k j) - z i j + sm q (fun k => if k = i then 0 else sm d fun l => if l = j then 0 else z k l) := by
  have e1 : sm q (fun k => sm d (z k)) = sm q (fun k => z k j) + sm q (fun k => sm d fun l => if l = j then 0 else z k l) := by
    rw [← sm_add]; exact sm_congr fun k _ => sm_but hj (z k)
  rw [e1, sm_but hi fun k => sm d fun l => if l = j then 0 else z k l, sm_but hj (z i)]
  omega
/-- P122: what is left. -/
theorem IsLo.all (a : IsLo q d h x i j v) (hi : i < q) (hj : j < d) (hh : ∀ k l, k < q → l < d → h k l = true) : v = max 0 (sm d (x i) + (sm q fun k => x k j) - sm q fun k => sm d (x k)) := by
  obtain ⟨⟨z, h1, h2⟩, h3⟩ := a
  have p0 := h1.pos i j hi hj
  have ec := sm_cross hi hj z
  have et : sm q (fun k => sm d (z k)) = sm q (fun k => sm d (x k)) := sm_congr fun k hk => h1.row k hk
  rw [h1.row i hi, h1.col j hj, et] at ec
  have hr : 0 ≤ sm q (fun k => if k = i then 0 else sm d fun l => if l = j then 0 else z k l) := sm_pos fun k hk => by
    by_cases e : k = i
    · simp [e]
    · simp only [e, if_false]
      exact sm_pos fun l hl => by
        by_cases e2 : l = j
        · simp [e2]
        · simp only [e2, if_false]; exact h1.pos k l hk hl
  refine Classical.byContradiction fun hn => ?_
  have l1 : 0 < z i j := by omega
  obtain ⟨k, hk, e1⟩ := sm_some (n := q) (f := fun k => if k = i then 0 else sm d fun l => if l = j then 0 else z k l) (by omega)
  by_cases e4 : k = i
  · simp [e4] at e1
  simp only [e4, if_false] at e1
  obtain ⟨l, hl, e2⟩ := sm_some e1
  by_cases e3 : l = j
  · simp [e3] at e2
  simp only [e3, if_false] at e2
  have p2 := h1.pos i l hi hl; have p3 := h1.pos k j hk hj
  have := h3 _ (rctF_fit hi hj hk hl e4 e3 h1 (-1) (hh _ _ hi hj) (hh _ _ hi hl) (hh _ _ hk hj) (hh _ _ hk hl) (by omega) (by omega) (by omega) (by omega))
  rw [rctF_at e4 e3] at this; omega
/-- A row whose other cells are as they were. -/
theorem row_alone (f : FitF q d h x y) (hi : i < q) (hj : j < d) (hs : ∀ l, l < d → l ≠ j → h i l = false) : y i j = x i j := by
  have e1 := f.row i hi
  rw [sm_but hj (y i), sm_but hj (x i)] at e1
  have e2 : sm d (fun b => if b = j then 0 else y i b) = sm d (fun b => if b = j then 0 else x i b) := sm_congr fun b hb => by
    by_cases e : b = j
    · simp [e]
    · simp only [e, if_false]; exact f.off i b hi hb (hs b hb e)
  omega
theorem col_alone (f : FitF q d h x y) (hi : i < q) (hj : j < d) (hs : ∀ k, k < q → k ≠ i → h k j = false) : y i j = x i j :=
  row_alone (q := d) (d := q) (h := fun l k => h k l) (x := fun l k => x k l) (y := fun l k => y k l) (i := j) (j := i) f.turn hj hi hs
/-- P126. -/
theorem IsHi.alone (a : IsHi q d h x i j v) (hs : ∀ y, FitF q d h x y → y i j = x i j) : v = x i j := by
  obtain ⟨⟨z, h1, h2⟩, _⟩ := a; rw [← h2]; exact hs z h1
theorem IsLo.alone (a : IsLo q d h x i j v) (hs : ∀ y, FitF q d h x y → y i j = x i j) : v = x i j := by
  obtain ⟨⟨z, h1, h2⟩, _⟩ := a; rw [← h2]; exact hs z h1
/-- P130: two hidden cells of a row. -/
theorem pair_sum (f : FitF q d h x y) (hi : i < q) (hj : j < d) {o : Nat} (ho : o < d) (hoj : o ≠ j) (hs : ∀ l, l < d → l ≠ j → l ≠ o → h i l = false) : y i j + y i o = x i j + x i o := by
  have e1 := f.row i hi
  rw [sm_but hj (y i), sm_but hj (x i), sm_but ho fun b => if b = j then 0 else y i b, sm_but ho fun b => if b = j then 0 else x i b] at e1
  simp only [hoj, if_false] at e1
  have e2 : sm d (fun b => if b = o then 0 else if b = j then 0 else y i b) = sm d (fun b => if b = o then 0 else if b = j then 0 else x i b) := sm_congr fun b hb => by
    by_cases e : b = o
    · simp [e]
    · by_cases e3 : b = j
      · simp [e3]
      · simp only [e, e3, if_false]; exact f.off i b hi hb (hs b hb e3 e)
  omega
theorem IsHi.pair (a : IsHi q d h x i j v) {o : Nat} (b : IsLo q d h x i o v') (hi : i < q) (hj : j < d) (ho : o < d) (hoj : o ≠ j) (hs : ∀ l, l < d → l ≠ j → l ≠ o → h i l = false) : v + v' = x i j + x i o := by
  obtain ⟨⟨z, h1, h2⟩, h3⟩ := a
  obtain ⟨⟨u, k1, k2⟩, k3⟩ := b
  have e1 := pair_sum h1 hi hj ho hoj hs
  have e2 := pair_sum k1 hi hj ho hoj hs
  have := h3 u k1; have := k3 z h1; omega
/-- P131: a row leaves room. -/
theorem IsHi.room (a : IsHi q d h x i j v) {lo : Nat → Int} (hlo : ∀ l, l < d → l ≠ j → IsLo q d h x i l (lo l)) (hi : i < q) (hj : j < d) : v ≤ sm d (x i) - sm d fun b => if b = j then 0 else lo b := by
  obtain ⟨⟨z, h1, h2⟩, _⟩ := a
  have e1 := h1.row i hi
  rw [sm_but hj (z i)] at e1
  have e2 : sm d (fun b => if b = j then 0 else lo b) ≤ sm d (fun b => if b = j then 0 else z i b) := sm_le fun b hb => by
    by_cases e : b = j
    · simp [e]
    · simp only [e, if_false]; exact (hlo b hb e).2 z h1
  omega
theorem IsLo.room (a : IsLo q d h x i j v) {hg : Nat → Int} (hhi : ∀ l, l < d → l ≠ j → IsHi q d h x i l (hg l)) (hi : i < q) (hj : j < d) : (sm d (x i) - sm d fun b => if b = j then 0 else hg b) ≤ v := by
  obtain ⟨⟨z, h1, h2⟩, _⟩ := a
  have e1 := h1.row i hi
  rw [sm_but hj (z i)] at e1
  have e2 : sm d (fun b => if b = j then 0 else z i b) ≤ sm d (fun b => if b = j then 0 else hg b) := sm_le fun b hb => by
    by_cases e : b = j
    · simp [e]
    · simp only [e, if_false]; exact (hhi b hb e).2 z h1
  omega
/-- P137: where nothing is. -/
theorem IsHi.zero (a : IsHi q d h x i j v) (hi : i < q) (hj : j < d) (h0 : sm d (x i) ≤ 0) : v = 0 := by
  have h1 := a.pos hi hj
  obtain ⟨⟨z, h1', h2⟩, _⟩ := a
  have := fit_row h1' hi hj; omega
theorem IsHi.rest (a : IsHi q d h x i j v) (hx : Pos q d x) (hi : i < q) (hj : j < d) (h0 : (sm d fun l => if h i l = true ∧ l ≠ j then x i l else 0) ≤ 0) : v = x i j := by
  have hge := a.ge hx
  obtain ⟨⟨z, h1, h2⟩, _⟩ := a
  have e1 := h1.row i hi
  rw [sm_but hj (z i), sm_but hj (x i)] at e1
  have e2 : sm d (fun b => if b = j then 0 else x i b) ≤ sm d (fun b => (if b = j then 0 else z i b) + if h i b = true ∧ b ≠ j then x i b else 0) := sm_le fun b hb => by
    by_cases e : b = j
    · simp [e]
    · by_cases m : h i b = true
      · have := h1.pos i b hi hb; simp [e, m]; omega
      · have := h1.off i b hi hb (by simpa using m); simp [e, m]; omega
  rw [sm_add] at e2
  omega
end
end Go.Proofs.YtobgceebolmfcaaDoor
namespace Go.Proofs.YtobgceebolmfcaaDoor
section
variable {many : Nat} {op : Nat → Nat → Bool} {i : Nat}
theorem bfs_go : ∀ (n : Nat) (par : List Int) (work : List Nat) (ord : Nat → Nat), Bfs many op i par work ord → many - work.length ≤ n → ∃ par work ord, Bfs many op i par work ord ∧ Closed many op par
  | n, par, work, ord, b, hn => by
    by_cases e : Closed many op par
    · exact ⟨par, work, ord, b, e⟩
    · have : ∃ p to, p < many ∧ to < many ∧ 0 ≤ par.getD p (-1) ∧ op p to = true ∧ par.getD to (-1) < 0 := by
        refine Classical.byContradiction fun hh => e fun p to h1 h2 h3 h4 => Classical.byContradiction fun h5 => hh ⟨p, to, h1, h2, h3, h4, by omega⟩
      obtain ⟨p, to, h1, h2, h3, h4, h5⟩ := this
      have b2 := b.step (b.mem p h1 h3) h2 h5 h4
      have hle := b2.le
      rw [List.length_append] at hle
      cases n with
      | zero => simp at hle; omega
      | succ n => exact bfs_go n _ _ _ b2 (by rw [List.length_append]; simp; omega)
theorem bfs_closed (hi : i < many) : ∃ par work ord, Bfs many op i par work ord ∧ Closed many op par := bfs_go _ _ _ _ (bfs_start hi) (Nat.le_refl _)
end
section
variable {q d : Nat} {h h' : Nat → Nat → Bool} {x y z : Tf} {i j : Nat} {v v' : Int} {par : List Int} {work : List Nat} {ord : Nat → Nat} {raise : Bool}
/-- The step of a search. -/
def stp (raise : Bool) : Int := if raise = true then 1 else -1
/-- One step back along the path. -/
theorem path_step (b : Bfs (q + d) (pthTo q h x raise i j) i par work ord) (hx : Pos q d x) {p : Nat} (hp : p ∈ work) (hpi : p ≠ i) (m : Mid q d h x i j (stp raise) ord p y) :
    ∃ p', p' ∈ work ∧ par.getD p (-1) = (p' : Int) ∧ ord p' < ord p ∧
      ((q ≤ p ∧ p < q + d ∧ p' < q ∧ (p' ≠ i ∨ p - q ≠ j) ∧ Mid q d h x i j (stp raise) ord p' (up1 y p' (p - q) (-(stp raise)))) ∨ (p < q ∧ q ≤ p' ∧ p' < q + d ∧ (p ≠ i ∨ p' - q ≠ j) ∧ Mid q d h x i j (stp raise) ord p' (up1 y p (p' - q) (stp raise)))) := by
  obtain ⟨p', h1, h2, h3, h4⟩ := b.old p hp hpi
  have hl := b.wlt p hp
  have hl' := b.wlt p' h1
  refine ⟨p', h1, h2, h4, ?_⟩
  simp only [pthTo, pthOk, Bool.and_eq_true] at h3
  by_cases e : p < q
  · right
    by_cases e' : p' < q
    · simp [e, e'] at h3
    · simp only [e, e', if_true, if_false, Bool.and_eq_true, Bool.or_eq_true, decide_eq_true_eq] at h3
      obtain ⟨⟨a1, a2⟩, _⟩ := h3
      obtain ⟨l, rfl⟩ : ∃ l, p' = q + l := ⟨p' - q, by omega⟩
      have el : q + l - q = l := by omega
      rw [el] at a1 a2 ⊢
      have hxp := hx p l e (by omega)
      refine ⟨e, by omega, by omega, .inl hpi, mid_row m e (by omega) hpi a1 h4 ?_⟩
      unfold stp
      split
      · omega
      · rename_i hr; rcases a2 with a2 | a2
        · exact absurd a2 hr
        · omega
  · left
    by_cases e' : p' < q
    · simp only [e, e', if_true, if_false, Bool.and_eq_true, Bool.or_eq_true, decide_eq_true_eq, Bool.not_eq_true', Bool.and_eq_false_iff, decide_eq_false_iff_not] at h3
      obtain ⟨⟨a1, a2⟩, a3⟩ := h3
      obtain ⟨l, rfl⟩ : ∃ l, p = q + l := ⟨p - q, by omega⟩
      have el : q + l - q = l := by omega
      rw [el] at a1 a2 ⊢
      have hxp := hx p' l e' (by omega)
      have hne : p' ≠ i ∨ l ≠ j := by omega
      refine ⟨by omega, by omega, e', hne, mid_col m e' (by omega) hne a1 h4 ?_⟩
      unfold stp
      split
      · rename_i hr; rcases a2 with a2 | a2
        · rw [hr] at a2; cases a2
        · omega
      · omega
    · simp [e, e'] at h3
theorem path_all (b : Bfs (q + d) (pthTo q h x raise i j) i par work ord) (hx : Pos q d x) : ∀ (n p : Nat) (y : Tf), ord p ≤ n → p ∈ work → Mid q d h x i j (stp raise) ord p y → ∃ z, Mid q d h x i j (stp raise) ord i z
  | n, p, y, hn, hp, m => by
    by_cases e : p = i
    · exact ⟨y, e ▸ m⟩
    · obtain ⟨p', h1, _, h4, h5⟩ := path_step b hx hp e m
      cases n with
      | zero => omega
      | succ n =>
        rcases h5 with ⟨_, _, _, _, m'⟩ | ⟨_, _, _, _, m'⟩
        · exact path_all b hx n p' _ (by omega) h1 m'
        · exact path_all b hx n p' _ (by omega) h1 m'
/-- A search that has reached the column changes the cell by one. -/
theorem path_fit (b : Bfs (q + d) (pthTo q h x raise i j) i par work ord) (hx : Pos q d x) (hi : i < q) (hj : j < d) (hh : h i j = true) (h0 : 0 ≤ x i j + stp raise) (hr : 0 ≤ par.getD (q + j) (-1)) :
    ∃ z, FitF q d h x z ∧ z i j = x i j + stp raise := by
  obtain ⟨z, m⟩ := path_all b hx _ (q + j) _ (Nat.le_refl _) (b.mem _ (by omega) hr) (mid_start hx hi hj hh h0)
  exact ⟨z, mid_end m hi, m.own⟩
/-- At the greatest number there is a cut. -/
theorem hi_cut (hx : Pos q d x) (hi : i < q) (hj : j < d) (hh : h i j = true) (hm : ∀ z, FitF q d h x z → z i j ≤ x i j) : ∃ par : List Int, Closed (q + d) (pthTo q h x true i j) par ∧ 0 ≤ par.getD i (-1) ∧ par.getD (q + j) (-1) < 0 := by
  obtain ⟨par, work, ord, b, hc⟩ := bfs_closed (many := q + d) (op := pthTo q h x true i j) (i := i) (by omega)
  refine ⟨par, hc, b.in_ b.w0, Classical.byContradiction fun hn => ?_⟩
  have h0 := hx i j hi hj
  have es : stp true = 1 := rfl
  obtain ⟨z, h1, h2⟩ := path_fit b hx hi hj hh (by rw [es]; omega) (by omega)
  have := hm z h1; omega
theorem lo_cut (hx : Pos q d x) (hi : i < q) (hj : j < d) (hh : h i j = true) (hp : 0 < x i j) (hm : ∀ z, FitF q d h x z → x i j ≤ z i j) : ∃ par : List Int, Closed (q + d) (pthTo q h x false i j) par ∧ 0 ≤ par.getD i (-1) ∧ par.getD (q + j) (-1) < 0 := by
  obtain ⟨par, work, ord, b, hc⟩ := bfs_closed (many := q + d) (op := pthTo q h x false i j) (i := i) (by omega)
  refine ⟨par, hc, b.in_ b.w0, Classical.byContradiction fun hn => ?_⟩
  have es : stp false = -1 := rfl
  obtain ⟨z, h1, h2⟩ := path_fit b hx hi hj hh (by rw [es]; omega) (by omega)
  have := hm z h1; omega
/-- Every cell twice. -/
def dbl (x : Tf) : Tf := fun k l => 2 * x k l
theorem fit_dbl (f : FitF q d h x y) : FitF q d h (dbl x) (dbl y) :=
  ⟨fun k l hk hl => by have := f.pos k l hk hl; unfold dbl; omega, fun k hk => by unfold dbl; rw [sm_mul, sm_mul, f.row k hk], fun l hl => by unfold dbl; rw [sm_mul, sm_mul, f.col l hl], fun k l hk hl e => by unfold dbl; rw [f.off k l hk hl e]⟩
theorem pth_dbl (raise : Bool) (x : Tf) : pthTo q h (dbl x) raise i j = pthTo q h x raise i j := by
  have e : ∀ k l, decide (0 < dbl x k l) = decide (0 < x k l) := fun k l => by unfold dbl; by_cases e : 0 < x k l <;> simp [e] <;> omega
  funext p to
  simp only [pthTo, pthOk, e]
theorem pos_dbl (hx : Pos q d x) : Pos q d (dbl x) := fun k l hk hl => by have := hx k l hk hl; unfold dbl; omega
/-- P128: doubled tables have doubled bounds. -/
theorem IsHi.twice (a : IsHi q d h x i j v) (hx : Pos q d x) (hi : i < q) (hj : j < d) : IsHi q d h (dbl x) i j (2 * v) := by
  obtain ⟨⟨y, h1, h2⟩, h3⟩ := a
  refine ⟨⟨_, fit_dbl h1, by show 2 * y i j = _; rw [h2]⟩, fun z hz => ?_⟩
  have hzy : FitF q d h (dbl y) z := ((fit_dbl h1).symm (pos_dbl hx)).trans hz
  rw [← h2]
  by_cases e : h i j = true
  · obtain ⟨par, c1, c2, c3⟩ := hi_cut h1.pos hi hj e fun w hw => by rw [h2]; exact h3 w (h1.trans hw)
    exact closed_high (x := dbl y) (by rw [pth_dbl]; exact c1) hi hj (pos_dbl h1.pos) c2 c3 hzy
  · rw [hzy.off i j hi hj (by simpa using e)]; exact Int.le_refl _
theorem IsLo.twice (a : IsLo q d h x i j v) (hx : Pos q d x) (hi : i < q) (hj : j < d) : IsLo q d h (dbl x) i j (2 * v) := by
  obtain ⟨⟨y, h1, h2⟩, h3⟩ := a
  refine ⟨⟨_, fit_dbl h1, by show 2 * y i j = _; rw [h2]⟩, fun z hz => ?_⟩
  have hzy : FitF q d h (dbl y) z := ((fit_dbl h1).symm (pos_dbl hx)).trans hz
  rw [← h2]
  by_cases e : h i j = true
  · by_cases p : 0 < y i j
    · obtain ⟨par, c1, c2, c3⟩ := lo_cut h1.pos hi hj e p fun w hw => by rw [h2]; exact h3 w (h1.trans hw)
      exact closed_low (x := dbl y) (by rw [pth_dbl]; exact c1) hi hj (pos_dbl h1.pos) c2 c3 hzy
    · have := hz.pos i j hi hj; omega
  · rw [hzy.off i j hi hj (by simpa using e)]; exact Int.le_refl _
/-- Rows in another order. -/
theorem FitF.perm {ρ : Nat → Nat} (hρ : ∀ k, k < q → ρ k < q) (hs : ∀ f : Nat → Int, sm q (fun k => f (ρ k)) = sm q f) (f : FitF q d h x y) : FitF q d (fun k => h (ρ k)) (fun k => x (ρ k)) (fun k => y (ρ k)) :=
  ⟨fun k l hk hl => f.pos _ l (hρ k hk) hl, fun k hk => f.row _ (hρ k hk), fun l hl => by rw [hs fun k => y k l, hs fun k => x k l]; exact f.col l hl, fun k l hk hl e => f.off _ l (hρ k hk) hl e⟩
theorem FitF.congr {x' y' : Tf} (f : FitF q d h x y) (hh : ∀ k l, k < q → l < d → h' k l = h k l) (hx : ∀ k l, k < q → l < d → x' k l = x k l) (hy : ∀ k l, k < q → l < d → y' k l = y k l) : FitF q d h' x' y' :=
  ⟨fun k l hk hl => by rw [hy k l hk hl]; exact f.pos k l hk hl, fun k hk => by rw [sm_congr fun l hl => hy k l hk hl, sm_congr fun l hl => hx k l hk hl]; exact f.row k hk,
   fun l hl => by rw [sm_congr fun k hk => hy k l hk hl, sm_congr fun k hk => hx k l hk hl]; exact f.col l hl, fun k l hk hl e => by rw [hy k l hk hl, hx k l hk hl]; exact f.off k l hk hl (by rw [← hh k l hk hl]; exact e)⟩
theorem IsHi.congr {x' : Tf} (a : IsHi q d h x i j v) (hh : ∀ k l, k < q → l < d → h' k l = h k l) (hx : ∀ k l, k < q → l < d → x' k l = x k l) : IsHi q d h' x' i j v := by
  obtain ⟨⟨y, h1, h2⟩, h3⟩ := a
  exact ⟨⟨y, h1.congr hh hx fun _ _ _ _ => rfl, h2⟩, fun z hz => h3 z (hz.congr (fun k l a b => (hh k l a b).symm) (fun k l a b => (hx k l a b).symm) fun _ _ _ _ => rfl)⟩
theorem IsLo.congr {x' : Tf} (a : IsLo q d h x i j v) (hh : ∀ k l, k < q → l < d → h' k l = h k l) (hx : ∀ k l, k < q → l < d → x' k l = x k l) : IsLo q d h' x' i j v := by
  obtain ⟨⟨y, h1, h2⟩, h3⟩ := a
  exact ⟨⟨y, h1.congr hh hx fun _ _ _ _ => rfl, h2⟩, fun z hz => h3 z (hz.congr (fun k l a b => (hh k l a b).symm) (fun k l a b => (hx k l a b).symm) fun _ _ _ _ => rfl)⟩
theorem fit_perm_iff {ρ σ : Nat → Nat} (hσ : ∀ k, k < q → σ k < q) (ht : ∀ f : Nat → Int, sm q (fun k => f (σ k)) = sm q f) (hρσ : ∀ k, k < q → ρ (σ k) = k)
    (f : FitF q d (fun k => h (ρ k)) (fun k => x (ρ k)) z) : FitF q d h x fun k => z (σ k) :=
  (f.perm hσ ht).congr (fun k l hk _ => by show _ = h (ρ (σ k)) l; rw [hρσ k hk]) (fun k l hk _ => by show _ = x (ρ (σ k)) l; rw [hρσ k hk]) fun _ _ _ _ => rfl
theorem IsHi.perm {ρ σ : Nat → Nat} (hρ : ∀ k, k < q → ρ k < q) (hσ : ∀ k, k < q → σ k < q) (hs : ∀ f : Nat → Int, sm q (fun k => f (ρ k)) = sm q f) (ht : ∀ f : Nat → Int, sm q (fun k => f (σ k)) = sm q f) (hρσ : ∀ k, k < q → ρ (σ k) = k)
    (a : IsHi q d h x i j v) (hi : i < q) : IsHi q d (fun k => h (ρ k)) (fun k => x (ρ k)) (σ i) j v := by
  obtain ⟨⟨y, h1, h2⟩, h3⟩ := a
  exact ⟨⟨_, h1.perm hρ hs, by show y (ρ (σ i)) j = v; rw [hρσ i hi]; exact h2⟩, fun z hz => h3 _ (fit_perm_iff hσ ht hρσ hz)⟩
theorem IsLo.perm {ρ σ : Nat → Nat} (hρ : ∀ k, k < q → ρ k < q) (hσ : ∀ k, k < q → σ k < q) (hs : ∀ f : Nat → Int, sm q (fun k => f (ρ k)) = sm q f) (ht : ∀ f : Nat → Int, sm q (fun k => f (σ k)) = sm q f) (hρσ : ∀ k, k < q → ρ (σ k) = k)
    (a : IsLo q d h x i j v) (hi : i < q) : IsLo q d (fun k => h (ρ k)) (fun k => x (ρ k)) (σ i) j v := by
  obtain ⟨⟨y, h1, h2⟩, h3⟩ := a
  exact ⟨⟨_, h1.perm hρ hs, by show y (ρ (σ i)) j = v; rw [hρσ i hi]; exact h2⟩, fun z hz => h3 _ (fit_perm_iff hσ ht hρσ hz)⟩
/-- The last row comes first. -/
def rotR (q k : Nat) : Nat := if k = 0 then q - 1 else k - 1
def rotS (q k : Nat) : Nat := if k + 1 = q then 0 else k + 1
theorem sm_shift : ∀ (n : Nat) (f : Nat → Int), sm (n + 1) f = f 0 + sm n (fun k => f (k + 1))
  | 0, f => by simp [sm]
  | n + 1, f => by rw [sm, sm_shift n f]; simp only [sm]; omega
theorem sm_rotR (q : Nat) (f : Nat → Int) : sm q (fun k => f (rotR q k)) = sm q f := by
  cases q with
  | zero => rfl
  | succ n =>
    rw [sm_shift]
    have e : sm n (fun k => f (rotR (n + 1) (k + 1))) = sm n f := sm_congr fun k _ => by simp [rotR]
    rw [e]; simp [rotR, sm]; omega
theorem sm_rotS (q : Nat) (f : Nat → Int) : sm q (fun k => f (rotS q k)) = sm q f := by
  have h1 := sm_rotR q fun k => f (rotS q k)
  rw [← h1]
  refine sm_congr fun k hk => ?_
  congr 1
  unfold rotR rotS; split <;> split <;> omega
theorem IsHi.rot (a : IsHi q d h x i j v) (hi : i < q) : IsHi q d (fun k => h (rotR q k)) (fun k => x (rotR q k)) (rotS q i) j v :=
  a.perm (fun k hk => by unfold rotR; split <;> omega) (fun k hk => by unfold rotS; split <;> omega) (sm_rotR q) (sm_rotS q) (fun k hk => by unfold rotR rotS; split <;> (try split) <;> omega) hi
theorem IsLo.rot (a : IsLo q d h x i j v) (hi : i < q) : IsLo q d (fun k => h (rotR q k)) (fun k => x (rotR q k)) (rotS q i) j v :=
  a.perm (fun k hk => by unfold rotR; split <;> omega) (fun k hk => by unfold rotS; split <;> omega) (sm_rotR q) (sm_rotS q) (fun k hk => by unfold rotR rotS; split <;> (try split) <;> omega) hi
/-- P135: told cells may be shown. -/
theorem FitF.told (f : FitF q d h x y) (ht : ∀ k l, k < q → l < d → h k l = true → h' k l = false → y k l = x k l) : FitF q d h' x y :=
  ⟨f.pos, f.row, f.col, fun k l hk hl e => by
    by_cases m : h k l = true
    · exact ht k l hk hl m e
    · exact f.off k l hk hl (by simpa using m)⟩
theorem told_one {v : Int} (a : IsHi q d h x i j v) (b : IsLo q d h x i j v) (hx : Pos q d x) (f : FitF q d h x y) : y i j = x i j := by
  have h1 := a.2 y f; have h2 := b.2 y f; have h3 := a.ge hx; have h4 := b.le hx; omega
theorem IsHi.told (a : IsHi q d h x i j v) (ht : ∀ y, FitF q d h x y → ∀ k l, k < q → l < d → h k l = true → h' k l = false → y k l = x k l) (hs : ∀ k l, k < q → l < d → h k l = false → h' k l = false) : IsHi q d h' x i j v := by
  obtain ⟨⟨y, h1, h2⟩, h3⟩ := a
  exact ⟨⟨y, h1.told (ht y h1), h2⟩, fun z hz => h3 z (hz.more hs)⟩
theorem IsLo.told (a : IsLo q d h x i j v) (ht : ∀ y, FitF q d h x y → ∀ k l, k < q → l < d → h k l = true → h' k l = false → y k l = x k l) (hs : ∀ k l, k < q → l < d → h k l = false → h' k l = false) : IsLo q d h' x i j v := by
  obtain ⟨⟨y, h1, h2⟩, h3⟩ := a
  exact ⟨⟨y, h1.told (ht y h1), h2⟩, fun z hz => h3 z (hz.more hs)⟩
/-- P136: a cell that is shown is one more. -/
theorem fit_up {k l : Nat} {e : Int} (f : FitF q d h x y) (hk : k < q) (hl : l < d) (hh : h k l = false) (h0 : 0 ≤ x k l + e) : FitF q d h (up1 x k l e) (up1 y k l e) := by
  have hkl := f.off k l hk hl hh
  refine ⟨fun a b ha hb => ?_, fun a ha => ?_, fun b hb => ?_, fun a b ha hb hf => ?_⟩
  · by_cases c : a = k ∧ b = l
    · obtain ⟨rfl, rfl⟩ := c; rw [up1_at, hkl]; exact h0
    · rw [up1_ne y e (by omega)]; exact f.pos a b ha hb
  · by_cases c : a = k
    · subst c; rw [up1_row hl, up1_row hl, f.row a ha]
    · rw [up1_row' c, up1_row' c, f.row a ha]
  · by_cases c : b = l
    · subst c; rw [up1_col hk, up1_col hk, f.col b hb]
    · rw [up1_col' c, up1_col' c, f.col b hb]
  · by_cases c : a = k ∧ b = l
    · obtain ⟨rfl, rfl⟩ := c; rw [up1_at, up1_at, hkl]
    · rw [up1_ne y e (by omega), up1_ne x e (by omega)]; exact f.off a b ha hb hf
theorem up1_back (x : Tf) (k l : Nat) (e : Int) : up1 (up1 x k l e) k l (-e) = x := by
  funext a b
  unfold up1
  by_cases c : a = k ∧ b = l
  · simp [c]; omega
  · simp [c]
theorem IsHi.up {k l : Nat} {e : Int} (a : IsHi q d h x i j v) (hx : Pos q d x) (hk : k < q) (hl : l < d) (hh : h k l = false) (h0 : 0 ≤ x k l + e) (hn : i ≠ k ∨ j ≠ l) : IsHi q d h (up1 x k l e) i j v := by
  obtain ⟨⟨y, h1, h2⟩, h3⟩ := a
  refine ⟨⟨_, fit_up h1 hk hl hh h0, by rw [up1_ne y e hn]; exact h2⟩, fun z hz => ?_⟩
  have := h3 _ (by have f := fit_up (e := -e) hz hk hl hh (by rw [up1_at]; have := hx k l hk hl; omega); rw [up1_back] at f; exact f)
  rw [up1_ne z _ hn] at this; exact this
theorem IsLo.up {k l : Nat} {e : Int} (a : IsLo q d h x i j v) (hx : Pos q d x) (hk : k < q) (hl : l < d) (hh : h k l = false) (h0 : 0 ≤ x k l + e) (hn : i ≠ k ∨ j ≠ l) : IsLo q d h (up1 x k l e) i j v := by
  obtain ⟨⟨y, h1, h2⟩, h3⟩ := a
  refine ⟨⟨_, fit_up h1 hk hl hh h0, by rw [up1_ne y e hn]; exact h2⟩, fun z hz => ?_⟩
  have := h3 _ (by have f := fit_up (e := -e) hz hk hl hh (by rw [up1_at]; have := hx k l hk hl; omega); rw [up1_back] at f; exact f)
  rw [up1_ne z _ hn] at this; exact this
/-- P133: the middle of two that fit. -/
theorem fit_half (f : FitF q d h x y) (hx : Pos q d x) (hz : ∀ k l, k < q → l < d → 2 * z k l = x k l + y k l) : FitF q d h x z := by
  have e2 : ∀ (n : Nat) (a b c : Nat → Int), (∀ i, i < n → 2 * a i = b i + c i) → 2 * sm n a = sm n b + sm n c := fun n a b c hh => by rw [← sm_mul, ← sm_add]; exact sm_congr hh
  refine ⟨fun k l hk hl => by have := hx k l hk hl; have := f.pos k l hk hl; have := hz k l hk hl; omega, fun k hk => ?_, fun l hl => ?_, fun k l hk hl e => ?_⟩
  · have h1 := e2 d (z k) (x k) (y k) fun l hl => hz k l hk hl
    have h2 := f.row k hk
    omega
  · have h1 := e2 q (fun k => z k l) (fun k => x k l) (fun k => y k l) fun k hk => hz k l hk hl
    have h2 := f.col l hl
    omega
  · have h1 := hz k l hk hl; have h2 := f.off k l hk hl e; omega
end
end Go.Proofs.YtobgceebolmfcaaDoor
namespace Go.Proofs.YtobgceebolmfcaaDoor
open Go.RowKit
/-- A table's cells, a mask's flags. -/
def cF (t : Tb) : Tf := fun k l => (t.getD k []).getD l 0
def hF (m : Mk) : Nat → Nat → Bool := fun k l => (m.getD k []).getD l false
theorem sm_list : ∀ l : List Int, sm l.length (fun i => l.getD i 0) = l.sum
  | [] => rfl
  | a :: l => by
    rw [List.length_cons, sm_shift, List.sum_cons, ← sm_list l]; rfl
theorem cF_row {t : Tb} {k d : Nat} (h : (t.getD k []).length = d) : sm d (cF t k) = (t.getD k []).sum := by rw [← h]; exact sm_list _
theorem cF_col (t : Tb) (l : Nat) : sm t.length (fun k => cF t k l) = (col t l).sum := by
  rw [← sm_list, col_len]
  exact sm_congr fun k hk => (col_get t l hk).symm
theorem row_mem {t : Tb} {k : Nat} (hk : k < t.length) : t.getD k [] ∈ t := by rw [getD_of _ _ hk]; exact List.getElem_mem _
theorem Tab.rlen {t : Tb} (h : Tab t) {k : Nat} (hk : k < t.length) : (t.getD k []).length = wd t := h.len _ (row_mem hk)
theorem Tab.cell {t : Tb} (h : Tab t) {k l : Nat} (hk : k < t.length) (hl : l < wd t) : 0 ≤ cF t k l ∧ cF t k l ≤ 99 := by
  have hll : l < (t.getD k []).length := by rw [h.rlen hk]; exact hl
  exact h.bd _ (row_mem hk) _ (by unfold cF; rw [getD_of _ _ hll]; exact List.getElem_mem _)
theorem Tab.posF {t : Tb} (h : Tab t) : Pos t.length (wd t) (cF t) := fun _ _ hk hl => (h.cell hk hl).1
theorem sm_le_mul {n : Nat} {f : Nat → Int} {c : Int} (h : ∀ i, i < n → f i ≤ c) : sm n f ≤ n * c := by
  induction n with
  | zero => simp [sm]
  | succ n ih =>
    have h1 := ih fun i hi => h i (by omega)
    have h2 := h n (by omega)
    have e : ((n + 1 : Nat) : Int) * c = (n : Int) * c + c := by rw [Int.natCast_add, Int.add_mul]; simp
    simp only [sm]; omega
theorem Tab.row_le {t : Tb} (h : Tab t) {k : Nat} (hk : k < t.length) : sm (wd t) (cF t k) ≤ 396 := by
  have h1 := sm_le_mul (n := wd t) (f := cF t k) (c := 99) fun l hl => (h.cell hk hl).2
  have h2 := h.w4
  omega
theorem cF_set {t : Tb} {k l : Nat} (hk : k < t.length) (hl : l < (t.getD k []).length) (v : Int) : cF (t.set k ((t.getD k []).set l v)) = up1 (cF t) k l (v - cF t k l) := by
  funext a b
  by_cases e : a = k
  · subst e
    have e1 : (t.set a ((t.getD a []).set l v)).getD a [] = (t.getD a []).set l v := by rw [List.getD_eq_getElem?_getD, List.getElem?_set_self hk]; rfl
    by_cases e2 : b = l
    · subst e2
      rw [up1_at]
      show ((t.set a ((t.getD a []).set b v)).getD a []).getD b 0 = _
      rw [e1, List.getD_eq_getElem?_getD, List.getElem?_set_self hl]
      show v = _; omega
    · rw [up1_ne _ _ (.inr e2)]
      show ((t.set a ((t.getD a []).set l v)).getD a []).getD b 0 = (t.getD a []).getD b 0
      rw [e1, List.getD_eq_getElem?_getD, List.getElem?_set_ne (fun e3 => e2 e3.symm), List.getD_eq_getElem?_getD (l := t.getD a [])]
  · rw [up1_ne _ _ (.inl e)]
    have e1 : (t.set k ((t.getD k []).set l v)).getD a [] = t.getD a [] := by rw [List.getD_eq_getElem?_getD, List.getElem?_set_ne (fun e3 => e e3.symm), List.getD_eq_getElem?_getD]
    show ((t.set k ((t.getD k []).set l v)).getD a []).getD b 0 = (t.getD a []).getD b 0
    rw [e1]
theorem cF_turn {t : Tb} {k l : Nat} (hk : k < t.length) (hl : l < wd t) : cF (turn t) l k = cF t k l := by
  unfold cF; rw [turn_get t hl, col_get t l hk]
/-- x fits t with the mask m. -/
def FitP (t : Tb) (m : Mk) (x : Tb) : Prop := mkOk t m = true ∧ x.length = t.length ∧ (∀ r ∈ x, r.length = wd t) ∧ FitF t.length (wd t) (hF m) (cF t) (cF x)
noncomputable def fitB (t : Tb) (m : Mk) (x : Tb) : Bool := @decide (FitP t m x) (Classical.propDecidable _)
theorem fitB_iff {t : Tb} {m : Mk} {x : Tb} : fitB t m x = true ↔ FitP t m x := by unfold fitB; exact @decide_eq_true_iff _ (Classical.propDecidable _)
theorem fitB_no {t : Tb} {m : Mk} {x : Tb} (h : ¬ FitP t m x) : fitB t m x = false := by
  cases e : fitB t m x
  · rfl
  · exact absurd (fitB_iff.1 e) h
theorem FitP.le {t : Tb} {m : Mk} {x : Tb} (h : FitP t m x) {k l : Nat} (hk : k < t.length) (hl : l < wd t) : 0 ≤ cF x k l ∧ cF x k l ≤ 396 := by
  obtain ⟨h1, _, _, f⟩ := h
  have ht := (mk_parts.1 h1).1
  exact ⟨f.pos k l hk hl, Int.le_trans (fit_row f hk hl) (ht.row_le hk)⟩
/-- Is there such a cell? -/
def bOk (t : Tb) (m : Mk) (i j : Int) : Bool := mkOk t m && in3 i 0 (t.length - 1) && in3 j 0 (wd t - 1)
theorem bOk_iff {t : Tb} {m : Mk} {i j : Int} : bOk t m i j = true ↔ mkOk t m = true ∧ 0 ≤ i ∧ i < t.length ∧ 0 ≤ j ∧ j < wd t := by
  simp only [bOk, in3, Bool.and_eq_true, decide_eq_true_eq]
  constructor
  · rintro ⟨⟨a, b⟩, c⟩; exact ⟨a, by omega, by omega, by omega, by omega⟩
  · rintro ⟨a, b, c, d, e⟩; exact ⟨⟨a, by omega⟩, by omega⟩
noncomputable def hiI (t : Tb) (m : Mk) (i j : Int) : Int := if bOk t m i j = true then hiV t.length (wd t) (hF m) (cF t) i.toNat j.toNat else -1
noncomputable def loI (t : Tb) (m : Mk) (i j : Int) : Int := if bOk t m i j = true then loV t.length (wd t) (hF m) (cF t) i.toNat j.toNat else -1
noncomputable def toldB (t : Tb) (m : Mk) (i j : Int) : Bool := bOk t m i j && hF m i.toNat j.toNat && decide (loI t m i j = hiI t m i j)
/-- The cells (a, b) with a < q, b < d, for which f holds. -/
def cnt2 (q d : Nat) (f : Nat → Nat → Bool) : Int := sm q fun k => sm d fun l => if f k l = true then 1 else 0
noncomputable def toldN (t : Tb) (m : Mk) : Int := if mkOk t m = true then cnt2 t.length (wd t) (fun k l => toldB t m k l) else -1
section
variable {t : Tb} {m : Mk} {k l : Nat} {v : Int}
theorem hiI_is (h : mkOk t m = true) (hk : k < t.length) (hl : l < wd t) : IsHi t.length (wd t) (hF m) (cF t) k l (hiI t m k l) := by
  have e : bOk t m k l = true := bOk_iff.2 ⟨h, by omega, by omega, by omega, by omega⟩
  unfold hiI; rw [if_pos e]
  exact hiV_is (mk_parts.1 h).1.posF hk hl
theorem loI_is (h : mkOk t m = true) (hk : k < t.length) (hl : l < wd t) : IsLo t.length (wd t) (hF m) (cF t) k l (loI t m k l) := by
  have e : bOk t m k l = true := bOk_iff.2 ⟨h, by omega, by omega, by omega, by omega⟩
  unfold loI; rw [if_pos e]
  exact loV_is (mk_parts.1 h).1.posF hk hl
theorem hiI_eq (h : mkOk t m = true) (hk : k < t.length) (hl : l < wd t) (a : IsHi t.length (wd t) (hF m) (cF t) k l v) : hiI t m k l = v := (hiI_is h hk hl).one a
theorem loI_eq (h : mkOk t m = true) (hk : k < t.length) (hl : l < wd t) (a : IsLo t.length (wd t) (hF m) (cF t) k l v) : loI t m k l = v := (loI_is h hk hl).one a
theorem hiI_no {i j : Int} (h : bOk t m i j = false) : hiI t m i j = -1 := by unfold hiI; rw [h]; rfl
theorem loI_no {i j : Int} (h : bOk t m i j = false) : loI t m i j = -1 := by unfold loI; rw [h]; rfl
theorem hiI_bd (h : mkOk t m = true) (hk : k < t.length) (hl : l < wd t) : 0 ≤ hiI t m k l ∧ hiI t m k l ≤ 396 := by
  have a := hiI_is h hk hl
  refine ⟨a.pos hk hl, ?_⟩
  obtain ⟨⟨y, h1, h2⟩, _⟩ := a
  rw [← h2]; exact Int.le_trans (fit_row h1 hk hl) ((mk_parts.1 h).1.row_le hk)
theorem loI_bd (h : mkOk t m = true) (hk : k < t.length) (hl : l < wd t) : 0 ≤ loI t m k l ∧ loI t m k l ≤ 99 := by
  have a := loI_is h hk hl
  have ht := (mk_parts.1 h).1
  exact ⟨a.pos hk hl, Int.le_trans (a.le ht.posF) (ht.cell hk hl).2⟩
end
end Go.Proofs.YtobgceebolmfcaaDoor
namespace Go.Proofs.YtobgceebolmfcaaDoor
open Go.RowKit
def allz (x : List Int) : Bool := x.all fun y => decide (y = 0)
theorem allz_of {x : List Int} (h : ∀ k, k < x.length → x.getD k 0 = 0) : allz x = true := by
  unfold allz
  rw [List.all_eq_true]
  intro y hy
  obtain ⟨k, hk, rfl⟩ := List.getElem_of_mem hy
  have := h k hk
  rw [getD_of _ _ hk] at this
  simp [this]
theorem allz_no {x : List Int} {k : Nat} (hk : k < x.length) (h : x.getD k 0 ≠ 0) : allz x = false := by
  cases e : allz x
  · rfl
  · unfold allz at e
    rw [List.all_eq_true] at e
    have := e _ (List.getElem_mem hk)
    rw [getD_of _ _ hk] at h
    simp at this; exact absurd this h
/-- The sizes of rows and flags. -/
structure Shp (t : Tb) (m : Mk) (q d : Nat) : Prop where
  tl : t.length = q
  ml : m.length = q
  tr : ∀ k, k < q → (t.getD k []).length = d
  mr : ∀ k, k < q → (m.getD k []).length = d
  q1 : 1 ≤ q
  q4 : q ≤ 4
  d1 : 1 ≤ d
  d4 : d ≤ 4
theorem shp_of {t : Tb} {m : Mk} (h : mkOk t m = true) : Shp t m t.length (wd t) := by
  obtain ⟨ht, hl, hr⟩ := mk_parts.1 h
  exact ⟨rfl, hl, fun k hk => ht.rlen hk, fun k hk => hr _ (by rw [getD_of _ _ (by omega)]; exact List.getElem_mem _), ht.h1, ht.h4, ht.w1, ht.w4⟩
theorem Shp.set {t : Tb} {m : Mk} {q d k l : Nat} {v : Int} (h : Shp t m q d) (hk : k < q) : Shp (t.set k ((t.getD k []).set l v)) m q d := by
  refine ⟨by rw [List.length_set]; exact h.tl, h.ml, fun a ha => ?_, h.mr, h.q1, h.q4, h.d1, h.d4⟩
  by_cases e : k = a
  · subst e
    rw [List.getD_eq_getElem?_getD, List.getElem?_set_self (by rw [h.tl]; exact hk)]
    show ((t.getD k []).set l v).length = d
    rw [List.length_set]; exact h.tr k hk
  · rw [List.getD_eq_getElem?_getD, List.getElem?_set_ne e, ← List.getD_eq_getElem?_getD]; exact h.tr a ha
section
variable {q d : Nat} {h : Nat → Nat → Bool} {x : Tf} {raise : Bool} {k l p to : Nat}
theorem pth_row (hk : k < q) (ht : to = q + l) : pthOk q h x raise k to = (h k l && (!raise || decide (0 < x k l))) := by
  have e : to - q = l := by omega
  simp only [pthOk, hk, if_true, show ¬ to < q by omega, if_false, e]
theorem pth_col (hk : k < q) (ht : p = q + l) : pthOk q h x raise p k = (h k l && (raise || decide (0 < x k l))) := by
  have e : p - q = l := by omega
  simp only [pthOk, hk, if_true, show ¬ p < q by omega, if_false, e]
theorem pth_rows (hp : p < q) (ht : to < q) : pthOk q h x raise p to = false := by simp [pthOk, hp, ht]
theorem pth_cols (hp : ¬ p < q) (ht : ¬ to < q) : pthOk q h x raise p to = false := by simp [pthOk, hp, ht]
end
end Go.Proofs.YtobgceebolmfcaaDoor
