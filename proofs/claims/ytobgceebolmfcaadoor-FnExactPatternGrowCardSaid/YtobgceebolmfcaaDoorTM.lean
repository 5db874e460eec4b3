/- Tables: what they are. -/
import Derived.Test.YtobgceebolmfcaaDoorA2
namespace Go.Proofs.YtobgceebolmfcaaDoor
open Go.RowKit
abbrev Tb := List (List Int)
/-- The number of columns. -/
def wd (t : Tb) : Nat := (t.headD []).length
def rowOk (w : Nat) (r : List Int) : Bool := decide (r.length = w) && r.all fun x => in3 x 0 99
def tabOk (t : Tb) : Bool := in3 t.length 1 4 && in3 (wd t) 1 4 && t.all (rowOk (wd t))
def rsum (t : Tb) : List Int := t.map List.sum
def col (t : Tb) (j : Nat) : List Int := t.map fun r => r.getD j 0
def csum (t : Tb) : List Int := (List.range (wd t)).map fun j => (col t j).sum
def turn (t : Tb) : Tb := (List.range (wd t)).map fun j => col t j
def tsum (t : Tb) : Int := (rsum t).sum
def ttot (t : Tb) : Int := if tabOk t = true then tsum t else -1
structure Tab (t : Tb) : Prop where
  h1 : 1 ≤ t.length
  h4 : t.length ≤ 4
  w1 : 1 ≤ wd t
  w4 : wd t ≤ 4
  len : ∀ r ∈ t, r.length = wd t
  bd : ∀ r ∈ t, ∀ x ∈ r, 0 ≤ x ∧ x ≤ 99
theorem tab_iff {t : Tb} : tabOk t = true ↔ Tab t := by
  simp only [tabOk, rowOk, in3, Bool.and_eq_true, decide_eq_true_eq, List.all_eq_true]
  constructor
  · rintro ⟨⟨⟨a, b⟩, c, d⟩, e⟩
    exact ⟨by omega, by omega, by omega, by omega, fun r hr => (e r hr).1, fun r hr x hx => (e r hr).2 x hx⟩
  · rintro ⟨a, b, c, d, e, f⟩
    exact ⟨⟨⟨by omega, by omega⟩, by omega, by omega⟩, fun r hr => ⟨e r hr, fun x hx => f r hr x hx⟩⟩
theorem wd_mem {t : Tb} (h : Tab t) : t.headD [] ∈ t := by
  cases t with
  | nil => have := h.h1; simp at this
  | cons r t => simp
theorem wd_of {t : Tb} (h : 1 ≤ t.length) {w : Nat} (hw : ∀ r ∈ t, r.length = w) : wd t = w := by
  cases t with
  | nil => simp at h
  | cons r t => exact hw r (by simp)
theorem col_len (t : Tb) (j : Nat) : (col t j).length = t.length := List.length_map ..
theorem turn_len (t : Tb) : (turn t).length = wd t := by simp [turn]
theorem csum_len (t : Tb) : (csum t).length = wd t := by simp [csum]
theorem rsum_len (t : Tb) : (rsum t).length = t.length := List.length_map ..
theorem rsum_turn (t : Tb) : rsum (turn t) = csum t := by simp [rsum, turn, csum, List.map_map, Function.comp_def]
theorem turn_rect (t : Tb) : ∀ r ∈ turn t, r.length = t.length := fun r hr => by
  obtain ⟨j, _, rfl⟩ := List.mem_map.1 hr; exact col_len t j
theorem wd_turn {t : Tb} (h : 1 ≤ wd t) : wd (turn t) = t.length := wd_of (by rw [turn_len]; exact h) (turn_rect t)
theorem getD_of {α : Type} (l : List α) (d : α) {i : Nat} (h : i < l.length) : l.getD i d = l[i] := by rw [List.getD_eq_getElem?_getD, List.getElem?_eq_getElem h]; rfl
theorem turn_get (t : Tb) {j : Nat} (hj : j < wd t) : (turn t).getD j [] = col t j := by
  rw [getD_of _ _ (by rw [turn_len]; exact hj)]; simp [turn]
theorem col_get (t : Tb) (j : Nat) {i : Nat} (hi : i < t.length) : (col t j).getD i 0 = (t.getD i []).getD j 0 := by
  rw [getD_of _ _ (by rw [col_len]; exact hi), getD_of _ _ hi]; simp [col]
theorem col_turn {t : Tb} (h : ∀ r ∈ t, r.length = wd t) {i : Nat} (hi : i < t.length) : col (turn t) i = t.getD i [] := by
  have hr : (t.getD i []).length = wd t := by rw [getD_of _ _ hi]; exact h _ (List.getElem_mem hi)
  refine List.ext_getElem (by rw [col_len, turn_len, hr]) fun j h1 h2 => ?_
  rw [col_len, turn_len] at h1
  rw [← getD_of (col (turn t) i) 0 (by rw [col_len, turn_len]; exact h1), col_get _ _ (by rw [turn_len]; exact h1), turn_get t h1, col_get _ _ hi, getD_of _ _ (by rw [hr]; exact h1)]
theorem turn_turn {t : Tb} (h : ∀ r ∈ t, r.length = wd t) (hw : 1 ≤ wd t) : turn (turn t) = t := by
  refine List.ext_getElem (by rw [turn_len, wd_turn hw]) fun i h1 h2 => ?_
  have e : (turn (turn t))[i] = col (turn t) i := by simp [turn]
  rw [e, col_turn h h2, getD_of _ _ h2]
theorem csum_turn {t : Tb} (h : ∀ r ∈ t, r.length = wd t) (hw : 1 ≤ wd t) : csum (turn t) = rsum t := by
  rw [← rsum_turn, turn_turn h hw]
theorem sum_map_add (f g : Nat → Int) : ∀ L : List Nat, (L.map fun j => f j + g j).sum = (L.map f).sum + (L.map g).sum
  | [] => rfl
  | j :: L => by simp only [List.map_cons, List.sum_cons, sum_map_add f g L]; omega
theorem sum_map_zero : ∀ L : List Nat, (L.map fun _ => (0 : Int)).sum = 0
  | [] => rfl
  | _ :: L => by simp only [List.map_cons, List.sum_cons, sum_map_zero L]; rfl
theorem sum_range_get (r : List Int) : ((List.range r.length).map fun j => r.getD j 0).sum = r.sum := by
  have e : (List.range r.length).map (fun j => r.getD j 0) = r := by
    refine List.ext_getElem (by simp) fun i h1 h2 => ?_
    simp [h2]
  rw [e]
theorem csum_sum {t : Tb} {w : Nat} (h : ∀ r ∈ t, r.length = w) : ((List.range w).map fun j => (col t j).sum).sum = tsum t := by
  induction t with
  | nil => simp only [col, List.map_nil, List.sum_nil, tsum, rsum]; exact sum_map_zero _
  | cons r t ih =>
    have e : (fun j => (col (r :: t) j).sum) = fun j => r.getD j 0 + (col t j).sum := by funext j; simp [col]
    rw [e, sum_map_add, ih fun s hs => h s (List.mem_cons_of_mem _ hs)]
    have hr := h r (by simp)
    rw [← hr, sum_range_get]
    simp [tsum, rsum]
theorem tsum_csum {t : Tb} (h : ∀ r ∈ t, r.length = wd t) : (csum t).sum = tsum t := csum_sum h
theorem tsum_turn {t : Tb} (h : ∀ r ∈ t, r.length = wd t) : tsum (turn t) = tsum t := by
  rw [tsum, rsum_turn, tsum_csum h]
theorem tab_turn {t : Tb} (h : Tab t) : Tab (turn t) := by
  refine ⟨by rw [turn_len]; exact h.w1, by rw [turn_len]; exact h.w4, by rw [wd_turn h.w1]; exact h.h1, by rw [wd_turn h.w1]; exact h.h4, fun r hr => by rw [wd_turn h.w1]; exact turn_rect t r hr, fun r hr x hx => ?_⟩
  obtain ⟨j, hj, rfl⟩ := List.mem_map.1 hr
  obtain ⟨s, hs, rfl⟩ := List.mem_map.1 hx
  have hl := h.len s hs
  rw [getD_of _ _ (by rw [hl]; exact List.mem_range.1 hj)]
  exact h.bd s hs _ (List.getElem_mem _)
/-- Two rows added up. -/
def addRow (x y : List Int) : List Int := List.zipWith (· + ·) x y
def foldT (t : Tb) (a b : Nat) : Tb := (t.set a (addRow (t.getD a []) (t.getD b []))).eraseIdx b
def foldOk (t : Tb) (a b : Int) : Bool := tabOk t && in3 b 0 (t.length - 1) && in3 a 0 (b - 1) && tabOk (foldT t a.toNat b.toNat)
def foldI (t : Tb) (a b : Int) : Tb := if foldOk t a b = true then foldT t a.toNat b.toNat else []
theorem addRow_len {x y : List Int} (h : x.length = y.length) : (addRow x y).length = x.length := by simp [addRow, h]
theorem addRow_sum : ∀ {x y : List Int}, x.length = y.length → (addRow x y).sum = x.sum + y.sum
  | [], [], _ => rfl
  | a :: x, b :: y, h => by
    have := addRow_sum (x := x) (y := y) (by simpa using h)
    simp only [addRow, List.zipWith_cons_cons, List.sum_cons] at this ⊢; omega
  | [], _ :: _, h => by simp at h
  | _ :: _, [], h => by simp at h
theorem addRow_get {x y : List Int} (h : x.length = y.length) (j : Nat) : (addRow x y).getD j 0 = x.getD j 0 + y.getD j 0 := by
  by_cases hj : j < x.length
  · rw [getD_of _ _ (by rw [addRow_len h]; exact hj), getD_of _ _ hj, getD_of _ _ (by omega)]; simp [addRow]
  · have no : ∀ {z : List Int}, z.length ≤ j → z.getD j 0 = 0 := fun {z} hz => by rw [List.getD_eq_getElem?_getD, List.getElem?_eq_none hz]; rfl
    rw [no (by rw [addRow_len h]; omega), no (by omega), no (by omega)]; rfl
theorem sum_set : ∀ (x : List Int) (a : Nat) (v : Int), a < x.length → (x.set a v).sum = x.sum - x.getD a 0 + v
  | [], _, _, h => by simp at h
  | c :: x, 0, v, _ => by simp; omega
  | c :: x, a + 1, v, h => by
    have := sum_set x a v (by simpa using h)
    simp only [List.set_cons_succ, List.sum_cons, List.getD_cons_succ, this]; omega
theorem sum_erase : ∀ (x : List Int) (b : Nat), b < x.length → (x.eraseIdx b).sum = x.sum - x.getD b 0
  | [], _, h => by simp at h
  | c :: x, 0, _ => by simp; omega
  | c :: x, b + 1, h => by
    have := sum_erase x b (by simpa using h)
    simp only [List.eraseIdx_cons_succ, List.sum_cons, List.getD_cons_succ, this]; omega
theorem map_eraseIdx {α β : Type} (f : α → β) : ∀ (x : List α) (b : Nat), (x.eraseIdx b).map f = (x.map f).eraseIdx b
  | [], _ => by simp
  | c :: x, 0 => by simp
  | c :: x, b + 1 => by simp [map_eraseIdx f x b]
theorem getD_set {α : Type} (x : List α) (a b : Nat) (v d : α) (h : a ≠ b) : (x.set a v).getD b d = x.getD b d := by
  rw [List.getD_eq_getElem?_getD, List.getElem?_set_ne h, List.getD_eq_getElem?_getD]
/-- The sum of any reading that adds up is kept by folding. -/
theorem fold_sum (t : Tb) (f : List Int → Int) {a b : Nat} (ha : a < b) (hb : b < t.length) (hf : f (addRow (t.getD a []) (t.getD b [])) = f (t.getD a []) + f (t.getD b [])) : ((foldT t a b).map f).sum = (t.map f).sum := by
  have hl : b < (t.map f).length := by rw [List.length_map]; exact hb
  have ga : ∀ i, i < t.length → (t.map f).getD i 0 = f (t.getD i []) := fun i hi => by rw [getD_of _ _ (by rw [List.length_map]; exact hi), getD_of _ _ hi]; simp
  rw [foldT, map_eraseIdx, List.map_set, sum_erase _ _ (by rw [List.length_set]; exact hl), sum_set _ _ _ (by omega), getD_set _ _ _ _ _ (by omega), hf, ga a (by omega), ga b hb]
  omega
theorem fold_len (t : Tb) {a b : Nat} (hb : b < t.length) : (foldT t a b).length = t.length - 1 := by
  rw [foldT, List.length_eraseIdx, List.length_set, if_pos hb]
theorem foldOk_parts {t : Tb} {a b : Int} (h : foldOk t a b = true) : Tab t ∧ ∃ i j : Nat, a = i ∧ b = j ∧ i < j ∧ j < t.length ∧ Tab (foldT t i j) ∧ foldI t a b = foldT t i j := by
  have h0 := h
  simp only [foldOk, Bool.and_eq_true, in3, decide_eq_true_eq] at h
  obtain ⟨⟨⟨h1, h2⟩, h3⟩, h4⟩ := h
  refine ⟨tab_iff.1 h1, a.toNat, b.toNat, by omega, by omega, by omega, by omega, tab_iff.1 h4, by rw [foldI, if_pos h0]⟩
theorem fold_rect {t : Tb} (h : Tab t) {a b : Nat} (ha : a < b) (hb : b < t.length) : ∀ r ∈ foldT t a b, r.length = wd t := fun r hr => by
  have h1 := List.mem_of_mem_eraseIdx hr
  rcases List.mem_or_eq_of_mem_set h1 with h2 | rfl
  · exact h.len r h2
  · have la : (t.getD a []).length = wd t := by rw [getD_of _ _ (by omega)]; exact h.len _ (List.getElem_mem _)
    have lb : (t.getD b []).length = wd t := by rw [getD_of _ _ hb]; exact h.len _ (List.getElem_mem _)
    rw [addRow_len (by rw [la, lb]), la]
theorem fold_wd {t : Tb} (h : Tab t) {a b : Nat} (ha : a < b) (hb : b < t.length) : wd (foldT t a b) = wd t := wd_of (by rw [fold_len t hb]; omega) (fold_rect h ha hb)
theorem fold_csum {t : Tb} (h : Tab t) {a b : Nat} (ha : a < b) (hb : b < t.length) : csum (foldT t a b) = csum t := by
  have la : (t.getD a []).length = wd t := by rw [getD_of _ _ (by omega)]; exact h.len _ (List.getElem_mem _)
  have lb : (t.getD b []).length = wd t := by rw [getD_of _ _ hb]; exact h.len _ (List.getElem_mem _)
  unfold csum
  rw [fold_wd h ha hb]
  refine List.map_congr_left fun j _ => ?_
  exact fold_sum t (fun r => r.getD j 0) ha hb (addRow_get (by rw [la, lb]) j)
theorem fold_tsum {t : Tb} (h : Tab t) {a b : Nat} (ha : a < b) (hb : b < t.length) : tsum (foldT t a b) = tsum t := by
  have la : (t.getD a []).length = wd t := by rw [getD_of _ _ (by omega)]; exact h.len _ (List.getElem_mem _)
  have lb : (t.getD b []).length = wd t := by rw [getD_of _ _ hb]; exact h.len _ (List.getElem_mem _)
  exact fold_sum t List.sum ha hb (addRow_sum (by rw [la, lb]))
/-- The row of a folded table. -/
theorem fold_get (t : Tb) {a b : Nat} (ha : a < b) (_hb : b < t.length) {i : Nat} (hi : i < t.length) (hib : i ≠ b) :
    (foldT t a b).getD (if i < b then i else i - 1) [] = if i = a then addRow (t.getD a []) (t.getD b []) else t.getD i [] := by
  rw [foldT, List.getD_eq_getElem?_getD, List.getElem?_eraseIdx]
  by_cases h1 : i < b
  · rw [if_pos h1, if_pos h1]
    by_cases h2 : i = a
    · subst h2; rw [if_pos rfl, List.getElem?_set_self (by omega)]; rfl
    · rw [if_neg h2, List.getElem?_set_ne (by omega), List.getD_eq_getElem?_getD]
  · rw [if_neg h1, if_neg (by omega), if_neg (by omega), show i - 1 + 1 = i by omega, List.getElem?_set_ne (by omega), List.getD_eq_getElem?_getD]
/-- A table of one row less: the rows that are left are one. -/
theorem fold_two {t : Tb} (h : Tab t) (h2 : t.length = 2) : foldT t 0 1 = [csum t] := by
  match t, h2 with
  | [x, y], _ =>
    have hx := h.len x (by simp)
    have hy := h.len y (by simp)
    have e : foldT [x, y] 0 1 = [addRow x y] := rfl
    rw [e]
    congr 1
    refine List.ext_getElem (by rw [addRow_len (by omega), csum_len, hx]) fun j h1 _ => ?_
    have hj : j < x.length := by rwa [addRow_len (by omega)] at h1
    rw [← getD_of _ 0 h1, addRow_get (by omega)]
    simp [csum, col]
end Go.Proofs.YtobgceebolmfcaaDoor
