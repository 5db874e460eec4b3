/- What a ladder is: plain lists of integers. Groups: plain lists of keys. Recodings and groups of people: what they are. The mathematics of chapter 3's laws. -/
import Derived.Test.YtobgceebolmfcaaDoorChecked
import Derived.Test.YtobgceebolmfcaaDoorA1
namespace Go.Proofs.YtobgceebolmfcaaDoor
open Go.RowKit
def inC (c n : Int) : Bool := decide (0 ≤ c) && decide (c < n)
def okP (p : Pn) : Bool := inC p.area 4 && inC p.job 4 && inC p.sex 2 && decide (0 ≤ p.pay) && decide (p.pay ≤ 999)
/-- a code that is asked for: -1 or one of the first n. -/
def ask1 (c n : Int) : Bool := decide (-1 ≤ c) && decide (c < n)
def ask3 (a j s : Int) : Bool := ask1 a 4 && ask1 j 4 && ask1 s 2
def fit1 (c a : Int) : Bool := decide (a < 0) || decide (c = a)
def fit3 (p : Pn) (a j s : Int) : Bool := fit1 p.area a && fit1 p.job j && fit1 p.sex s
end Go.Proofs.YtobgceebolmfcaaDoor
namespace Go.Proofs.YtobgceebolmfcaaDoor
open Go.RowKit
def okL (l : List Pn) : Bool := decide (l.length ≤ 40) && l.all okP
def band (x : Int) : Int := if 0 ≤ x ∧ x ≤ 999 then x / 100 else -1

theorem take_all (l : List Pn) (k : Nat) (hk : k < l.length) : (l.take (k + 1)).all okP = ((l.take k).all okP && okP l[k]) := by
  rw [List.take_succ_eq_append_getElem hk, List.all_append]; simp
theorem all_no (l : List Pn) (k : Nat) (hk : k < l.length) (h : okP l[k] = false) : l.all okP = false := by
  rw [List.all_eq_false]; exact ⟨l[k], List.getElem_mem hk, by simp [h]⟩

theorem okP_pay {p : Pn} (h : okP p = true) : 0 ≤ p.pay ∧ p.pay ≤ 999 := by
  simp [okP] at h; omega
theorem okL_all {l : List Pn} (h : okL l = true) : l.length ≤ 40 ∧ l.all okP = true := by
  simpa [okL] using h
theorem all_take {l : List Pn} (h : l.all okP = true) (k : Nat) : (l.take k).all okP = true := by
  rw [List.all_eq_true] at *; exact fun x hx => h x (List.mem_of_mem_take hx)

end Go.Proofs.YtobgceebolmfcaaDoor
namespace Go.Proofs.YtobgceebolmfcaaDoor
def ig (x : List Int) (i : Int) : Int := x.getD i.toNat 0
def stepAt (x : List Int) (j : Nat) : Bool := in3 (x.getD j 0) 0 j && decide (ig x (x.getD j 0) = x.getD j 0)
def stepOk (x : List Int) : Bool := decide (x.length = 4) && (List.range x.length).all (stepAt x)
def cAt (f x : List Int) (j : Nat) : Bool := decide (ig x (f.getD j 0) = x.getD j 0)
def coarser (f x : List Int) : Bool := (List.range 4).all (cAt f x)
def rungAt (ll : List (List Int)) (k : Nat) : Bool := stepOk (ll.getD k []) && (decide (k = 0) || coarser (ll.getD (k - 1) []) (ll.getD k []))
def ladOk (ll : List (List Int)) : Bool := decide (ll.length ≤ 3) && (List.range ll.length).all (rungAt ll)
def codeAt (ll : List (List Int)) (level code : Int) : Int := if level = 0 then code else ig (ll.getD (level - 1).toNat []) code
def codeOk (ll : List (List Int)) (level code : Int) : Bool := ladOk ll && in3 level 0 ll.length && in3 code 0 3
def lcode (ll : List (List Int)) (level code : Int) : Int := if codeOk ll level code = true then codeAt ll level code else 0
def groupsTo (ll : List (List Int)) (level : Int) (k : Nat) : Int := (((List.range k).filter fun i : Nat => codeAt ll level i == (i : Int)).length : Nat)
def groupOk (ll : List (List Int)) (level : Int) : Bool := ladOk ll && in3 level 0 ll.length
def lgroups (ll : List (List Int)) (level : Int) : Int := if groupOk ll level = true then groupsTo ll level 4 else -1
def mcell (ll : List (List Int)) (x y : Int) (i : Nat) : Int :=
  if codeAt ll ll.length i = x ∨ codeAt ll ll.length i = y then min x y else codeAt ll ll.length i
def mergeOk (ll : List (List Int)) (a b : Int) : Bool :=
  ladOk ll && !decide (ll.length = 3) && in3 a 0 3 && in3 b 0 3 && !decide (codeAt ll ll.length a = codeAt ll ll.length b)
def mrow (ll : List (List Int)) (a b : Int) (k : Nat) : List Int := (List.range k).map (mcell ll (codeAt ll ll.length a) (codeAt ll ll.length b))
def lmerge (ll : List (List Int)) (a b : Int) : List (List Int) := if mergeOk ll a b = true then ll ++ [mrow ll a b 4] else []

theorem all_range {n : Nat} {p : Nat → Bool} : (List.range n).all p = true ↔ ∀ j, j < n → p j = true := by simp [List.all_eq_true]
theorem all_range_no {n : Nat} {p : Nat → Bool} (k : Nat) (hk : k < n) (h : p k = false) : (List.range n).all p = false := by
  rw [List.all_eq_false]; exact ⟨k, by simpa using hk, by simp [h]⟩
theorem stepOk_vals {x : List Int} (h : stepOk x = true) : x.length = 4 ∧ ∀ j, j < 4 → ∃ v : Nat, x.getD j 0 = v ∧ v ≤ j ∧ x.getD v 0 = v := by
  simp only [stepOk, Bool.and_eq_true, decide_eq_true_eq, all_range] at h
  refine ⟨h.1, fun j hj => ?_⟩
  have h2 := h.2 j (by omega)
  simp only [stepAt, in3, Bool.and_eq_true, decide_eq_true_eq] at h2
  obtain ⟨⟨h3, h4⟩, h5⟩ := h2
  obtain ⟨v, hv⟩ := Int.eq_ofNat_of_zero_le h3
  rw [hv] at h4 h5
  exact ⟨v, hv, by omega, by simpa [ig] using h5⟩
def prodSteps : List (List Int) := [0, 1].flatMap fun b => [0, 1, 2].flatMap fun c => [0, 1, 2, 3].map fun d => [0, b, c, d]
def allSteps : List (List Int) := prodSteps.filter stepOk
theorem step_mem {x : List Int} (h : stepOk x = true) : x ∈ allSteps := by
  obtain ⟨hl, hv⟩ := stepOk_vals h
  obtain ⟨v0, e0, b0, _⟩ := hv 0 (by omega)
  obtain ⟨v1, e1, b1, _⟩ := hv 1 (by omega)
  obtain ⟨v2, e2, b2, _⟩ := hv 2 (by omega)
  obtain ⟨v3, e3, b3, _⟩ := hv 3 (by omega)
  have hx : x = [(v0 : Int), v1, v2, v3] := by
    rcases x with _ | ⟨a, _ | ⟨b, _ | ⟨c, _ | ⟨d, _ | ⟨e, x⟩⟩⟩⟩⟩ <;> simp at hl
    simp only [List.getD_cons_zero, List.getD_cons_succ] at e0 e1 e2 e3
    rw [e0, e1, e2, e3]
  refine List.mem_filter.2 ⟨?_, h⟩
  rw [hx]
  obtain rfl : v0 = 0 := by omega
  rcases (show v1 = 0 ∨ v1 = 1 by omega) with rfl | rfl <;> rcases (show v2 = 0 ∨ v2 = 1 ∨ v2 = 2 by omega) with rfl | rfl | rfl <;>
    rcases (show v3 = 0 ∨ v3 = 1 ∨ v3 = 2 ∨ v3 = 3 by omega) with rfl | rfl | rfl | rfl <;> decide
def lads2 (a : List Int) : List (List (List Int)) := (allSteps.filter (coarser a)).map fun b => [a, b]
def lads3 (a : List Int) : List (List (List Int)) := (allSteps.filter (coarser a)).flatMap fun b => (allSteps.filter (coarser b)).map fun c => [a, b, c]
def lads : List (List (List Int)) := [[]] ++ (allSteps.map fun a => [a]) ++ allSteps.flatMap lads2 ++ allSteps.flatMap lads3
theorem lad_mem {ll : List (List Int)} (h : ladOk ll = true) : ll ∈ lads := by
  simp only [ladOk, Bool.and_eq_true, decide_eq_true_eq, all_range] at h
  obtain ⟨hl, hr⟩ := h
  unfold lads
  rcases ll with _ | ⟨a, _ | ⟨b, _ | ⟨c, _ | ⟨d, ll⟩⟩⟩⟩
  · simp
  · have h0 := hr 0 (by simp)
    simp [rungAt] at h0
    simp only [List.mem_append, List.mem_map, List.mem_flatMap]
    exact .inl (.inl (.inr ⟨a, step_mem h0, rfl⟩))
  · have h0 := hr 0 (by simp)
    have h1 := hr 1 (by simp)
    simp [rungAt] at h0 h1
    simp only [List.mem_append, List.mem_map, List.mem_flatMap, lads2, List.mem_filter]
    exact .inl (.inr ⟨a, step_mem h0, b, ⟨step_mem h1.1, h1.2⟩, rfl⟩)
  · have h0 := hr 0 (by simp)
    have h1 := hr 1 (by simp)
    have h2 := hr 2 (by simp)
    simp [rungAt] at h0 h1 h2
    simp only [List.mem_append, List.mem_map, List.mem_flatMap, lads3, List.mem_filter]
    exact .inr ⟨a, step_mem h0, b, ⟨step_mem h1.1, h1.2⟩, c, ⟨step_mem h2.1, h2.2⟩, rfl⟩
  · simp at hl
def nats (n : Nat) : List Int := (List.range n).map Int.ofNat
theorem nats_mem {n : Nat} {x : Int} (h0 : 0 ≤ x) (h1 : x < n) : x ∈ nats n := by
  simp only [nats, List.mem_map, List.mem_range]
  exact ⟨x.toNat, by omega, by simp; omega⟩
/-- Everything of a ladder, a level and a code that is asked of them, reckoned over all ladders. -/
theorem by_all (p : List (List Int) → Int → Int → Bool) (h : (lads.all fun ll => (nats (ll.length + 1)).all fun l => (nats 4).all fun c => p ll l c) = true)
    {ll : List (List Int)} (hll : ladOk ll = true) {l c : Int} (l0 : 0 ≤ l) (l1 : l ≤ ll.length) (c0 : 0 ≤ c) (c1 : c ≤ 3) : p ll l c = true :=
  List.all_eq_true.1 (List.all_eq_true.1 (List.all_eq_true.1 h ll (lad_mem hll)) l (nats_mem l0 (by omega))) c (nats_mem c0 (by omega))
theorem by_two (p : List (List Int) → Int → Int → Bool) (h : (lads.all fun ll => (nats 4).all fun a => (nats 4).all fun b => p ll a b) = true)
    {ll : List (List Int)} (hll : ladOk ll = true) {a b : Int} (a0 : 0 ≤ a) (a1 : a ≤ 3) (b0 : 0 ≤ b) (b1 : b ≤ 3) : p ll a b = true :=
  List.all_eq_true.1 (List.all_eq_true.1 (List.all_eq_true.1 h ll (lad_mem hll)) a (nats_mem a0 (by omega))) b (nats_mem b0 (by omega))
theorem by_one (p : List (List Int) → Bool) (h : lads.all p = true) {ll : List (List Int)} (hll : ladOk ll = true) : p ll = true :=
  List.all_eq_true.1 h ll (lad_mem hll)
end Go.Proofs.YtobgceebolmfcaaDoor
namespace Go.Proofs.YtobgceebolmfcaaDoor
section
variable {α : Type} [DecidableEq α]
def cn (x : List α) (a : α) : Nat := (x.filter fun b => decide (b = a)).length
/-- The number of different ones. -/
def many1 : List α → Nat
  | [] => 0
  | a :: l => many1 l + if a ∈ l then 0 else 1
/-- The least group: from the length down over the groups of all that are there. -/
def least1 (x : List α) : Nat := (x.map (cn x)).foldl min x.length
def uniq1 (x : List α) : Nat := (x.filter fun a => decide (cn x a = 1)).length
theorem cn_nil (a : α) : cn [] a = 0 := rfl
theorem cn_cons (b : α) (x : List α) (a : α) : cn (b :: x) a = cn x a + if b = a then 1 else 0 := by
  unfold cn; rw [List.filter_cons]; by_cases h : b = a <;> simp [h]
theorem cn_app (x y : List α) (a : α) : cn (x ++ y) a = cn x a + cn y a := by simp [cn]
theorem cn_le (x : List α) (a : α) : cn x a ≤ x.length := List.length_filter_le _ _
theorem cn_pos {x : List α} {a : α} : 0 < cn x a ↔ a ∈ x := by
  unfold cn; rw [List.length_pos_iff_exists_mem]; constructor
  · rintro ⟨b, hb⟩; obtain ⟨h1, h2⟩ := List.mem_filter.1 hb; have : b = a := by simpa using h2
    exact this ▸ h1
  · intro h; exact ⟨a, List.mem_filter.2 ⟨h, by simp⟩⟩
theorem cn_zero {x : List α} {a : α} (h : a ∉ x) : cn x a = 0 := by
  have := cn_pos (x := x) (a := a)
  rcases Nat.eq_zero_or_pos (cn x a) with h0 | h0
  · exact h0
  · exact absurd (this.1 h0) h
theorem cn_perm {x y : List α} (h : x.Perm y) (a : α) : cn x a = cn y a := (h.filter _).length_eq
theorem many1_perm {x y : List α} (h : x.Perm y) : many1 x = many1 y := by
  induction h with
  | nil => rfl
  | cons a h ih => simp only [many1, ih, h.mem_iff]
  | swap a b l =>
    simp only [many1, List.mem_cons]
    by_cases hab : b = a
    · subst hab; rfl
    · have hba : ¬ a = b := fun e => hab e.symm
      simp only [hab, hba, false_or]
      omega
  | trans _ _ ih1 ih2 => exact ih1.trans ih2
theorem uniq1_perm {x y : List α} (h : x.Perm y) : uniq1 x = uniq1 y := by
  unfold uniq1
  have e : (fun a => decide (cn x a = 1)) = fun a => decide (cn y a = 1) := by funext a; rw [cn_perm h]
  rw [e]; exact (h.filter _).length_eq
theorem foldl_min_le (l : List Nat) (n : Nat) : l.foldl min n ≤ n ∧ ∀ a ∈ l, l.foldl min n ≤ a := by
  induction l generalizing n with
  | nil => simp
  | cons a l ih =>
    obtain ⟨h1, h2⟩ := ih (min n a)
    refine ⟨by simp only [List.foldl_cons]; omega, fun b hb => ?_⟩
    simp only [List.foldl_cons]
    rcases List.mem_cons.1 hb with rfl | hb
    · omega
    · exact h2 b hb
theorem foldl_min_mem (l : List Nat) (n : Nat) : l.foldl min n = n ∨ l.foldl min n ∈ l := by
  induction l generalizing n with
  | nil => simp
  | cons a l ih =>
    simp only [List.foldl_cons]
    rcases ih (min n a) with h | h
    · rw [h]
      rcases Nat.le_total n a with h2 | h2
      · left; omega
      · right; rw [Nat.min_eq_right h2]; simp
    · right; exact List.mem_cons_of_mem _ h
theorem least1_le (x : List α) {a : α} (h : a ∈ x) : least1 x ≤ cn x a := (foldl_min_le _ _).2 _ (List.mem_map.2 ⟨a, h, rfl⟩)
theorem least1_is (x : List α) (h : x ≠ []) : ∃ a ∈ x, least1 x = cn x a := by
  rcases foldl_min_mem (x.map (cn x)) x.length with h1 | h1
  · cases x with
    | nil => exact absurd rfl h
    | cons a l =>
      refine ⟨a, by simp, ?_⟩
      have h2 := least1_le (a :: l) (a := a) (by simp)
      have h3 := cn_le (a :: l) a
      unfold least1 at *
      omega
  · obtain ⟨a, ha, he⟩ := List.mem_map.1 h1
    exact ⟨a, ha, he.symm⟩
theorem least1_nil : least1 ([] : List α) = 0 := rfl
theorem least1_pos {x : List α} (h : x ≠ []) : 1 ≤ least1 x := by
  obtain ⟨a, ha, he⟩ := least1_is x h
  rw [he]; exact cn_pos.2 ha
/-- The least group is told by what it is. -/
theorem least1_eq {x : List α} {n : Nat} (h1 : ∀ a ∈ x, n ≤ cn x a) (h2 : ∃ a ∈ x, cn x a = n) : least1 x = n := by
  obtain ⟨a, ha, he⟩ := h2
  obtain ⟨b, hb, hb2⟩ := least1_is x (fun e => by rw [e] at ha; cases ha)
  have := least1_le x ha
  have := h1 b hb
  omega
theorem least1_perm {x y : List α} (h : x.Perm y) : least1 x = least1 y := by
  by_cases hy : y = []
  · subst hy; have := h.eq_nil; subst this; rfl
  · obtain ⟨a, ha, he⟩ := least1_is y hy
    exact least1_eq (fun b hb => by rw [cn_perm h]; exact least1_le y (h.mem_iff.1 hb)) ⟨a, h.mem_iff.2 ha, by rw [cn_perm h]; exact he.symm⟩
theorem many1_le (x : List α) : many1 x ≤ x.length := by
  induction x with
  | nil => simp [many1]
  | cons a l ih => simp only [many1, List.length_cons]; split <;> omega
/-- All but one kind. -/
def but (x : List α) (a : α) : List α := x.filter fun b => !decide (b = a)
theorem but_mem {x : List α} {a b : α} : b ∈ but x a ↔ b ∈ x ∧ b ≠ a := by simp [but]
theorem many1_but (x : List α) (a : α) : many1 x = many1 (but x a) + if a ∈ x then 1 else 0 := by
  induction x with
  | nil => simp [many1, but]
  | cons b l ih =>
    by_cases hb : b = a
    · subst hb
      have e : but (b :: l) b = but l b := by simp [but]
      rw [e]; simp only [many1]
      by_cases hm : b ∈ l
      · simp [hm] at ih ⊢; omega
      · simp [hm] at ih ⊢; omega
    · have e : but (b :: l) a = b :: but l a := by simp [but, hb]
      rw [e]; simp only [many1]
      have h1 : b ∈ but l a ↔ b ∈ l := by rw [but_mem]; exact ⟨fun h => h.1, fun h => ⟨h, hb⟩⟩
      have h2 : a ∈ b :: l ↔ a ∈ l := by rw [List.mem_cons]; exact ⟨fun h => h.resolve_left (fun e => hb e.symm), .inr⟩
      simp only [h1, h2]; omega
theorem cn_but {x : List α} {a b : α} (h : b ≠ a) : cn (but x a) b = cn x b := by
  unfold cn but; rw [List.filter_filter]
  congr 1
  refine List.filter_congr fun c _ => ?_
  by_cases hc : c = b
  · subst hc; simp [h]
  · simp [hc]
theorem but_len (x : List α) (a : α) : x.length = (but x a).length + cn x a := by
  induction x with
  | nil => rfl
  | cons b l ih =>
    rw [cn_cons, List.length_cons]
    by_cases hb : b = a
    · have e : but (b :: l) a = but l a := by simp [but, hb]
      rw [e, if_pos hb]; omega
    · have e : but (b :: l) a = b :: but l a := by simp [but, hb]
      rw [e, if_neg hb, List.length_cons]; omega
/-- What is added up over all, by a weight of groups. -/
def wsum (g : Nat → Nat) (x y : List α) : Nat := (y.map fun a => g (cn x a)).sum
theorem wsum_but (g : Nat → Nat) (x y : List α) (a : α) : wsum g x y = wsum g x (but y a) + cn y a * g (cn x a) := by
  induction y with
  | nil => simp [wsum, but, cn]
  | cons b l ih =>
    have e1 : wsum g x (b :: l) = g (cn x b) + wsum g x l := by simp [wsum]
    by_cases hb : b = a
    · subst hb
      have e : but (b :: l) b = but l b := by simp [but]
      rw [e, e1, ih, cn_cons, if_pos rfl, Nat.add_mul, Nat.one_mul]; omega
    · have e : but (b :: l) a = b :: but l a := by simp [but, hb]
      have e2 : wsum g x (b :: but l a) = g (cn x b) + wsum g x (but l a) := by simp [wsum]
      rw [e, e1, e2, ih, cn_cons, if_neg hb, Nat.add_zero]; omega
theorem wsum_congr (g : Nat → Nat) {x x' y : List α} (h : ∀ a ∈ y, cn x a = cn x' a) : wsum g x y = wsum g x' y := by
  unfold wsum; congr 1; exact List.map_congr_left fun a ha => by rw [h a ha]
theorem wsum_groups (g : Nat → Nat) (c : Nat) : ∀ (n : Nat) (x : List α), x.length ≤ n → (∀ a ∈ x, cn x a * g (cn x a) = c) → wsum g x x = c * many1 x
  | 0, x, hn, _ => by
    have : x = [] := List.eq_nil_of_length_eq_zero (by omega)
    subst this; simp [wsum, many1]
  | n + 1, [], _, _ => by simp [wsum, many1]
  | n + 1, a :: l, hn, h => by
    have ha : a ∈ a :: l := by simp
    have hpos := cn_pos.2 ha
    have hl := but_len (a :: l) a
    have ih := wsum_groups g c n (but (a :: l) a) (by omega) (fun b hb => by
      rw [cn_but (but_mem.1 hb).2]; exact h b (but_mem.1 hb).1)
    rw [wsum_but g _ _ a, wsum_congr g (x' := but (a :: l) a) (y := but (a :: l) a) (fun b hb => (cn_but (but_mem.1 hb).2).symm), ih, h a ha, many1_but (a :: l) a, if_pos ha, Nat.mul_add, Nat.mul_one]
theorem wsum_ge (g : Nat → Nat) (c : Nat) : ∀ (n : Nat) (x : List α), x.length ≤ n → (∀ a ∈ x, c ≤ cn x a * g (cn x a)) → c * many1 x ≤ wsum g x x
  | 0, x, hn, _ => by
    have : x = [] := List.eq_nil_of_length_eq_zero (by omega)
    subst this; simp [wsum, many1]
  | n + 1, [], _, _ => by simp [wsum, many1]
  | n + 1, a :: l, hn, h => by
    have ha : a ∈ a :: l := by simp
    have hpos := cn_pos.2 ha
    have hl := but_len (a :: l) a
    have ih := wsum_ge g c n (but (a :: l) a) (by omega) (fun b hb => by
      rw [cn_but (but_mem.1 hb).2]; exact h b (but_mem.1 hb).1)
    rw [wsum_but g _ _ a, wsum_congr g (x' := but (a :: l) a) (y := but (a :: l) a) (fun b hb => (cn_but (but_mem.1 hb).2).symm), many1_but (a :: l) a, if_pos ha, Nat.mul_add, Nat.mul_one]
    have := h a ha
    omega
theorem wsum_one (x y : List α) : wsum (fun _ => 1) x y = y.length := by
  induction y with
  | nil => rfl
  | cons a l ih => simp [wsum] at ih ⊢; omega
/-- Groups have room. -/
theorem many_least (x : List α) : many1 x * least1 x ≤ x.length := by
  have h := wsum_ge (fun _ => 1) (least1 x) x.length x (Nat.le_refl _) (fun a ha => by rw [Nat.mul_one]; exact least1_le x ha)
  rw [wsum_one] at h
  rw [Nat.mul_comm]; exact h
/-- Each person is a share of a group. -/
theorem many_shares (x : List α) (h : ∀ a ∈ x, cn x a ≤ 10) : wsum (fun n => 2520 / n) x x = 2520 * many1 x :=
  wsum_groups _ _ x.length x (Nat.le_refl _) fun a ha => by
    have h0 := cn_pos.2 ha
    have h1 := h a ha
    generalize cn x a = n at *
    have : n = 1 ∨ n = 2 ∨ n = 3 ∨ n = 4 ∨ n = 5 ∨ n = 6 ∨ n = 7 ∨ n = 8 ∨ n = 9 ∨ n = 10 := by omega
    rcases this with rfl | rfl | rfl | rfl | rfl | rfl | rfl | rfl | rfl | rfl <;> rfl
/-- Coarser groups are larger. -/
theorem cn_map {β : Type} [DecidableEq β] (f : α → β) (x : List α) (a : α) : cn x a ≤ cn (x.map f) (f a) := by
  induction x with
  | nil => simp [cn]
  | cons b l ih =>
    rw [List.map_cons, cn_cons, cn_cons]
    by_cases hb : b = a
    · subst hb; simp; exact ih
    · rw [if_neg hb]; split <;> omega
theorem least_map {β : Type} [DecidableEq β] (f : α → β) (x : List α) : least1 x ≤ least1 (x.map f) := by
  by_cases hx : x = []
  · subst hx; simp [least1]
  · obtain ⟨b, hb, he⟩ := least1_is (x.map f) (by simpa using hx)
    obtain ⟨a, ha, rfl⟩ := List.mem_map.1 hb
    have := least1_le x ha
    have := cn_map f x a
    omega
theorem many_map {β : Type} [DecidableEq β] (f : α → β) (x : List α) : many1 (x.map f) ≤ many1 x := by
  induction x with
  | nil => simp [many1]
  | cons a l ih =>
    simp only [List.map_cons, many1]
    by_cases h : a ∈ l
    · rw [if_pos h, if_pos (List.mem_map.2 ⟨a, h, rfl⟩)]; omega
    · rw [if_neg h]; split <;> omega
/-- Unique ones are groups. -/
theorem uniq_le (x : List α) : uniq1 x ≤ many1 x := by
  have h := wsum_ge (fun n => if n = 1 then 1 else 0) 0 x.length x (Nat.le_refl _) (fun a _ => Nat.zero_le _)
  suffices h2 : ∀ (n : Nat) (x : List α), x.length ≤ n → uniq1 x ≤ many1 x from h2 x.length x (Nat.le_refl _)
  clear h
  intro n
  induction n with
  | zero => intro x hn; have : x = [] := List.eq_nil_of_length_eq_zero (by omega); subst this; simp [uniq1, many1]
  | succ n ih =>
    intro x hn
    cases x with
    | nil => simp [uniq1, many1]
    | cons a l =>
      have ha : a ∈ a :: l := by simp
      have hpos := cn_pos.2 ha
      have hl := but_len (a :: l) a
      have h1 := ih (but (a :: l) a) (by omega)
      have h2 := many1_but (a :: l) a
      rw [if_pos ha] at h2
      have h3 : uniq1 (a :: l) ≤ uniq1 (but (a :: l) a) + 1 := by
        have e : uniq1 (a :: l) = ((a :: l).filter fun b => decide (cn (a :: l) b = 1)).length := rfl
        have k := but_len ((a :: l).filter fun b => decide (cn (a :: l) b = 1)) a
        have k1 : but ((a :: l).filter fun b => decide (cn (a :: l) b = 1)) a = (but (a :: l) a).filter fun b => decide (cn (but (a :: l) a) b = 1) := by
          have e1 : but ((a :: l).filter fun b => decide (cn (a :: l) b = 1)) a = (a :: l).filter fun b => !decide (b = a) && decide (cn (a :: l) b = 1) := List.filter_filter
          have e2 : ((but (a :: l) a).filter fun b => decide (cn (but (a :: l) a) b = 1)) = (a :: l).filter fun b => decide (cn (but (a :: l) a) b = 1) && !decide (b = a) := List.filter_filter
          rw [e1, e2]
          refine List.filter_congr fun b _ => ?_
          by_cases hb : b = a
          · simp [hb]
          · rw [cn_but (x := a :: l) hb, Bool.and_comm]
        have k2 : cn ((a :: l).filter fun b => decide (cn (a :: l) b = 1)) a ≤ 1 := by
          by_cases hc : cn (a :: l) a = 1
          · have : cn ((a :: l).filter fun b => decide (cn (a :: l) b = 1)) a ≤ cn (a :: l) a := by
              unfold cn; exact (List.filter_sublist.filter _).length_le
            omega
          · rw [cn_zero (fun h => hc (by simpa using (List.mem_filter.1 h).2))]; omega
        rw [k1] at k
        rw [e, k]
        unfold uniq1; omega
      omega
theorem uniq_pos {x : List α} (h : 0 < uniq1 x) : least1 x = 1 := by
  obtain ⟨a, ha⟩ := List.length_pos_iff_exists_mem.1 h
  obtain ⟨h1, h2⟩ := List.mem_filter.1 ha
  have h3 : cn x a = 1 := by simpa using h2
  exact least1_eq (fun b hb => cn_pos.2 hb) ⟨a, h1, h3⟩
theorem least_one {x : List α} (h : least1 x = 1) : 0 < uniq1 x := by
  by_cases hx : x = []
  · subst hx; simp [least1] at h
  · obtain ⟨a, ha, he⟩ := least1_is x hx
    exact List.length_pos_iff_exists_mem.2 ⟨a, List.mem_filter.2 ⟨ha, by simp [← he, h]⟩⟩
/-- All are unique if there are as many groups. -/
theorem uniq_all (x : List α) : uniq1 x = x.length ↔ many1 x = x.length := by
  constructor
  · intro h; have := uniq_le x; have := many1_le x; omega
  · intro h
    have key : ∀ a ∈ x, cn x a = 1 := by
      intro a ha
      have h1 := many1_but x a
      rw [if_pos ha] at h1
      have h2 := but_len x a
      have h3 := many1_le (but x a)
      have h4 := cn_pos.2 ha
      omega
    unfold uniq1
    rw [List.filter_eq_self.2 fun a ha => by simp [key a ha]]
theorem many_mem {x y : List α} (h : ∀ a ∈ y, a ∈ x) : many1 (y ++ x) = many1 x := by
  induction y with
  | nil => rfl
  | cons a l ih =>
    simp only [List.cons_append, many1]
    rw [ih fun b hb => h b (List.mem_cons_of_mem _ hb), if_pos (List.mem_append.2 (.inr (h a (by simp))))]; omega
theorem many_twice (x : List α) : many1 (x ++ x) = many1 x := many_mem fun _ h => h
theorem uniq_twice (x : List α) : uniq1 (x ++ x) = 0 := by
  unfold uniq1
  rw [List.length_eq_zero_iff, List.filter_eq_nil_iff]
  intro a ha
  have h1 : a ∈ x := by simpa using ha
  have := cn_pos.2 h1
  rw [cn_app]; simp; omega
theorem least_twice (x : List α) : least1 (x ++ x) = 2 * least1 x := by
  by_cases hx : x = []
  · subst hx; rfl
  · obtain ⟨a, ha, he⟩ := least1_is x hx
    refine least1_eq (fun b hb => ?_) ⟨a, by simp [ha], by rw [cn_app]; omega⟩
    have h1 : b ∈ x := by simpa using hb
    have := least1_le x h1
    rw [cn_app]; omega
theorem many_add (x : List α) (a : α) : many1 (x ++ [a]) = many1 x ∨ many1 (x ++ [a]) = many1 x + 1 := by
  have h := many1_perm (List.perm_append_comm (l₁ := x) (l₂ := [a]))
  rw [h]
  simp only [List.singleton_append, many1]
  split
  · left; omega
  · right; omega
theorem least_add {x : List α} {a : α} (h : a ∈ x) : least1 (x ++ [a]) = least1 x ∨ least1 (x ++ [a]) = least1 x + 1 := by
  have hx : x ≠ [] := fun e => by rw [e] at h; cases h
  obtain ⟨b, hb, he⟩ := least1_is x hx
  have h1 : least1 x ≤ least1 (x ++ [a]) := by
    obtain ⟨c, hc, hc2⟩ := least1_is (x ++ [a]) (by simp)
    have hcx : c ∈ x := by
      rcases List.mem_append.1 hc with h2 | h2
      · exact h2
      · rw [List.mem_singleton.1 h2]; exact h
    have := least1_le x hcx
    rw [hc2, cn_app]; omega
  have h2 := least1_le (x ++ [a]) (a := b) (by simp [hb])
  rw [cn_app] at h2
  have h3 : cn [a] b ≤ 1 := cn_le [a] b
  omega
end
end Go.Proofs.YtobgceebolmfcaaDoor
namespace Go.Proofs.YtobgceebolmfcaaDoor
open Go.RowKit
structure Rc where
  area : Int
  job : Int
  sex : Int
deriving DecidableEq
abbrev Rc.val (r : Rc) : Value := .agg #[.int .i64 r.area, .int .i64 r.job, .int .i64 r.sex]
def rcOk (ll : List (List Int)) (r : Rc) : Bool := ladOk ll && in3 r.area 0 ll.length && in3 r.job 0 1 && in3 r.sex 0 1
/-- A person recoded. -/
def rec1 (ll : List (List Int)) (r : Rc) (p : Pn) : Pn := ⟨codeAt ll r.area p.area, if r.job = 1 then 0 else p.job, if r.sex = 1 then 0 else p.sex, p.pay⟩
def recL (ll : List (List Int)) (r : Rc) (l : List Pn) : List Pn := l.map (rec1 ll r)
def grOk (l : List Pn) (ll : List (List Int)) (r : Rc) : Bool := okL l && rcOk ll r
def key (p : Pn) : Int × Int × Int := (p.area, p.job, p.sex)
def keys (x : List Pn) : List (Int × Int × Int) := x.map key
def keysOf (l : List Pn) (ll : List (List Int)) (r : Rc) : List (Int × Int × Int) := keys (recL ll r l)
def p00 : Pn := ⟨0, 0, 0, 0⟩
def sizeAt (x : List Pn) (k : Nat) : Nat := cn (keys x) (key (x.getD k p00))
def gsize (l : List Pn) (ll : List (List Int)) (r : Rc) (k : Int) : Int := if (grOk l ll r && in3 k 0 (l.length - 1)) = true then sizeAt (recL ll r l) k.toNat else -1
def gleast (l : List Pn) (ll : List (List Int)) (r : Rc) : Int := if grOk l ll r = true then least1 (keysOf l ll r) else -1
def gmany (l : List Pn) (ll : List (List Int)) (r : Rc) : Int := if grOk l ll r = true then many1 (keysOf l ll r) else -1
def guniq (l : List Pn) (ll : List (List Int)) (r : Rc) : Int := if grOk l ll r = true then uniq1 (keysOf l ll r) else -1
def rcFiner (ll : List (List Int)) (a b : Rc) : Bool := rcOk ll a && rcOk ll b && decide (a.area ≤ b.area) && decide (a.job ≤ b.job) && decide (a.sex ≤ b.sex)
theorem recL_len (ll : List (List Int)) (r : Rc) (l : List Pn) : (recL ll r l).length = l.length := by simp [recL]
theorem recL_take (ll : List (List Int)) (r : Rc) (l : List Pn) (k : Nat) (hk : k < l.length) : recL ll r (l.take (k + 1)) = recL ll r (l.take k) ++ [rec1 ll r l[k]] := by
  unfold recL; rw [List.take_succ_eq_append_getElem hk, List.map_append]; rfl
/-- The count of a group so far. -/
def sizeTo (x : List Pn) (k q : Nat) : Nat := cn (keys (x.take q)) (key (x.getD k p00))
theorem sizeTo_succ (x : List Pn) (k q : Nat) (hq : q < x.length) : sizeTo x k (q + 1) = sizeTo x k q + if key x[q] = key (x.getD k p00) then 1 else 0 := by
  unfold sizeTo keys
  rw [List.take_succ_eq_append_getElem hq, List.map_append, cn_app]
  congr 1
  simp only [List.map_cons, List.map_nil, cn_cons, cn_nil, Nat.zero_add]
theorem sizeTo_all (x : List Pn) (k : Nat) : sizeTo x k x.length = sizeAt x k := by unfold sizeTo sizeAt; rw [List.take_length]
theorem sizeTo_le (x : List Pn) (k q : Nat) : sizeTo x k q ≤ q := by
  have := cn_le (keys (x.take q)) (key (x.getD k p00))
  have h2 : (keys (x.take q)).length ≤ q := by unfold keys; rw [List.length_map]; exact List.length_take_le _ _
  unfold sizeTo; omega
/-- The least group of the first ones. -/
def leastTo (x : List Pn) (q : Nat) : Nat := ((x.take q).map fun p => cn (keys x) (key p)).foldl min x.length
theorem leastTo_succ (x : List Pn) (q : Nat) (hq : q < x.length) : leastTo x (q + 1) = min (leastTo x q) (sizeAt x q) := by
  unfold leastTo sizeAt
  rw [List.take_succ_eq_append_getElem hq, List.map_append, List.foldl_append, List.getD_eq_getElem?_getD, List.getElem?_eq_getElem hq]; rfl
theorem leastTo_all (x : List Pn) : leastTo x x.length = least1 (keys x) := by
  unfold leastTo least1 keys
  rw [List.take_length, List.map_map, List.length_map]; rfl
theorem leastTo_le (x : List Pn) (q : Nat) : leastTo x q ≤ x.length := (foldl_min_le _ _).1
theorem many_snoc (x : List (Int × Int × Int)) (a : Int × Int × Int) : many1 (x ++ [a]) = many1 x + if a ∈ x then 0 else 1 := by
  rw [many1_perm (List.perm_append_comm (l₁ := x) (l₂ := [a]))]; simp only [List.cons_append, List.nil_append, many1]; by_cases h : a ∈ x <;> simp [h]
def manyTo (x : List Pn) (q : Nat) : Nat := many1 (keys (x.take q))
theorem manyTo_succ (x : List Pn) (q : Nat) (hq : q < x.length) : manyTo x (q + 1) = manyTo x q + if sizeTo x q (q + 1) = 1 then 1 else 0 := by
  have h := sizeTo_succ x q q hq
  have e : x.getD q p00 = x[q] := by rw [List.getD_eq_getElem?_getD, List.getElem?_eq_getElem hq]; rfl
  rw [e, if_pos rfl] at h
  have h2 : manyTo x (q + 1) = manyTo x q + if key x[q] ∈ keys (x.take q) then 0 else 1 := by
    unfold manyTo
    rw [List.take_succ_eq_append_getElem hq]
    have e2 : keys (x.take q ++ [x[q]]) = keys (x.take q) ++ [key x[q]] := by unfold keys; rw [List.map_append]; rfl
    rw [e2, many_snoc]
  rw [h2, h]
  congr 1
  have h3 := cn_pos (x := keys (x.take q)) (a := key x[q])
  have h4 : sizeTo x q q = cn (keys (x.take q)) (key x[q]) := by unfold sizeTo; rw [e]
  rw [h4]
  by_cases hm : key x[q] ∈ keys (x.take q)
  · have := h3.2 hm
    rw [if_pos hm, if_neg (by omega)]
  · rw [if_neg hm, cn_zero hm]; rfl
theorem manyTo_all (x : List Pn) : manyTo x x.length = many1 (keys x) := by unfold manyTo; rw [List.take_length]
theorem manyTo_le (x : List Pn) (q : Nat) : manyTo x q ≤ q := by
  have := many1_le (keys (x.take q))
  have h2 : (keys (x.take q)).length ≤ q := by unfold keys; rw [List.length_map]; exact List.length_take_le _ _
  unfold manyTo; omega
def uniqTo (x : List Pn) (q : Nat) : Nat := ((x.take q).filter fun p => decide (cn (keys x) (key p) = 1)).length
theorem uniqTo_succ (x : List Pn) (q : Nat) (hq : q < x.length) : uniqTo x (q + 1) = uniqTo x q + if sizeAt x q = 1 then 1 else 0 := by
  unfold uniqTo sizeAt
  have e : x.getD q p00 = x[q] := by rw [List.getD_eq_getElem?_getD, List.getElem?_eq_getElem hq]; rfl
  rw [List.take_succ_eq_append_getElem hq, List.filter_append, List.length_append, e]
  congr 1
  by_cases h : cn (keys x) (key x[q]) = 1 <;> simp [h]
theorem uniqTo_all (x : List Pn) : uniqTo x x.length = uniq1 (keys x) := by
  unfold uniqTo uniq1 keys
  rw [List.take_length, List.filter_map, List.length_map]; rfl
theorem uniqTo_le (x : List Pn) (q : Nat) : uniqTo x q ≤ q := by
  have h1 := List.length_filter_le (fun p => decide (cn (keys x) (key p) = 1)) (x.take q)
  have h2 := List.length_take_le q x
  unfold uniqTo; omega
end Go.Proofs.YtobgceebolmfcaaDoor
namespace Go.Proofs.YtobgceebolmfcaaDoor
def pChain (ll : List (List Int)) (l x : Int) : Bool :=
  decide (0 ≤ codeAt ll l x) && decide (codeAt ll l x ≤ x) && (nats (ll.length + 1)).all fun k => decide (k < l) || decide (codeAt ll k (codeAt ll l x) = codeAt ll k x)
theorem pChain_all : (lads.all fun ll => (nats (ll.length + 1)).all fun l => (nats 4).all fun c => pChain ll l c) = true := by decide +kernel
theorem chain {ll : List (List Int)} (h : ladOk ll = true) {l x : Int} (l0 : 0 ≤ l) (l1 : l ≤ ll.length) (x0 : 0 ≤ x) (x1 : x ≤ 3) :
    0 ≤ codeAt ll l x ∧ codeAt ll l x ≤ x ∧ ∀ k, l ≤ k → k ≤ ll.length → codeAt ll k (codeAt ll l x) = codeAt ll k x := by
  have p := by_all pChain pChain_all h l0 l1 x0 x1
  simp only [pChain, Bool.and_eq_true, decide_eq_true_eq] at p
  obtain ⟨⟨p1, p2⟩, p3⟩ := p
  refine ⟨p1, p2, fun k h1 h2 => ?_⟩
  have q := List.all_eq_true.1 p3 k (nats_mem (by omega) (by omega))
  simp only [Bool.or_eq_true, decide_eq_true_eq] at q
  rcases q with q | q
  · omega
  · exact q
theorem rc_parts {ll : List (List Int)} {r : Rc} (h : rcOk ll r = true) : ladOk ll = true ∧ 0 ≤ r.area ∧ r.area ≤ ll.length ∧ 0 ≤ r.job ∧ r.job ≤ 1 ∧ 0 ≤ r.sex ∧ r.sex ≤ 1 := by
  simp only [rcOk, in3, Bool.and_eq_true, decide_eq_true_eq] at h
  obtain ⟨⟨⟨h0, a⟩, b⟩, c⟩ := h
  exact ⟨h0, a.1, a.2, b.1, b.2, c.1, c.2⟩
theorem rc_mk {ll : List (List Int)} {r : Rc} (h : ladOk ll = true) (a0 : 0 ≤ r.area) (a1 : r.area ≤ ll.length) (j0 : 0 ≤ r.job) (j1 : r.job ≤ 1) (s0 : 0 ≤ r.sex) (s1 : r.sex ≤ 1) : rcOk ll r = true := by
  simp only [rcOk, in3, Bool.and_eq_true, decide_eq_true_eq]
  exact ⟨⟨⟨h, a0, a1⟩, j0, j1⟩, s0, s1⟩
def rlow : Rc := ⟨0, 0, 0⟩
def rtop (ll : List (List Int)) : Rc := ⟨ll.length, 1, 1⟩
theorem rlow_ok {ll : List (List Int)} (h : ladOk ll = true) : rcOk ll rlow = true := rc_mk h (by simp [rlow]) (by simp [rlow]) (by simp [rlow]) (by simp [rlow]) (by simp [rlow]) (by simp [rlow])
theorem rtop_ok {ll : List (List Int)} (h : ladOk ll = true) : rcOk ll (rtop ll) = true := rc_mk h (by simp [rtop]) (by simp [rtop]) (by simp [rtop]) (by simp [rtop]) (by simp [rtop]) (by simp [rtop])
theorem okP_parts {p : Pn} : okP p = true ↔ 0 ≤ p.area ∧ p.area ≤ 3 ∧ 0 ≤ p.job ∧ p.job ≤ 3 ∧ 0 ≤ p.sex ∧ p.sex ≤ 1 ∧ 0 ≤ p.pay ∧ p.pay ≤ 999 := by
  simp only [okP, inC, Bool.and_eq_true, decide_eq_true_eq]; omega
/-- A recoded person. -/
theorem rec1_ok {ll : List (List Int)} {r : Rc} (h : rcOk ll r = true) {p : Pn} (hp : okP p = true) : okP (rec1 ll r p) = true ∧ (rec1 ll r p).area ≤ p.area ∧ (rec1 ll r p).job ≤ p.job ∧ (rec1 ll r p).sex ≤ p.sex := by
  obtain ⟨h0, a0, a1, _, _, _, _⟩ := rc_parts h
  rw [okP_parts] at hp ⊢
  obtain ⟨c0, c1, _⟩ := chain h0 a0 a1 hp.1 hp.2.1
  simp only [rec1]
  have hj : (if r.job = 1 then (0 : Int) else p.job) = 0 ∨ (if r.job = 1 then (0 : Int) else p.job) = p.job := by split <;> simp
  have hs : (if r.sex = 1 then (0 : Int) else p.sex) = 0 ∨ (if r.sex = 1 then (0 : Int) else p.sex) = p.sex := by split <;> simp
  omega
def finer (r s : Rc) : Prop := r.area ≤ s.area ∧ r.job ≤ s.job ∧ r.sex ≤ s.sex
theorem rec1_chain {ll : List (List Int)} {r s : Rc} (hr : rcOk ll r = true) (hs : rcOk ll s = true) (hf : finer r s) {p : Pn} (hp : okP p = true) : rec1 ll s (rec1 ll r p) = rec1 ll s p := by
  obtain ⟨h0, a0, a1, j0, j1, x0, x1⟩ := rc_parts hr
  obtain ⟨_, _, b1, _, k1, _, y1⟩ := rc_parts hs
  obtain ⟨f1, f2, f3⟩ := hf
  rw [okP_parts] at hp
  obtain ⟨_, _, c2⟩ := chain h0 a0 a1 hp.1 hp.2.1
  simp only [rec1, c2 _ f1 b1, Pn.mk.injEq, and_true, true_and]
  refine ⟨?_, ?_⟩
  · by_cases h : s.job = 1
    · simp [h]
    · rw [if_neg h, if_neg h, if_neg (by omega)]
  · by_cases h : s.sex = 1
    · simp [h]
    · rw [if_neg h, if_neg h, if_neg (by omega)]
theorem rec1_low (ll : List (List Int)) (p : Pn) : rec1 ll rlow p = p := by
  obtain ⟨a, b, c, d⟩ := p
  simp [rec1, rlow, codeAt]
theorem recL_low (ll : List (List Int)) (l : List Pn) : recL ll rlow l = l := by
  unfold recL; rw [List.map_congr_left (g := id) fun p _ => rec1_low ll p, List.map_id]
theorem gr_parts {l : List Pn} {ll : List (List Int)} {r : Rc} : grOk l ll r = true ↔ okL l = true ∧ rcOk ll r = true := by simp [grOk]
theorem okL_mem {l : List Pn} (h : okL l = true) : ∀ p ∈ l, okP p = true := fun p hp => List.all_eq_true.1 (okL_all h).2 p hp
theorem okL_mk {l : List Pn} (h1 : l.length ≤ 40) (h2 : ∀ p ∈ l, okP p = true) : okL l = true := by
  simp only [okL, Bool.and_eq_true, decide_eq_true_eq, List.all_eq_true]; exact ⟨h1, h2⟩
theorem recL_ok {l : List Pn} {ll : List (List Int)} {r : Rc} (h : grOk l ll r = true) : okL (recL ll r l) = true := by
  obtain ⟨h1, h2⟩ := gr_parts.1 h
  refine okL_mk (by rw [recL_len]; exact (okL_all h1).1) fun p hp => ?_
  obtain ⟨q, hq, rfl⟩ := List.mem_map.1 hp
  exact (rec1_ok h2 (okL_mem h1 q hq)).1
theorem recL_chain {l : List Pn} {ll : List (List Int)} {r s : Rc} (hl : okL l = true) (hr : rcOk ll r = true) (hs : rcOk ll s = true) (hf : finer r s) : recL ll s (recL ll r l) = recL ll s l := by
  unfold recL; rw [List.map_map]
  exact List.map_congr_left fun p hp => rec1_chain hr hs hf (okL_mem hl p hp)
/-- Keys recoded. -/
def fk (ll : List (List Int)) (r : Rc) (q : Int × Int × Int) : Int × Int × Int := (codeAt ll r.area q.1, if r.job = 1 then 0 else q.2.1, if r.sex = 1 then 0 else q.2.2)
theorem keys_rec (ll : List (List Int)) (r : Rc) (l : List Pn) : keys (recL ll r l) = (keys l).map (fk ll r) := by
  unfold keys recL; rw [List.map_map, List.map_map]; rfl
theorem keys_finer {l : List Pn} {ll : List (List Int)} {r s : Rc} (hl : okL l = true) (hr : rcOk ll r = true) (hs : rcOk ll s = true) (hf : finer r s) : keysOf l ll s = (keysOf l ll r).map (fk ll s) := by
  unfold keysOf; rw [← keys_rec, recL_chain hl hr hs hf]
theorem keysOf_len (l : List Pn) (ll : List (List Int)) (r : Rc) : (keysOf l ll r).length = l.length := by simp [keysOf, keys, recL]
theorem keysOf_app (l m : List Pn) (ll : List (List Int)) (r : Rc) : keysOf (l ++ m) ll r = keysOf l ll r ++ keysOf m ll r := by simp [keysOf, keys, recL]
theorem keysOf_perm {l m : List Pn} (h : l.Perm m) (ll : List (List Int)) (r : Rc) : (keysOf l ll r).Perm (keysOf m ll r) := (h.map _).map _
/-- The key of one person. -/
def ky (ll : List (List Int)) (r : Rc) (l : List Pn) (k : Nat) : Int × Int × Int := key (rec1 ll r (l.getD k p00))
theorem getD_rec (ll : List (List Int)) (r : Rc) (l : List Pn) (k : Nat) (hk : k < l.length) : (recL ll r l).getD k p00 = rec1 ll r (l.getD k p00) := by
  rw [List.getD_eq_getElem?_getD, List.getD_eq_getElem?_getD, recL, List.getElem?_map, List.getElem?_eq_getElem hk]; rfl
theorem ky_mem (ll : List (List Int)) (r : Rc) (l : List Pn) (k : Nat) (hk : k < l.length) : ky ll r l k ∈ keysOf l ll r := by
  unfold ky keysOf keys recL
  rw [List.map_map, List.mem_map]
  refine ⟨l.getD k p00, ?_, rfl⟩
  rw [List.getD_eq_getElem?_getD, List.getElem?_eq_getElem hk]; exact List.getElem_mem hk
theorem mem_ky {ll : List (List Int)} {r : Rc} {l : List Pn} {a : Int × Int × Int} (h : a ∈ keysOf l ll r) : ∃ k, k < l.length ∧ ky ll r l k = a := by
  unfold keysOf keys recL at h
  rw [List.map_map, List.mem_map] at h
  obtain ⟨p, hp, rfl⟩ := h
  obtain ⟨k, hk, rfl⟩ := List.getElem_of_mem hp
  refine ⟨k, hk, ?_⟩
  unfold ky; rw [List.getD_eq_getElem?_getD, List.getElem?_eq_getElem hk]; rfl
/-- How large the group of the k-th is. -/
def cnk (l : List Pn) (ll : List (List Int)) (r : Rc) (k : Nat) : Nat := cn (keysOf l ll r) (ky ll r l k)
theorem gsize_at {l : List Pn} {ll : List (List Int)} {r : Rc} (h : grOk l ll r = true) {k : Nat} (hk : k < l.length) : gsize l ll r k = cnk l ll r k := by
  have h2 : (grOk l ll r && in3 (k : Int) 0 (l.length - 1)) = true := by simp [h, in3]; omega
  rw [gsize, if_pos h2]
  have e : ((k : Int).toNat) = k := by omega
  rw [e, sizeAt, getD_rec ll r l k hk]; rfl
theorem gsize_in {l : List Pn} {ll : List (List Int)} {r : Rc} {k : Int} (h : 0 ≤ gsize l ll r k) : grOk l ll r = true ∧ ∃ j : Nat, k = j ∧ j < l.length := by
  unfold gsize at h
  split at h
  · rename_i hc
    simp only [Bool.and_eq_true, in3, decide_eq_true_eq] at hc
    exact ⟨hc.1, k.toNat, by omega, by omega⟩
  · omega
theorem gsize_no {l : List Pn} {ll : List (List Int)} {r : Rc} {k : Int} (h : gsize l ll r k < 0) : gsize l ll r k = -1 := by
  unfold gsize at *; split <;> rename_i hc
  · rw [if_pos hc] at h; omega
  · rfl
theorem gleast_in {l : List Pn} {ll : List (List Int)} {r : Rc} (h : 0 ≤ gleast l ll r) : grOk l ll r = true := by
  unfold gleast at h; split at h
  · assumption
  · omega
theorem gmany_in {l : List Pn} {ll : List (List Int)} {r : Rc} (h : 0 ≤ gmany l ll r) : grOk l ll r = true := by
  unfold gmany at h; split at h
  · assumption
  · omega
theorem guniq_in {l : List Pn} {ll : List (List Int)} {r : Rc} (h : 0 ≤ guniq l ll r) : grOk l ll r = true := by
  unfold guniq at h; split at h
  · assumption
  · omega
theorem gleast_no {l : List Pn} {ll : List (List Int)} {r : Rc} (h : gleast l ll r < 0) : gleast l ll r = -1 := by
  unfold gleast at *; split <;> rename_i hc
  · rw [if_pos hc] at h; omega
  · rfl
theorem gmany_no {l : List Pn} {ll : List (List Int)} {r : Rc} (h : gmany l ll r < 0) : gmany l ll r = -1 := by
  unfold gmany at *; split <;> rename_i hc
  · rw [if_pos hc] at h; omega
  · rfl
theorem guniq_no {l : List Pn} {ll : List (List Int)} {r : Rc} (h : guniq l ll r < 0) : guniq l ll r = -1 := by
  unfold guniq at *; split <;> rename_i hc
  · rw [if_pos hc] at h; omega
  · rfl
theorem gleast_at {l : List Pn} {ll : List (List Int)} {r : Rc} (h : grOk l ll r = true) : gleast l ll r = least1 (keysOf l ll r) := by rw [gleast, if_pos h]
theorem gmany_at {l : List Pn} {ll : List (List Int)} {r : Rc} (h : grOk l ll r = true) : gmany l ll r = many1 (keysOf l ll r) := by rw [gmany, if_pos h]
theorem guniq_at {l : List Pn} {ll : List (List Int)} {r : Rc} (h : grOk l ll r = true) : guniq l ll r = uniq1 (keysOf l ll r) := by rw [guniq, if_pos h]
theorem gr_low {l : List Pn} {ll : List (List Int)} {r : Rc} (h : grOk l ll r = true) : grOk l ll rlow = true := by
  obtain ⟨h1, h2⟩ := gr_parts.1 h; exact gr_parts.2 ⟨h1, rlow_ok (rc_parts h2).1⟩
theorem gr_top {l : List Pn} {ll : List (List Int)} {r : Rc} (h : grOk l ll r = true) : grOk l ll (rtop ll) = true := by
  obtain ⟨h1, h2⟩ := gr_parts.1 h; exact gr_parts.2 ⟨h1, rtop_ok (rc_parts h2).1⟩
theorem finer_top {ll : List (List Int)} {r : Rc} (h : rcOk ll r = true) : finer r (rtop ll) := by
  obtain ⟨_, _, a1, _, j1, _, s1⟩ := rc_parts h; exact ⟨a1, j1, s1⟩
theorem low_finer {ll : List (List Int)} {r : Rc} (h : rcOk ll r = true) : finer rlow r := by
  obtain ⟨_, a0, _, j0, _, s0, _⟩ := rc_parts h; exact ⟨a0, j0, s0⟩
theorem cnk_finer {l : List Pn} {ll : List (List Int)} {r s : Rc} (h : grOk l ll r = true) (hs : rcOk ll s = true) (hf : finer r s) {k : Nat} (hk : k < l.length) : cnk l ll r k ≤ cnk l ll s k := by
  obtain ⟨h1, h2⟩ := gr_parts.1 h
  unfold cnk
  rw [keys_finer h1 h2 hs hf]
  have e : ky ll s l k = fk ll s (ky ll r l k) := by
    unfold ky
    have hp : okP (l.getD k p00) = true := by
      rw [List.getD_eq_getElem?_getD, List.getElem?_eq_getElem hk]; exact okL_mem h1 _ (List.getElem_mem hk)
    rw [← rec1_chain h2 hs hf hp]; rfl
  rw [e]; exact cn_map _ _ _
theorem cnk_pos {l : List Pn} {ll : List (List Int)} {r : Rc} {k : Nat} (hk : k < l.length) : 1 ≤ cnk l ll r k := cn_pos.2 (ky_mem ll r l k hk)
theorem cnk_le (l : List Pn) (ll : List (List Int)) (r : Rc) (k : Nat) : cnk l ll r k ≤ l.length := by
  have := cn_le (keysOf l ll r) (ky ll r l k); rw [keysOf_len] at this; exact this
/-- P35. -/
theorem m_sizeFiner {l : List Pn} {ll : List (List Int)} {r : Rc} {k : Int} (h : 0 ≤ gsize l ll r k) :
    ∃ t b, gsize l ll (rtop ll) k = t ∧ gsize l ll rlow k = b ∧ b ≤ gsize l ll r k ∧ gsize l ll r k ≤ t ∧ 1 ≤ b := by
  obtain ⟨hg, j, rfl, hj⟩ := gsize_in h
  obtain ⟨h1, h2⟩ := gr_parts.1 hg
  refine ⟨_, _, rfl, rfl, ?_⟩
  rw [gsize_at hg hj, gsize_at (gr_top hg) hj, gsize_at (gr_low hg) hj]
  have a := cnk_finer hg (rtop_ok (rc_parts h2).1) (finer_top h2) hj
  have b := cnk_finer (gr_low hg) h2 (low_finer h2) hj
  have c := cnk_pos (ll := ll) (r := rlow) hj
  omega
theorem least_le {l : List Pn} {ll : List (List Int)} {r : Rc} {k : Nat} (hk : k < l.length) : least1 (keysOf l ll r) ≤ cnk l ll r k := least1_le _ (ky_mem ll r l k hk)
theorem least_is {l : List Pn} {ll : List (List Int)} {r : Rc} (h : l ≠ []) : ∃ k, k < l.length ∧ cnk l ll r k = least1 (keysOf l ll r) := by
  obtain ⟨a, ha, he⟩ := least1_is (keysOf l ll r) (fun e => h (by have := keysOf_len l ll r; rw [e] at this; exact List.eq_nil_of_length_eq_zero this.symm))
  obtain ⟨k, hk, rfl⟩ := mem_ky ha
  exact ⟨k, hk, he.symm⟩
theorem least_top {l : List Pn} {ll : List (List Int)} {r : Rc} (h : grOk l ll r = true) : least1 (keysOf l ll r) ≤ least1 (keysOf l ll (rtop ll)) := by
  obtain ⟨h1, h2⟩ := gr_parts.1 h
  rw [keys_finer h1 h2 (rtop_ok (rc_parts h2).1) (finer_top h2)]; exact least_map _ _
theorem many_top {l : List Pn} {ll : List (List Int)} {r : Rc} (h : grOk l ll r = true) : many1 (keysOf l ll (rtop ll)) ≤ many1 (keysOf l ll r) := by
  obtain ⟨h1, h2⟩ := gr_parts.1 h
  rw [keys_finer h1 h2 (rtop_ok (rc_parts h2).1) (finer_top h2)]; exact many_map _ _
theorem gr_app {l m : List Pn} {ll : List (List Int)} {r : Rc} (h : grOk l ll r = true) (hm : ∀ p ∈ m, okP p = true) (hlen : (l ++ m).length ≤ 40) : grOk (l ++ m) ll r = true := by
  obtain ⟨h1, h2⟩ := gr_parts.1 h
  refine gr_parts.2 ⟨okL_mk hlen fun p hp => ?_, h2⟩
  rcases List.mem_append.1 hp with hp | hp
  · exact okL_mem h1 p hp
  · exact hm p hp
theorem gr_perm {l m : List Pn} {ll : List (List Int)} {r : Rc} (h : grOk l ll r = true) (hp : m.Perm l) : grOk m ll r = true := by
  obtain ⟨h1, h2⟩ := gr_parts.1 h
  exact gr_parts.2 ⟨okL_mk (by rw [hp.length_eq]; exact (okL_all h1).1) fun p hq => okL_mem h1 p (hp.mem_iff.1 hq), h2⟩
end Go.Proofs.YtobgceebolmfcaaDoor
