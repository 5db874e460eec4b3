/- What a ladder is: plain lists of integers. -/
import Derived.Test.YtbbgakbobefplaaK1
namespace Go.Proofs.Ytbbgakbobefplaa
def ig (x : List Int) (i : Int) : Int := x.getD i.toNat 0
def stepAt (x : List Int) (j : Nat) : Bool := in3 (x.getD j 0) 0 j && decide (ig x (x.getD j 0) = x.getD j 0)
def stepOk (x : List Int) : Bool := decide (x.length = 4) && (List.range x.length).all (stepAt x)
def cAt (f x : List Int) (j : Nat) : Bool := decide (ig x (f.getD j 0) = x.getD j 0)
def coarser (f x : List Int) : Bool := (List.range 4).all (cAt f x)
def rungAt (ll : List (List Int)) (k : Nat) : Bool := stepOk (ll.getD k []) && (decide (k = 0) || coarser (ll.getD (k - 1) []) (ll.getD k []))
def ladOk (ll : List (List Int)) : Bool := decide (ll.length ≤ 3) && (List.range ll.length).all (rungAt ll)
def codeAt (ll : List (List Int)) (level code : Int) : Int := if level = 0 then code else ig (ll.getD (level - 1).toNat []) code
def codeOk (ll : List (List Int)) (level code : Int) : Bool := ladOk ll && in3 level 0 ll.length && in3 code 0 3
def lcode (ll : List (List Int)) (level code : Int) : Int := if codeOk ll level code = true then codeAt ll level code else 0
def groupsTo (ll : List (List Int)) (level : Int) (k : Nat) : Int := (((List.range k).filter fun i : Nat => codeAt ll level i == (i : Int)).length : Nat)
def groupOk (ll : List (List Int)) (level : Int) : Bool := ladOk ll && in3 level 0 ll.length
def lgroups (ll : List (List Int)) (level : Int) : Int := if groupOk ll level = true then groupsTo ll level 4 else -1
def mcell (ll : List (List Int)) (x y : Int) (i : Nat) : Int :=
  if codeAt ll ll.length i = x ∨ codeAt ll ll.length i = y then min x y else codeAt ll ll.length i
def mergeOk (ll : List (List Int)) (a b : Int) : Bool :=
  ladOk ll && !decide (ll.length = 3) && in3 a 0 3 && in3 b 0 3 && !decide (codeAt ll ll.length a = codeAt ll ll.length b)
def mrow (ll : List (List Int)) (a b : Int) (k : Nat) : List Int := (List.range k).map (mcell ll (codeAt ll ll.length a) (codeAt ll ll.length b))
def lmerge (ll : List (List Int)) (a b : Int) : List (List Int) := if mergeOk ll a b = true then ll ++ [mrow ll a b 4] else []

theorem all_range {n : Nat} {p : Nat → Bool} : (List.range n).all p = true ↔ ∀ j, j < n → p j = true := by simp [List.all_eq_true]
theorem all_range_no {n : Nat} {p : Nat → Bool} (k : Nat) (hk : k < n) (h : p k = false) : (List.range n).all p = false := by
  rw [List.all_eq_false]; exact ⟨k, by simpa using hk, by simp [h]⟩
theorem stepOk_vals {x : List Int} (h : stepOk x = true) : x.length = 4 ∧ ∀ j, j < 4 → ∃ v : Nat, x.getD j 0 = v ∧ v ≤ j ∧ x.getD v 0 = v := by
  simp only [stepOk, Bool.and_eq_true, decide_eq_true_eq, all_range] at h
  refine ⟨h.1, fun j hj => ?_⟩
  have h2 := h.2 j (by omega)
  simp only [stepAt, in3, Bool.and_eq_true, decide_eq_true_eq] at h2
  obtain ⟨⟨h3, h4⟩, h5⟩ := h2
  obtain ⟨v, hv⟩ := Int.eq_ofNat_of_zero_le h3
  rw [hv] at h4 h5
  exact ⟨v, hv, by omega, by simpa [ig] using h5⟩
def prodSteps : List (List Int) := [0, 1].flatMap fun b => [0, 1, 2].flatMap fun c => [0, 1, 2, 3].map fun d => [0, b, c, d]
def allSteps : List (List Int) := prodSteps.filter stepOk
theorem step_mem {x : List Int} (h : stepOk x = true) : x ∈ allSteps := by
  obtain ⟨hl, hv⟩ := stepOk_vals h
  obtain ⟨v0, e0, b0, _⟩ := hv 0 (by omega)
  obtain ⟨v1, e1, b1, _⟩ := hv 1 (by omega)
  obtain ⟨v2, e2, b2, _⟩ := hv 2 (by omega)
  obtain ⟨v3, e3, b3, _⟩ := hv 3 (by omega)
  have hx : x = [(v0 : Int), v1, v2, v3] := by
    rcases x with _ | ⟨a, _ | ⟨b, _ | ⟨c, _ | ⟨d, _ | ⟨e, x⟩⟩⟩⟩⟩ <;> simp at hl
    simp only [List.getD_cons_zero, List.getD_cons_succ] at e0 e1 e2 e3
    rw [e0, e1, e2, e3]
  refine List.mem_filter.2 ⟨?_, h⟩
  rw [hx]
  obtain rfl : v0 = 0 := by omega
  rcases (show v1 = 0 ∨ v1 = 1 by omega) with rfl | rfl <;> rcases (show v2 = 0 ∨ v2 = 1 ∨ v2 = 2 by omega) with rfl | rfl | rfl <;>
    rcases (show v3 = 0 ∨ v3 = 1 ∨ v3 = 2 ∨ v3 = 3 by omega) with rfl | rfl | rfl | rfl <;> decide
def lads2 (a : List Int) : List (List (List Int)) := (allSteps.filter (coarser a)).map fun b => [a, b]
def lads3 (a : List Int) : List (List (List Int)) := (allSteps.filter (coarser a)).flatMap fun b => (allSteps.filter (coarser b)).map fun c => [a, b, c]
def lads : List (List (List Int)) := [[]] ++ (allSteps.map fun a => [a]) ++ allSteps.flatMap lads2 ++ allSteps.flatMap lads3
theorem lad_mem {ll : List (List Int)} (h : ladOk ll = true) : ll ∈ lads := by
  simp only [ladOk, Bool.and_eq_true, decide_eq_true_eq, all_range] at h
  obtain ⟨hl, hr⟩ := h
  unfold lads
  rcases ll with _ | ⟨a, _ | ⟨b, _ | ⟨c, _ | ⟨d, ll⟩⟩⟩⟩
  · simp
  · have h0 := hr 0 (by simp)
    simp [rungAt] at h0
    simp only [List.mem_append, List.mem_map, List.mem_flatMap]
    exact .inl (.inl (.inr ⟨a, step_mem h0, rfl⟩))
  · have h0 := hr 0 (by simp)
    have h1 := hr 1 (by simp)
    simp [rungAt] at h0 h1
    simp only [List.mem_append, List.mem_map, List.mem_flatMap, lads2, List.mem_filter]
    exact .inl (.inr ⟨a, step_mem h0, b, ⟨step_mem h1.1, h1.2⟩, rfl⟩)
  · have h0 := hr 0 (by simp)
    have h1 := hr 1 (by simp)
    have h2 := hr 2 (by simp)
    simp [rungAt] at h0 h1 h2
    simp only [List.mem_append, List.mem_map, List.mem_flatMap, lads3, List.mem_filter]
    exact .inr ⟨a, step_mem h0, b, ⟨step_mem h1.1, h1.2⟩, c, ⟨step_mem h2.1, h2.2⟩, rfl⟩
  · simp at hl
def nats (n : Nat) : List Int := (List.range n).map Int.ofNat
theorem nats_mem {n : Nat} {x : Int} (h0 : 0 ≤ x) (h1 : x < n) : x ∈ nats n := by
  simp only [nats, List.mem_map, List.mem_range]
  exact ⟨x.toNat, by omega, by simp; omega⟩
/-- Everything of a ladder, a level and a code that is asked of them, reckoned over all ladders. -/
theorem by_all (p : List (List Int) → Int → Int → Bool) (h : (lads.all fun ll => (nats (ll.length + 1)).all fun l => (nats 4).all fun c => p ll l c) = true)
    {ll : List (List Int)} (hll : ladOk ll = true) {l c : Int} (l0 : 0 ≤ l) (l1 : l ≤ ll.length) (c0 : 0 ≤ c) (c1 : c ≤ 3) : p ll l c = true :=
  List.all_eq_true.1 (List.all_eq_true.1 (List.all_eq_true.1 h ll (lad_mem hll)) l (nats_mem l0 (by omega))) c (nats_mem c0 (by omega))
theorem by_two (p : List (List Int) → Int → Int → Bool) (h : (lads.all fun ll => (nats 4).all fun a => (nats 4).all fun b => p ll a b) = true)
    {ll : List (List Int)} (hll : ladOk ll = true) {a b : Int} (a0 : 0 ≤ a) (a1 : a ≤ 3) (b0 : 0 ≤ b) (b1 : b ≤ 3) : p ll a b = true :=
  List.all_eq_true.1 (List.all_eq_true.1 (List.all_eq_true.1 h ll (lad_mem hll)) a (nats_mem a0 (by omega))) b (nats_mem b0 (by omega))
theorem by_one (p : List (List Int) → Bool) (h : lads.all p = true) {ll : List (List Int)} (hll : ladOk ll = true) : p ll = true :=
  List.all_eq_true.1 h ll (lad_mem hll)
end Go.Proofs.Ytbbgakbobefplaa
