/- Diversity in the program: bands in blocks; a map of pointers to them. -/
import Derived.Test.YtaaljmmnfgghfaaDS3
import Derived.Test.YtaaljmmnfgghfaaGI
namespace Go.Proofs.Ytaaljmmnfgghfaa
open Go.RowKit Go.Maps
section
variable {α : Type} [DecidableEq α]
theorem rowB_sum {y : List (α × Int)} (hy : Bn y) (a : α) : (rowB y a).sum = (kn y a : Int) := by
  have e : bnds = (List.range 10).map fun i : Nat => (i : Int) := rfl
  have h := sum_nb hy a
  have h2 := sum_cast (fun b => nb y a b) bnds
  rw [h, e, List.map_map] at h2
  rw [h2]; rfl
theorem rowB_at (y : List (α × Int)) (a : α) {i : Nat} (hi : i < 10) : (rowB y a)[i]'(by rw [rowB_len]; exact hi) = (nb y a (i : Int) : Int) := by
  have h := rowB_in y a hi
  rw [List.getElem?_eq_getElem (by rw [rowB_len]; exact hi)] at h
  exact Option.some.inj h
/-- All people as one group. -/
def ub (y : List (α × Int)) : List (Unit × Int) := y.map fun q => ((), q.2)
omit [DecidableEq α] in
theorem nb_ub (y : List (α × Int)) (b : Int) : nb (ub y) () b = tb y b := by
  unfold nb tb ub
  rw [List.filter_map, List.length_map]
  refine congrArg List.length (List.filter_congr fun q _ => ?_)
  simp
omit [DecidableEq α] in
theorem kn_ub (y : List (α × Int)) : kn (ub y) () = y.length := by
  unfold kn ub
  rw [List.filter_eq_self.2 fun q _ => by simp, List.length_map]
omit [DecidableEq α] in
theorem bn_ub {y : List (α × Int)} (h : Bn y) : Bn (ub y) := fun q hq => by
  obtain ⟨p, hp, rfl⟩ := List.mem_map.1 hq; exact h p hp
omit [DecidableEq α] in
theorem ub_app (x y : List (α × Int)) : ub (x ++ y) = ub x ++ ub y := by simp [ub]
/-- The least of what the keys that have come are given. -/
def leastF (x : List α) (g : α → Nat) (n : Nat) (come : α → Bool) : Nat := ((x.filter come).map g).foldl min n
omit [DecidableEq α] in
theorem leastF_none (x : List α) (g : α → Nat) (n : Nat) (come : α → Bool) (h : ∀ a ∈ x, come a = false) : leastF x g n come = n := by
  unfold leastF
  rw [List.filter_eq_nil_iff.2 fun a ha => by simp [h a ha]]; rfl
omit [DecidableEq α] in
theorem leastF_all (x : List α) (g : α → Nat) (n : Nat) (come : α → Bool) (h : ∀ a ∈ x, come a = true) : leastF x g n come = (x.map g).foldl min n := by
  unfold leastF
  rw [List.filter_eq_self.2 h]
omit [DecidableEq α] in
theorem leastF_le (x : List α) (g : α → Nat) (n : Nat) (come : α → Bool) : leastF x g n come ≤ n := (foldl_min_le _ _).1
theorem leastF_step (x : List α) (g : α → Nat) (n : Nat) (come come' : α → Bool) (q : α) (hq : q ∈ x) (h : ∀ a ∈ x, come' a = (come a || decide (a = q))) : leastF x g n come' = min (leastF x g n come) (g q) := by
  unfold leastF
  obtain ⟨k1, k2⟩ := foldl_min_le ((x.filter come).map g) n
  refine foldl_min_is (by omega) (fun a ha => ?_) ?_
  · obtain ⟨b, hb, rfl⟩ := List.mem_map.1 ha
    obtain ⟨hb1, hb2⟩ := List.mem_filter.1 hb
    rw [h b hb1, Bool.or_eq_true, decide_eq_true_eq] at hb2
    rcases hb2 with hb2 | rfl
    · have := k2 _ (List.mem_map.2 ⟨b, List.mem_filter.2 ⟨hb1, hb2⟩, rfl⟩); omega
    · omega
  · rcases Nat.le_total (((x.filter come).map g).foldl min n) (g q) with h1 | h1
    · rw [Nat.min_eq_left h1]
      rcases foldl_min_mem ((x.filter come).map g) n with h2 | h2
      · left; exact h2
      · right
        obtain ⟨b, hb, hb3⟩ := List.mem_map.1 h2
        obtain ⟨hb1, hb2⟩ := List.mem_filter.1 hb
        rw [← hb3]
        exact List.mem_map.2 ⟨b, List.mem_filter.2 ⟨hb1, by rw [h b hb1, hb2]; rfl⟩, rfl⟩
    · rw [Nat.min_eq_right h1]
      right
      exact List.mem_map.2 ⟨q, List.mem_filter.2 ⟨hq, by rw [h q hq]; simp⟩, rfl⟩
theorem leastF_dlst (y : List (α × Int)) : ((y.map Prod.fst).map (dsz y)).foldl min y.length = dlst y := by
  unfold dlst; rw [List.map_map]; rfl
end
theorem pairs_len (X : List (Key × Int)) : (X.map Prod.fst).length = X.length := List.length_map ..
/-- How a pointer to a block reads. -/
def ePtr : Value → Option (Dm × List MemPlace)
  | .pointer none => some (.nil, [])
  | .pointer (some ⟨b, 0, none⟩) => some (num (b : Int), [])
  | _ => none
theorem ePtr_inv {v : Value} {z : Dm × List MemPlace} (h : ePtr v = some z) : (v = .pointer none ∧ z = (.nil, [])) ∨ ∃ b : Nat, v = .pointer (some ⟨b, 0, none⟩) ∧ z = (num (b : Int), []) := by
  unfold ePtr at h
  split at h
  · left; exact ⟨rfl, (Option.some.inj h).symm⟩
  · right; exact ⟨_, rfl, (Option.some.inj h).symm⟩
  · cases h
/-- What a map of pointers tells: the keys x, the block of each. -/
structure PTells (D : Dm) (x : List Key) (f : Key → Nat) : Prop where
  tidy : Tidy D
  at_ : ∀ q, wfK q → D.atKey (kl q) .nil = if q ∈ x then num (f q) else .nil
  has : ∀ q, wfK q → Maps.has D (kl q) = decide (q ∈ x)
theorem ptells_none (f : Key → Nat) : PTells (.map []) [] f := ⟨tidy_empty, fun _ _ => by simp; rfl, fun _ _ => rfl⟩
theorem PTells.old {D : Dm} {x : List Key} {f : Key → Nat} (h : PTells D x f) {q : Key} (hq : q ∈ x) : PTells D (x ++ [q]) f := by
  have e : ∀ a : Key, (a ∈ x ++ [q]) = (a ∈ x) := fun a => by
    simp only [List.mem_append, List.mem_singleton, eq_iff_iff]
    exact ⟨fun h => h.elim id fun e => e ▸ hq, Or.inl⟩
  exact ⟨h.tidy, fun a ha => by rw [h.at_ a ha]; simp only [e], fun a ha => by rw [h.has a ha]; simp only [e]⟩
theorem PTells.new {D : Dm} {x : List Key} {f : Key → Nat} (h : PTells D x f) {q : Key} (hw : wfK q) (b : Nat) (hq : q ∉ x) : PTells (D.put (kl q) (num (b : Int))) (x ++ [q]) (fun a => if a = q then b else f a) := by
  refine ⟨h.tidy.put (kl_key q) _, fun a ha => ?_, fun a ha => ?_⟩
  · by_cases e : a = q
    · subst e
      rw [Maps.atKey_put_same h.tidy.isMap (kl_key a), if_pos (by simp), if_pos rfl]
    · rw [Maps.atKey_put_other (fun e2 => e (kl_inj ha hw e2)), h.at_ a ha]
      simp [e]
  · by_cases e : a = q
    · subst e
      rw [Maps.has_put_same h.tidy.isMap (kl_key a)]; simp
    · rw [Maps.has_put_other (fun e2 => e (kl_inj ha hw e2)), h.has a ha]; simp [e]
abbrev TBc : TypeId := 71
/-- A block of bands. -/
def BB (w : World) (b : Nat) (m : List Int) : Prop := w.heap[b]? = some (.cells (icells m).toArray TBc (0, 0))
section
variable {w w' : World} {b : Nat} {m : List Int}
theorem BB.lt (h : BB w b m) : b < w.heap.size := (Array.getElem?_eq_some_iff.1 h).1
theorem BB.keep (h : BB w b m) (hk : w'.heap[b]? = w.heap[b]?) : BB w' b m := hk.trans h
theorem BB.cell (h : BB w b m) {i : Nat} {n : Int} (hi : m[i]? = some n) : w.cell? ⟨b, i, none⟩ = some (.int .i64 n) := by
  rw [cell_of_row w b i _ _ _ h, List.getElem?_toArray, icells, List.getElem?_map, hi]; rfl
theorem BB.free (h : BB w b m) (i : Nat) : w.frozen? ⟨b, i, none⟩ = false := frozen_of_row w b i _ _ h
theorem BB.set (h : BB w b m) (i : Nat) (n : Int) : BB (w.setCell ⟨b, i, none⟩ (.int .i64 n)) b (m.set i n) := by
  unfold BB at h ⊢
  simp [World.setCell, Array.getElem?_modify, h, icells, List.map_set]
theorem BB.alloc (h : BB w b m) (o : Obj) : BB (w.alloc o) b m := h.keep (Below.heap_alloc w o b h.lt)
theorem BB.new (w : World) (a : Key) : BB (w.alloc (.cells (Array.replicate 10 (.int .i64 0)) TBc)) w.heap.size (rowB ([] : List (Key × Int)) a) := heap_alloc_new w _
end
set_option maxHeartbeats 1000000 in
theorem iAdd_any (m : List Int) (B : Nat) (p : Pn) (hp : 0 ≤ p.pay ∧ p.pay ≤ 999) (i : Nat) (hi : p.pay / 100 = (i : Int)) (n : Nat) (hn : m[i]? = some (n : Int)) (hn6 : n ≤ 1000000) (w : World) (hB : BB w B m) :
    Calls Try.prog 48 #[.pointer (some ⟨B, 0, none⟩), p.val] w fun e w' => e = .returned (.tuple #[]) ∧ BB w' B (m.set i ((n : Int) + 1)) ∧ w.grownBy w' (some B) := by
  obtain ⟨W, hW⟩ : ∃ W, W = w.alloc (.cells #[.int .i64 p.area, .int .i64 p.job, .int .i64 p.sex, .int .i64 p.pay] TP) := ⟨_, rfl⟩
  have hBW : BB W B m := by rw [hW]; exact hB.alloc _
  have d3 : W.cell? ⟨w.heap.size, 3, none⟩ = some (.int .i64 p.pay) := by rw [hW]; simp [go_sem]
  have hg : w.grownBy W (some B) := by rw [hW]; exact World.grownBy_alloc _ _ _
  have c0 := hBW.cell hn
  have f0 := hBW.free i
  have hi10 : i < 10 := by omega
  have hb := band_any p.pay W.drew
  have hbe : band p.pay = (i : Int) := by simp only [band]; rw [if_pos ⟨hp.1, hp.2⟩]; exact hi
  rw [hbe] at hb
  clear hbe
  have hwn : IntKind.i64.wrap ((n : Int) + 1) = (n : Int) + 1 := by rw [IntKind.wrap_i64]; omega
  have hi1 : (0 : Int) ≤ (i : Int) := by omega
  have hi2 : (i : Int) < 10 := by omega
  go_enter Try.func48, Try.ntmps48
  go_wp2
  rw [← hW]
  clear hW hi
  refine wp_region_still_tail 10 (by kernel_rfl) (by kernel_rfl) ?_
  simp only [List.take_succ_cons, List.take_zero, List.drop_succ_cons, List.drop_zero]
  repeat still_step
  still_call (hb.mono fun _ _ h => ⟨h.1, h.2.symm⟩)
  repeat still_step
  try refine wpStill_nil ?_
  change wpList _ _ _ _ _ W.drew
  obtain ⟨X, hX⟩ : ∃ X, X = W.drew := ⟨_, rfl⟩
  rw [← hX]
  have HS := Lib.hid (show BB (X.setCell ⟨B, i, none⟩ (.int .i64 ((n : Int) + 1))) B (m.set i ((n : Int) + 1)) by rw [hX]; exact (show BB W.drew B m from hBW).set i _)
  have HG := Lib.hid (show w.grownBy (X.setCell ⟨B, i, none⟩ (.int .i64 ((n : Int) + 1))) (some B) by rw [hX]; exact grown_set (p := ⟨B, i, none⟩) (show w.grownBy W.drew (some B) from ⟨hg.os, hg.tape, hg.output, hg.size, hg.block⟩) (.inl rfl) _)
  have f1 : X.frozen? ⟨B, i, none⟩ = false := by rw [hX]; exact f0
  have c1 : X.cell? ⟨B, i, none⟩ = some (.int .i64 n) := by rw [hX]; exact c0
  clear hX hb c0 f0 d3 hBW hB hg hn
  go_wp2
  first | go_end0 | refine bodyPost_ret (results_none rfl _ _ _) rfl ?_
  exact ⟨rfl, HS.out, HG.out⟩
end Go.Proofs.Ytaaljmmnfgghfaa
