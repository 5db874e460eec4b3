/- Contracts of the program: the bands of each group, in a map of pointers. -/
import Derived.Test.YtaaljmmnfgghfaaDI3
namespace Go.Proofs.Ytaaljmmnfgghfaa
open Go.RowKit Go.Maps
abbrev TMp : TypeId := 60
abbrev TPt : TypeId := 43
theorem pMap : Try.prog.underlying TMp = some (.map TK TPt) := Try.underlying60
theorem pZero (w : World) : (zeroValue TPt).run Try.prog w = .ok (.pointer none) w := by kernel_rfl
theorem own_blockG {R : Value → Option (Dm × List MemPlace)} {w w' : World} {b n : Nat} {D : Dm} (h : w.ownsMap Try.prog TK R b n D) (hb : w'.heap[b]? = w.heap[b]?) : w'.ownsMap Try.prog TK R b n D := by
  obtain ⟨es, clock, h1, h2⟩ := h
  exact ⟨es, clock, hb.trans h1, h2⟩
/-- Block b is a map from the keys X to blocks of bands, those of the pairs y. -/
def GB (w : World) (b n : Nat) (X : List Key) (y : List (Key × Int)) : Prop :=
  ∃ D f, w.ownsMap Try.prog TK ePtr b n D ∧ PTells D X f ∧ (∀ q ∈ X, wfK q ∧ b < f q ∧ BB w (f q) (rowB y q)) ∧ ∀ q ∈ X, ∀ q' ∈ X, f q = f q' → q = q'
theorem GB.made (w : World) : GB (w.alloc (.map #[] 0)) w.heap.size 0 [] [] :=
  ⟨_, fun _ => 0, World.ownsMap_made _ _ _ _, ptells_none _, fun q hq => absurd hq (by simp), fun q hq => absurd hq (by simp)⟩
section
variable {w w' : World} {b n : Nat} {X : List Key} {y : List (Key × Int)}
theorem GB.lt (h : GB w b n X y) : b < w.heap.size := by obtain ⟨D, f, hown, _⟩ := h; exact hown.lt
theorem GB.below (h : GB w b n X y) (hb : Below w.heap.size w w') : GB w' b n X y := by
  obtain ⟨D, f, h1, h2, h3, h4⟩ := h
  exact ⟨D, f, own_blockG h1 (hb.block b h1.lt), h2, fun q hq => ⟨(h3 q hq).1, (h3 q hq).2.1, (h3 q hq).2.2.keep (hb.block _ (h3 q hq).2.2.lt)⟩, h4⟩
theorem GB.alloc (h : GB w b n X y) (o : Obj) : GB (w.alloc o) b n X y := h.below ((Below.refl _ _).alloc (Nat.le_refl _) o)
theorem GB.mono (h : GB w b n X y) {m : Nat} (hm : n ≤ m) : GB w b m X y := by
  obtain ⟨D, f, h1, h2⟩ := h
  exact ⟨D, f, h1.mono hm, h2⟩
theorem GB.old (h : GB w b n X y) {a : Key} (ha : a ∈ X) : GB w b n (X ++ [a]) y := by
  obtain ⟨D, f, h1, h2, h3, h4⟩ := h
  have e : ∀ q, q ∈ X ++ [a] → q ∈ X := fun q hq => by
    rcases List.mem_append.1 hq with hq | hq
    · exact hq
    · rw [List.mem_singleton.1 hq]; exact ha
  exact ⟨D, f, h1, h2.old ha, fun q hq => h3 q (e q hq), fun q hq q' hq' => h4 q (e q hq) q' (e q' hq')⟩
theorem rowB_none {a : Key} (h : a ∉ y.map Prod.fst) : rowB y a = rowB ([] : List (Key × Int)) a := by
  unfold rowB
  refine List.map_congr_left fun i _ => ?_
  have e : nb y a (i : Int) = 0 := by
    rcases Nat.eq_zero_or_pos (nb y a (i : Int)) with e | e
    · exact e
    · exact absurd (List.mem_map.2 ⟨(a, (i : Int)), nb_in e, rfl⟩) h
  rw [e]; rfl
/-- A new key: a new block of zeros has been made, and its pointer stored. -/
theorem GB.new (h : GB w b n X y) {a : Key} (hw : wfK a) (hn : n < maxLen) (ha : a ∉ X) (hy : a ∉ y.map Prod.fst) :
    ∃ w6, (Instr.mapUpdate TMp (.map (some b)) (kv a) (.pointer (some ⟨w.heap.size, 0, none⟩))).run Try.prog (w.alloc (.cells (Array.replicate 10 (.int .i64 0)) TBc)) = .ok () w6 ∧ GB w6 b (n + 1) (X ++ [a]) y ∧ (w.alloc (.cells (Array.replicate 10 (.int .i64 0)) TBc)).grownBy w6 (some b) := by
  obtain ⟨D, f, h1, h2, h3, h4⟩ := h
  have hb := h1.lt
  have hnew : BB (w.alloc (.cells (Array.replicate 10 (.int .i64 0)) TBc)) w.heap.size (rowB y a) := by rw [rowB_none hy]; exact BB.new w a
  obtain ⟨w6, hup, hown, hg⟩ := (h1.alloc (.cells (Array.replicate 10 (.int .i64 0)) TBc)).update kLaw pMap hn (kOf a hw) (show ePtr (.pointer (some ⟨w.heap.size, 0, none⟩)) = some (num (w.heap.size : Int), []) from rfl)
  have hk : ∀ {c : Nat} {m : List Int}, BB (w.alloc (.cells (Array.replicate 10 (.int .i64 0)) TBc)) c m → c ≠ b → BB w6 c m := fun hc hne => hc.keep (hg.block _ hc.lt (fun e => hne (by injection e)))
  have hfl : ∀ q ∈ X, f q < w.heap.size := fun q hq => (h3 q hq).2.2.lt
  refine ⟨w6, hup, ⟨_, _, hown, h2.new hw w.heap.size ha, fun q hq => ?_, fun q hq q' hq' he => ?_⟩, hg⟩
  · by_cases e : q = a
    · subst e
      simp only [if_true]
      exact ⟨hw, hb, hk hnew (by omega)⟩
    · have hq2 : q ∈ X := by
        rcases List.mem_append.1 hq with h | h
        · exact h
        · exact absurd (List.mem_singleton.1 h) e
      obtain ⟨k1, k2, k3⟩ := h3 q hq2
      simp only [if_neg e]
      exact ⟨k1, k2, hk (k3.alloc _) (by omega)⟩
  · have inX : ∀ q, q ∈ X ++ [a] → q ≠ a → q ∈ X := fun q hq e => by
      rcases List.mem_append.1 hq with h | h
      · exact h
      · exact absurd (List.mem_singleton.1 h) e
    by_cases e : q = a
    · by_cases e' : q' = a
      · rw [e, e']
      · simp only [if_pos e, if_neg e'] at he
        have := hfl q' (inX q' hq' e'); omega
    · by_cases e' : q' = a
      · simp only [if_neg e, if_pos e'] at he
        have := hfl q (inX q hq e); omega
      · simp only [if_neg e, if_neg e'] at he
        exact h4 q (inX q hq e) q' (inX q' hq' e') he
theorem GB.out (h : GB w b n X y) {a : Key} (hw : wfK a) (ha : a ∉ X) {u : World} (hu : u.heap[b]? = w.heap[b]?) : (Instr.lookup TMp (.map (some b)) (kv a) false).run Try.prog u = .ok (.pointer none) u := by
  obtain ⟨D, f, h1, h2, h3, h4⟩ := h
  obtain ⟨v, ps, hrun, hv⟩ := (own_blockG h1 hu).lookup kLaw pMap (pZero u) (show ePtr (.pointer none) = some (.nil, []) from rfl) (kOf a hw)
  rw [h2.at_ a hw, if_neg ha] at hv
  rcases ePtr_inv hv with ⟨rfl, _⟩ | ⟨c, _, hc⟩
  · exact hrun
  · simp at hc
/-- A key that is there: its block, and what stands when that block alone has one more. -/
theorem GB.in_ (h : GB w b n X y) {a : Key} (ha : a ∈ X) : ∃ B, b < B ∧ BB w B (rowB y a) ∧ (∀ u : World, u.heap[b]? = w.heap[b]? → (Instr.lookup TMp (.map (some b)) (kv a) false).run Try.prog u = .ok (.pointer (some ⟨B, 0, none⟩)) u) ∧
    ∀ (i : Int) (w' : World), w.grownBy w' (some B) → BB w' B (rowB (y ++ [(a, i)]) a) → GB w' b n X (y ++ [(a, i)]) := by
  obtain ⟨D, f, h1, h2, h3, h4⟩ := h
  obtain ⟨k1, k2, k3⟩ := h3 a ha
  refine ⟨f a, k2, k3, fun u hu => ?_, fun i w' hg hB => ?_⟩
  · obtain ⟨v, ps, hrun, hv⟩ := (own_blockG h1 hu).lookup kLaw pMap (pZero u) (show ePtr (.pointer none) = some (.nil, []) from rfl) (kOf a k1)
    rw [h2.at_ a k1, if_pos ha] at hv
    rcases ePtr_inv hv with ⟨_, hc⟩ | ⟨c, rfl, hc⟩
    · simp at hc
    · have e : f a = c := by
        simp at hc
        have := hc.1; omega
      rw [e]; exact hrun
  · refine ⟨D, f, own_blockG h1 (hg.block b h1.lt (fun e => by injection e; omega)), h2, fun q hq => ?_, h4⟩
    obtain ⟨j1, j2, j3⟩ := h3 q hq
    by_cases e : q = a
    · subst e; exact ⟨j1, j2, hB⟩
    · refine ⟨j1, j2, ?_⟩
      rw [rowB_no _ _ _ (fun e2 => e e2.symm)]
      exact j3.keep (hg.block _ j3.lt (fun e2 => e (h4 q hq a ha (by injection e2))))
end
end Go.Proofs.Ytaaljmmnfgghfaa
