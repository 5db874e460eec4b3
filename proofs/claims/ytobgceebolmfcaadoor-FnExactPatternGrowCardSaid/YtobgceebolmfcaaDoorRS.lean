/- A region that draws its order, reads first and writes last, in a round of a range over a function: it is walked as outside of it. -/
import Derived.Test.YtobgceebolmfcaaDoorRF
import Derived.StillTailTactics
import Derived.BigQuiet
namespace Go.Proofs.YtobgceebolmfcaaDoor
section
variable {P : Program}
/-- An operation that its guard passes over. -/
theorem wpStill_pass {ops : Array Oper} {w : World} {Q : Act → Prop} {a : Act} {o : Oper} {rest : List Oper} (hw : Region.wanted o (yielded ops a.tmps) = false) (h : wpStill P ops w Q rest (a.put o.dst undef)) : wpStill P ops w Q (o :: rest) a := by
  rw [wpStill, if_neg (by rw [hw]; decide)]; exact h
theorem region_still_round {l0 n0 id : Nat} {K : Exit → Act → World → Prop} {a : Act} {w : World} {l : List Oper} (n : Nat) (hm : P.follows .mixedOrders = true) (hB : Region.lexTailB .any l.toArray n = true)
    (hnd : (l.toArray.all fun o => match o.op with | .defer _ => false | _ => true) = true)
    (h : wpStill P l.toArray { w with drawn := w.drawn + 1 } (fun a' => wpList P l.toArray (fun e a y => e = .normal ∧ K e a y) (l.drop n) a' { w with drawn := w.drawn + 1 }) (l.take n) a) :
    (Code.region id l.toArray true).wpIn (Fence.wide.inRound l0) n0 P K a w := by
  simp only [Region.lexTailB, Bool.and_eq_true, decide_eq_true_eq] at hB
  obtain ⟨⟨⟨⟨hsel, hn⟩, hs⟩, hc⟩, hlex⟩ := hB
  have hn' : n < l.length := by simpa using hn
  have htl : (l.take n).length = n := by simp; omega
  have hdl : (l.drop n).length = l.toArray.size - n := by simp
  have inv0 : HeadInv .any l.toArray n (Array.replicate l.toArray.size false) :=
    ⟨by simp, fun j oj _ hl => (by rw [getD_replicate_false] at hl; cases hl), fun t _ ht => getD_in (by simpa using ht) (getD_replicate_false _ _)⟩
  have H := wpAnyL_lex (md := .any) (g := l.toArray.size - n) hsel hs hc hn (l.take n) 0 _ a (fun j hj => by
    have hj' : j < n := by rw [htl] at hj; exact hj
    simp [hj']) (by simpa using htl) inv0 (by rw [htl]; exact hlex) h
  have hL : ¬ LetsOut (fun (e : Exit) (a : Act) (y : World) => e = .normal ∧ K e a y) := fun ⟨_, _, h⟩ => by cases h.1
  refine wpIn_mono (Q := fun e a y => e = .normal ∧ K e a y) (wpIn_region_any hm (wpAnyIn_round hL (fun i o ho c hc => ?_) _ _ _ _ ?_)) (fun e a y h => h.2)
  · have h1 := Array.all_eq_true_iff_forall_mem.1 hnd o (Array.mem_of_getElem? ho)
    rw [hc] at h1
    cases h1
  have := wpAny_of_head (Q' := fun e a y => e = .normal ∧ K e a y) (g := l.toArray.size - n) (fun listed a' hL => by
    have := wpAny_of_seq (md := .any) (Q' := fun e a y => e = .normal ∧ K e a y) (l.drop n) n listed a' { w with drawn := w.drawn + 1 } (fun j => by simp [List.getElem?_drop]) (by rw [hdl]; exact hL.1) hL.2
    rwa [hdl] at this) _ _ _ H
  rw [htl, show n + (l.toArray.size - n) = l.toArray.size by omega] at this
  exact this
/-- A region that draws its order and only reads, in a round. -/
theorem region_quiet_round {l0 n0 id : Nat} {K : Exit → Act → World → Prop} {a : Act} {w : World} {l : List Oper} (hm : P.follows .mixedOrders = true) (hB : Region.lexB .any l.toArray = true)
    (hnd : (l.toArray.all fun o => match o.op with | .defer _ => false | _ => true) = true)
    (h : wpQuiet P l.toArray (fun w' => ∃ n, w' = w.drewN n) (fun a' => ∀ w', (∃ n, w' = w.drewN n) → K .normal a' w') l a) :
    (Code.region id l.toArray true).wpIn (Fence.wide.inRound l0) n0 P K a w := by
  simp only [Region.lexB, Bool.and_eq_true] at hB
  have hL : ¬ LetsOut (fun (e : Exit) (a : Act) (y : World) => e = .normal ∧ K e a y) := fun ⟨_, _, h⟩ => by cases h.1
  refine wpIn_mono (Q := fun e a y => e = .normal ∧ K e a y) (wpIn_region_any hm (wpAnyIn_round hL (fun i o ho c hc => ?_) _ _ _ _ ?_)) (fun e a y h => h.2)
  · have h1 := Array.all_eq_true_iff_forall_mem.1 hnd o (Array.mem_of_getElem? ho)
    rw [hc] at h1
    cases h1
  refine wpAny_of_quiet (C := fun w' => ∃ n, w' = w.drewN n) (Q := fun a' => ∀ w', (∃ n, w' = w.drewN n) → K .normal a' w') (fun _ w' hw' h => ⟨rfl, h w' hw'⟩) _ _ _ _ ⟨1, rfl⟩ ?_
  have := wpAnyQ_lex (C := fun w' => ∃ n, w' = w.drewN n) (md := .any) hB.1 l 0 (Array.replicate l.toArray.size false) a (by simp) (by simpa using hB.2) h
  simpa using this
end
end Go.Proofs.YtobgceebolmfcaaDoor
