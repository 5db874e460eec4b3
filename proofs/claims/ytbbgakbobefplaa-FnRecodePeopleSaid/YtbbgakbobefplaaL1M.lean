/- Rows of integers that are somebody's own, each row apart from the others. -/
import Derived.Test.YtbbgakbobefplaaL1
namespace Go.Proofs.Ytbbgakbobefplaa
open Go.RowKit
abbrev nilS : Value := .slice none 0 0
theorem Own1.same {T : TypeId} {w w' : World} {B : Nat} {v : Value} {cs : List Value} (h : Own1 T w B v cs) (hk : ∀ k, v.ownBlock = some k → w'.heap[k]? = w.heap[k]?) : Own1 T w' B v cs := by
  obtain ⟨h1, h2⟩ := h
  refine ⟨h1, ?_⟩
  rcases h2 with h2 | ⟨g, cap, cur, rfl, hg, hh, r⟩
  · exact .inl h2
  · exact .inr ⟨g, cap, cur, rfl, hg, (hk g rfl).trans hh, r⟩
/-- The headers 'hs' are rows of one's own, in blocks from B on below T, none of them 'no', no two of them one. -/
def Rws (w : World) (B T : Nat) (no : Option Nat) (hs : List Value) (ll : List (List Int)) : Prop :=
  hs.length = ll.length ∧ (∀ i, i < ll.length → Own1 TN w B (hs.getD i nilS) (icells (ll.getD i [])) ∧ ∀ k, (hs.getD i nilS).ownBlock = some k → k < T ∧ some k ≠ no) ∧
    ∀ i j k, i < j → j < ll.length → (hs.getD i nilS).ownBlock = some k → (hs.getD j nilS).ownBlock ≠ some k
def Mine (w : World) (B T : Nat) (v : Value) (ll : List (List Int)) : Prop := T ≤ w.heap.size ∧ (∀ k, v.ownBlock = some k → k < T) ∧ ∃ hs, Own1 TI w B v hs ∧ Rws w B T v.ownBlock hs ll
theorem getD_snoc_lt {α : Type} {l : List α} {x d : α} {i : Nat} (h : i < l.length) : (l ++ [x]).getD i d = l.getD i d := by
  rw [List.getD_eq_getElem?_getD, List.getElem?_append_left h, List.getD_eq_getElem?_getD]
theorem getD_snoc_at {α : Type} {l : List α} {x d : α} {i : Nat} (h : i = l.length) : (l ++ [x]).getD i d = x := by
  subst h; simp
section
variable {w w' : World} {B T : Nat} {no : Option Nat} {hs : List Value} {ll : List (List Int)}
theorem Rws.nil (w : World) (B T : Nat) (no : Option Nat) : Rws w B T no [] [] := ⟨rfl, fun i hi => by simp at hi, fun i j k _ hj => by simp at hj⟩
theorem Rws.same (h : Rws w B T no hs ll) (hk : ∀ k, B ≤ k → k < T → some k ≠ no → w'.heap[k]? = w.heap[k]?) : Rws w' B T no hs ll :=
  ⟨h.1, fun i hi => ⟨(h.2.1 i hi).1.same fun k e => hk k (((h.2.1 i hi).1.ob k e).1) ((h.2.1 i hi).2 k e).1 ((h.2.1 i hi).2 k e).2, (h.2.1 i hi).2⟩, h.2.2⟩
theorem Rws.snoc {T' : Nat} {v : Value} {x : List Int} (h : Rws w B T no hs ll) (ho : Own1 TN w B v (icells x)) (hT : T ≤ T') (hv : ∀ k, v.ownBlock = some k → T ≤ k ∧ k < T' ∧ some k ≠ no) : Rws w B T' no (hs ++ [v]) (ll ++ [x]) := by
  have hl := h.1
  refine ⟨by simp [hl], fun i hi => ?_, fun i j k hij hj e => ?_⟩
  · rcases (show i < ll.length ∨ i = ll.length by simp at hi; omega) with hi | hi
    · rw [getD_snoc_lt (by omega), getD_snoc_lt hi]
      exact ⟨(h.2.1 i hi).1, fun k e => ⟨by have := ((h.2.1 i hi).2 k e).1; omega, ((h.2.1 i hi).2 k e).2⟩⟩
    · rw [getD_snoc_at (by omega), getD_snoc_at hi]
      exact ⟨ho, fun k e => (hv k e).2⟩
  · have hi : i < ll.length := by simp at hj; omega
    rw [getD_snoc_lt (by omega)] at e
    rcases (show j < ll.length ∨ j = ll.length by simp at hj; omega) with hj | hj
    · rw [getD_snoc_lt (by omega)]
      exact h.2.2 i j k hij hj e
    · rw [getD_snoc_at (by omega)]
      intro e2
      have := ((h.2.1 i hi).2 k e).1
      have := (hv k e2).1
      omega
theorem Rws.heads (h : Rws w B T no hs ll) : Heads w B no hs ll := by
  refine ⟨h.1, fun i hi => ?_⟩
  obtain ⟨ho, hb⟩ := h.2.1 i hi
  obtain ⟨A, c, hv, h1, h2, hr, hB⟩ := ho.form
  have hi2 : i < hs.length := by rw [h.1]; exact hi
  have e : hs[i]? = some (hs.getD i nilS) := by rw [List.getD_eq_getElem?_getD, List.getElem?_eq_getElem hi2]; rfl
  rw [icells_len] at hv h1
  refine ⟨A, c, by rw [e, hv], h1, h2, ?_⟩
  rcases hr with hr | ⟨b, o, rfl, hlt, hc⟩
  · have := icells_len (ll.getD i []); rw [hr] at this; exact .inl (List.eq_nil_of_length_eq_zero this.symm)
  · exact .inr ⟨b, o, rfl, hB _ rfl, hlt, (hb b (by rw [hv]; rfl)).2, hc⟩
theorem Mine.own {v : Value} (h : Mine w B T v ll) : OwnLL w B B v ll := by
  obtain ⟨_, _, hs, ho, hr⟩ := h
  exact ⟨hs, ho, hr.heads⟩
theorem Mine.same {v : Value} (h : Mine w B T v ll) (hz : w.heap.size ≤ w'.heap.size) (hk : ∀ k, B ≤ k → k < T → w'.heap[k]? = w.heap[k]?) : Mine w' B T v ll := by
  obtain ⟨hT, hv, hs, ho, hr⟩ := h
  exact ⟨by omega, hv, hs, ho.same fun k e => hk k (ho.ob k e).1 (hv k e), hr.same fun k a b _ => hk k a b⟩
theorem Mine.below {v : Value} (h : Mine w B T v ll) (hb : Below w.heap.size w w') : Mine w' B T v ll :=
  h.same hb.size fun k _ hk => hb.block k (Nat.lt_of_lt_of_le hk h.1)
end
/-- One more row behind rows of one's own. -/
theorem wp_appMineT {t : TypeId} (h1t : OneCell t TI) {o : Oper} {a : Act} {w : World} {K : Act → World → Prop} {Q : Exit → Act → World → Prop} (s x : Operand)
    (ho : o.op = .call { callee := .builtin .append, args := #[s, x], argTypes := #[t, t] }) (B T : Nat) (v : Value) (ll : List (List Int)) (hs : a.eval s = v) (hown : Mine w B T v ll)
    (Bd : Nat) (A : Option Addr) (d : Nat) (h : Value) (y : List Int) (hx : a.eval x = .slice A 1 d) (hr : Row w Bd A [h]) (B' : Nat) (hB : B' ≤ B) (hrow : Own1 TN w B' h (icells y))
    (hfr : ∀ k, h.ownBlock = some k → some k ≠ v.ownBlock ∧ (T ≤ k ∨ k < B)) (hlen : ll.length + 1 ≤ 1000000) (hbase : B ≤ w.heap.size)
    (hc : ∀ v' w', Mine w' B' w'.heap.size v' (ll ++ [y]) → w.grownBy w' v.ownBlock → (∀ k, v'.ownBlock = some k → B ≤ k) → K (a.put o.dst v') w') : o.wp Try.prog a w K Q := by
  obtain ⟨hT, hv, h0, h1, h2⟩ := hown
  have hone : h.oneCell' = true := by
    obtain ⟨A', c', e, _⟩ := hrow.form
    rw [e]; rfl
  refine wp_append1 h1t s x ho B v h0 hs h1 Bd A 1 d [h] rfl hx hr (fun u hu => by rw [List.mem_singleton.1 hu]; exact hone) (by rw [h2.1]; exact hlen) hbase fun v' w' a1 a2 a3 => hc v' w' ?_ a2 (fun k e => (a1.ob k e).1)
  refine ⟨Nat.le_refl _, fun k e => (a1.ob k e).2, h0 ++ [h], a1.less hB, ?_⟩
  have hl := h2.1
  have key : ∀ k, k < w.heap.size → some k ≠ v.ownBlock → w'.heap[k]? = w.heap[k]? ∧ some k ≠ v'.ownBlock := fun k h3 h4 => ⟨a2.block k h3 h4, by
    rcases a3 with e | e
    · rw [e]; exact h4
    · rw [e]; intro e2; injection e2 with e2; omega⟩
  have hz := a2.size
  refine ⟨by simp [hl], fun i hi => ?_, fun i j k hij hj e => ?_⟩
  · rcases (show i < ll.length ∨ i = ll.length by simp at hi; omega) with hi | hi
    · rw [getD_snoc_lt (by omega), getD_snoc_lt hi]
      obtain ⟨b1, b2⟩ := h2.2.1 i hi
      exact ⟨(b1.less hB).same fun k e => (key k (by have := (b2 k e).1; omega) (b2 k e).2).1, fun k e => ⟨by have := (b2 k e).1; omega, (key k (by have := (b2 k e).1; omega) (b2 k e).2).2⟩⟩
    · rw [getD_snoc_at (by omega), getD_snoc_at hi]
      exact ⟨hrow.same fun k e => (key k (hrow.ob k e).2 (hfr k e).1).1, fun k e => ⟨by have := (hrow.ob k e).2; omega, (key k (hrow.ob k e).2 (hfr k e).1).2⟩⟩
  · have hi : i < ll.length := by simp at hj; omega
    rw [getD_snoc_lt (by omega)] at e
    rcases (show j < ll.length ∨ j = ll.length by simp at hj; omega) with hj | hj
    · rw [getD_snoc_lt (by omega)]
      exact h2.2.2 i j k hij hj e
    · rw [getD_snoc_at (by omega)]
      intro e2
      obtain ⟨b1, b2⟩ := h2.2.1 i hi
      have := (b2 k e).1
      have := (b1.ob k e).1
      have := (hfr k e2).2
      omega
theorem appMineT {t : TypeId} (h1t : OneCell t TI) {ops : Array Oper} {rest : List Oper} {o : Oper} {a : Act} {w : World} {Q : Exit → Act → World → Prop} (hw : Region.wanted o (yielded ops a.tmps) = true) (s x : Operand)
    (ho : o.op = .call { callee := .builtin .append, args := #[s, x], argTypes := #[t, t] }) (B T : Nat) (v : Value) (ll : List (List Int)) (hs : a.eval s = v) (hown : Mine w B T v ll)
    (Bd : Nat) (A : Option Addr) (d : Nat) (h : Value) (y : List Int) (hx : a.eval x = .slice A 1 d) (hr : Row w Bd A [h]) (B' : Nat) (hB : B' ≤ B) (hrow : Own1 TN w B' h (icells y))
    (hfr : ∀ k, h.ownBlock = some k → some k ≠ v.ownBlock ∧ (T ≤ k ∨ k < B)) (hlen : ll.length + 1 ≤ 1000000) (hbase : B ≤ w.heap.size)
    (hc : ∀ v' w', Mine w' B' w'.heap.size v' (ll ++ [y]) → w.grownBy w' v.ownBlock → (∀ k, v'.ownBlock = some k → B ≤ k) → wpList Try.prog ops Q rest (a.put o.dst v') w') : wpList Try.prog ops Q (o :: rest) a w :=
  BigFrame.wpList_want hw fun _ hK => wp_appMineT h1t s x ho B T v ll hs hown Bd A d h y hx hr B' hB hrow hfr hlen hbase fun v' w' h2 h3 h4 => hK _ _ (hc v' w' h2 h3 h4)
theorem appMine {ops : Array Oper} {rest : List Oper} {o : Oper} {a : Act} {w : World} {Q : Exit → Act → World → Prop} (hw : Region.wanted o (yielded ops a.tmps) = true) (s x : Operand)
    (ho : o.op = .call { callee := .builtin .append, args := #[s, x], argTypes := #[TII, TII] }) (B T : Nat) (v : Value) (ll : List (List Int)) (hs : a.eval s = v) (hown : Mine w B T v ll)
    (Bd : Nat) (A : Option Addr) (d : Nat) (h : Value) (y : List Int) (hx : a.eval x = .slice A 1 d) (hr : Row w Bd A [h]) (B' : Nat) (hB : B' ≤ B) (hrow : Own1 TN w B' h (icells y))
    (hfr : ∀ k, h.ownBlock = some k → some k ≠ v.ownBlock ∧ (T ≤ k ∨ k < B)) (hlen : ll.length + 1 ≤ 1000000) (hbase : B ≤ w.heap.size)
    (hc : ∀ v' w', Mine w' B' w'.heap.size v' (ll ++ [y]) → w.grownBy w' v.ownBlock → (∀ k, v'.ownBlock = some k → B ≤ k) → wpList Try.prog ops Q rest (a.put o.dst v') w') : wpList Try.prog ops Q (o :: rest) a w :=
  appMineT one_II hw s x ho B T v ll hs hown Bd A d h y hx hr B' hB hrow hfr hlen hbase hc
theorem mine_new {w : World} {B : Nat} (hb : B ≤ w.heap.size) : Mine (w.alloc (.cells #[] TI)) B (w.heap.size + 1) (.slice (some ⟨w.heap.size, 0, none⟩) 0 0) [] :=
  ⟨by simp, fun k e => by simp [Value.ownBlock] at e; omega, [], own1_new hb, Rws.nil _ _ _ _⟩
theorem Mine.alloc {w : World} {B T : Nat} {v : Value} {ll : List (List Int)} (h : Mine w B T v ll) (o : Obj) : Mine (w.alloc o) B T v ll := h.below ((Below.refl _ _).alloc (Nat.le_refl _) o)
theorem Mine.ob {w : World} {B T : Nat} {v : Value} {ll : List (List Int)} (h : Mine w B T v ll) : ∀ k, v.ownBlock = some k → B ≤ k ∧ k < T := fun k e => by
  obtain ⟨_, hv, hs, ho, _⟩ := h
  exact ⟨(ho.ob k e).1, hv k e⟩
theorem Mine.up {w : World} {B T : Nat} {v : Value} {ll : List (List Int)} (h : Mine w B T v ll) : Mine w B w.heap.size v ll := by
  obtain ⟨hT, hv, hs, ho, hr⟩ := h
  exact ⟨Nat.le_refl _, fun k e => by have := hv k e; omega, hs, ho, hr.1, fun i hi => ⟨(hr.2.1 i hi).1, fun k e => ⟨by have := ((hr.2.1 i hi).2 k e).1; omega, ((hr.2.1 i hi).2 k e).2⟩⟩, hr.2.2⟩
end Go.Proofs.Ytbbgakbobefplaa
