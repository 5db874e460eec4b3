/- Slices of one's own with one cell an element, and append onto them. -/
import Derived.Test.YtbbgakbobefplaaK2
import Derived.Maps.AppendAt
import Derived.Deep.RegionLaw
namespace Go.Proofs.Ytbbgakbobefplaa
open Go.RowKit
/-- t is the type of slices whose elements, of type T, are one cell each. -/
def OneCell (t T : TypeId) : Prop := Try.prog.underlying t = some (.slice T) ∧ ∃ z b, (Try.prog.info? T).map (fun i => (i.zero, i.size, i.bytes)) = some (some z, 1, b) ∧ z.cells.size = 1 ∧ b ≤ 24
def Own1 (T : TypeId) (w : World) (B : Nat) (v : Value) (cs : List Value) : Prop := w.ownsRow B T 1 v cs.length cs
section
variable {T : TypeId} {w w' : World} {B : Nat} {v : Value} {cs : List Value}
theorem Own1.form (h : Own1 T w B v cs) : ∃ A c, v = .slice A cs.length c ∧ cs.length ≤ c ∧ c ≤ maxLen ∧ Row w w.heap.size A cs ∧ (∀ a, A = some a → B ≤ a.block) := by
  obtain ⟨h1, h2⟩ := h
  rcases h2 with ⟨rfl, h0⟩ | ⟨g, cap, cur, rfl, hg, hh, hnc, hc, hsz, ht⟩
  · have : cs = [] := List.eq_nil_of_length_eq_zero h0
    subst this
    exact ⟨none, 0, rfl, Nat.le_refl _, by simp [maxLen], .inl rfl, fun a h => by cases h⟩
  · refine ⟨some ⟨g, 0, none⟩, cap, rfl, hnc, hc, .inr ⟨g, 0, rfl, (Array.getElem?_eq_some_iff.1 hh).1, fun j u hu => ?_⟩, fun a h => by injection h with h; subst h; exact hg⟩
    rw [Nat.zero_add, cell_of_row w g j cur T (0, 0) hh]
    rw [← ht, List.getElem?_take] at hu
    split at hu
    · simpa using hu
    · cases hu
theorem Own1.kept {row : Option Nat} (h : Own1 T w B v cs) (hg : w.grownBy w' row) (hne : ∀ k, v.ownBlock = some k → some k ≠ row) : Own1 T w' B v cs := by
  refine World.ownsRow.kept h hg ?_
  rcases hb : v.ownBlock with _ | k
  · exact .inl rfl
  · exact .inr (hne k hb)
theorem Own1.ob (h : Own1 T w B v cs) : ∀ g, v.ownBlock = some g → B ≤ g ∧ g < w.heap.size := World.ownsRow.lt h
theorem Own1.alloc (h : Own1 T w B v cs) (o : Obj) : Own1 T (w.alloc o) B v cs := World.ownsRow.alloc h o
theorem Own1.less {B' : Nat} (h : Own1 T w B v cs) (hB : B' ≤ B) : Own1 T w B' v cs := by
  obtain ⟨h1, h2⟩ := h
  refine ⟨h1, ?_⟩
  rcases h2 with h2 | ⟨g, cap, cur, rfl, hg, r⟩
  · exact .inl h2
  · exact .inr ⟨g, cap, cur, rfl, by omega, r⟩
theorem Own1.below (h : Own1 T w B v cs) (hb : Below w.heap.size w w') : Own1 T w' B v cs := by
  obtain ⟨h1, h2⟩ := h
  refine ⟨h1, ?_⟩
  rcases h2 with h2 | ⟨g, cap, cur, rfl, hg, hh, r⟩
  · exact .inl h2
  · exact .inr ⟨g, cap, cur, rfl, hg, (hb.block g (Array.getElem?_eq_some_iff.1 hh).1).trans hh, r⟩
theorem own1_nil (w : World) (B : Nat) (T : TypeId) : Own1 T w B (.slice none 0 0) [] := World.ownsRow_nil w B T 1
theorem own1_new (hb : B ≤ w.heap.size) : Own1 T (w.alloc (.cells #[] T)) B (.slice (some ⟨w.heap.size, 0, none⟩) 0 0) [] :=
  World.ownsRow_made w #[] 0 hb (by simp [maxLen]) rfl
theorem own1_lit (cs : Array Value) (hb : B ≤ w.heap.size) (hs : cs.size ≤ 1000) : Own1 T (w.alloc (.cells cs T)) B (.slice (some ⟨w.heap.size, 0, none⟩) cs.size cs.size) cs.toList := by
  unfold Own1
  refine ⟨by simp, .inr ⟨w.heap.size, cs.size, cs, by simp, hb, heap_alloc_new w _, by simp, by simp only [maxLen]; omega, by simp, List.take_of_length_le (by simp)⟩⟩
theorem below_own1 {W : World} (hb : Below W.heap.size W w) (ho : Own1 T w W.heap.size v cs) (hg : w.grownBy w' v.ownBlock) : Below W.heap.size W w' :=
  hb.grown hg hb.size fun g hg => (ho.ob g hg).1
theorem run_append1 {t : TypeId} (h1 : OneCell t T) (w : World) (ty : TypeId) (B : Nat) (v : Value) (cs : List Value) (hown : Own1 T w B v cs) (Bd : Nat) (A : Option Addr) (m d : Nat) (cs2 : List Value) (hm : m = cs2.length) (hr : Row w Bd A cs2)
    (hone : ∀ u ∈ cs2, u.oneCell' = true) (hlen : cs.length + cs2.length ≤ 1000000) (hbase : B ≤ w.heap.size) :
    ∃ v' w', (Builtin.append_ #[t, t] ty #[v, .slice A m d]).run Try.prog w = .ok v' w' ∧ Own1 T w' B v' (cs ++ cs2) ∧ w.grownBy w' v.ownBlock ∧ (v'.ownBlock = v.ownBlock ∨ v'.ownBlock = some w.heap.size) := by
  subst hm
  obtain ⟨ht, z, b, hi, hz1, hb⟩ := h1
  obtain ⟨i0, hi0, hz0, hsz, hby⟩ := info_parts hi
  rcases A with _ | ad
  · have h0 : cs2 = [] := by
      rcases hr with hr | ⟨b, o, hA, _⟩
      · exact hr
      · cases hA
    subst h0
    refine ⟨v, w, ?_, by simpa using hown, World.grownBy.refl w _, .inl rfl⟩
    rcases hown.2 with ⟨rfl, h0⟩ | ⟨g, cap, cur, rfl, _, _, hnc, _⟩
    · simp [Builtin.append_, run_underlying ht, sizeOf, typeInfo, hi0, Builtin.lenOf, Builtin.firstCells]
    · simp [Builtin.append_, run_underlying ht, sizeOf, typeInfo, hi0, Builtin.lenOf, Builtin.firstCells, hnc, storeCells]
  · have hcells : ∀ j u, cs2[j]? = some u → w.cell? (ad.add j) = some u := by
      intro j u hu
      rcases hr with hr | ⟨b, o, hA, hb, hc⟩
      · rw [hr] at hu; simp at hu
      · injection hA with hA
        subst hA
        rw [Addr.add_lit]; exact hc j u hu
    obtain ⟨v', w', hrun, h2, h3, _, h5⟩ := run_append_own_at (P := Try.prog) w B t ty T i0 z 1 b ht hi0 hz0 hsz hby hz1 (by omega) v cs.length cs hown ad cs2.length d cs2 (by simp) hcells hone (by simp only [maxLen]; omega) (by have := Nat.mul_le_mul hlen hb; omega) hbase
    exact ⟨v', w', hrun, by unfold Own1; rw [List.length_append]; exact h2, h3, h5⟩
theorem wp_append1 {t : TypeId} (h1 : OneCell t T) {o : Oper} {a : Act} {w : World} {K : Act → World → Prop} {Q : Exit → Act → World → Prop} (s x : Operand)
    (ho : o.op = .call { callee := .builtin .append, args := #[s, x], argTypes := #[t, t] }) (B : Nat) (v : Value) (cs : List Value) (hs : a.eval s = v) (hown : Own1 T w B v cs)
    (Bd : Nat) (A : Option Addr) (m d : Nat) (cs2 : List Value) (hm : m = cs2.length) (hx : a.eval x = .slice A m d) (hr : Row w Bd A cs2) (hone : ∀ u ∈ cs2, u.oneCell' = true) (hlen : cs.length + cs2.length ≤ 1000000) (hbase : B ≤ w.heap.size)
    (h : ∀ v' w', Own1 T w' B v' (cs ++ cs2) → w.grownBy w' v.ownBlock → (v'.ownBlock = v.ownBlock ∨ v'.ownBlock = some w.heap.size) → K (a.put o.dst v') w') : o.wp Try.prog a w K Q := by
  obtain ⟨v', w', hrun, h2, h3, h4⟩ := run_append1 h1 w o.type B v cs hown Bd A m d cs2 hm hr hone hlen hbase
  unfold Oper.wp execOp
  simp only [ho, resolve, invoke, builtin, Sem.run_bind, Sem.run_pure, Result.andThen_ok, List.map_toArray, List.map_cons, List.map_nil, hs, hx, hrun]
  exact h v' w' h2 h3 h4
/-- 'append' at its place in a walk, its guard (if there is one) decided. -/
theorem app1 {t : TypeId} (h1 : OneCell t T) {ops : Array Oper} {rest : List Oper} {o : Oper} {a : Act} {w : World} {Q : Exit → Act → World → Prop} (hw : Region.wanted o (yielded ops a.tmps) = true) (s x : Operand)
    (ho : o.op = .call { callee := .builtin .append, args := #[s, x], argTypes := #[t, t] }) (B : Nat) (v : Value) (cs : List Value) (hs : a.eval s = v) (hown : Own1 T w B v cs)
    (Bd : Nat) (A : Option Addr) (m d : Nat) (cs2 : List Value) (hm : m = cs2.length) (hx : a.eval x = .slice A m d) (hr : Row w Bd A cs2) (hone : ∀ u ∈ cs2, u.oneCell' = true) (hlen : cs.length + cs2.length ≤ 1000000) (hbase : B ≤ w.heap.size)
    (h : ∀ v' w', Own1 T w' B v' (cs ++ cs2) → w.grownBy w' v.ownBlock → (v'.ownBlock = v.ownBlock ∨ v'.ownBlock = some w.heap.size) → wpList Try.prog ops Q rest (a.put o.dst v') w') : wpList Try.prog ops Q (o :: rest) a w :=
  BigFrame.wpList_want hw fun _ hK => wp_append1 h1 s x ho B v cs hs hown Bd A m d cs2 hm hx hr hone hlen hbase fun v' w' h2 h3 h4 => hK _ _ (h v' w' h2 h3 h4)
/-- 'append' with no guard, in a drawn region. -/
theorem step1 {t : TypeId} (h1 : OneCell t T) {ops : Array Oper} {o : Oper} {a : Act} {w : World} {K : Act → World → Prop} {Q : Exit → Act → World → Prop} {E : Prop} (hgd : o.guard = none) (s x : Operand)
    (ho : o.op = .call { callee := .builtin .append, args := #[s, x], argTypes := #[t, t] }) (B : Nat) (v : Value) (cs : List Value) (hs : a.eval s = v) (hown : Own1 T w B v cs)
    (Bd : Nat) (A : Option Addr) (m d : Nat) (cs2 : List Value) (hm : m = cs2.length) (hx : a.eval x = .slice A m d) (hr : Row w Bd A cs2) (hone : ∀ u ∈ cs2, u.oneCell' = true) (hlen : cs.length + cs2.length ≤ 1000000) (hbase : B ≤ w.heap.size)
    (h : ∀ v' w', Own1 T w' B v' (cs ++ cs2) → w.grownBy w' v.ownBlock → (v'.ownBlock = v.ownBlock ∨ v'.ownBlock = some w.heap.size) → K (a.put o.dst v') w') : if Region.wanted o (yielded ops a.tmps) = true then Oper.wp Try.prog o a w K Q else E := by
  have hw : Region.wanted o (yielded ops a.tmps) = true := by simp [Region.wanted, hgd]
  rw [if_pos hw]
  exact wp_append1 h1 s x ho B v cs hs hown Bd A m d cs2 hm hx hr hone hlen hbase h
/-- A block that was just made, as a row. -/
theorem row_lit (w : World) (cs : Array Value) (T : TypeId) : Row (w.alloc (.cells cs T)) (w.heap.size + 1) (some ⟨w.heap.size, 0, none⟩) cs.toList :=
  .inr ⟨_, 0, rfl, Nat.lt_succ_self _, fun j u hu => by rw [Nat.zero_add, cell_of_row _ _ j cs T (0, 0) (heap_alloc_new w _)]; simpa using hu⟩
end
end Go.Proofs.Ytbbgakbobefplaa
