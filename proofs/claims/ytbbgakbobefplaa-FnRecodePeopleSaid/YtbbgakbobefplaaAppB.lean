import Derived.Test.YtbbgakbobefplaaT9
import Derived.Deep.RegionLaw
namespace Go.Proofs.Ytbbgakbobefplaa
open Go.RowKit
theorem pcells_one_cell (l : List Pn) : ∀ u ∈ pcells l, u.oneCell' = true := by
  intro u hu
  obtain ⟨p, _, hp⟩ := List.mem_flatMap.1 hu
  exact cells_one p u hp
theorem pcells_app (x y : List Pn) : pcells (x ++ y) = pcells x ++ pcells y := by simp [pcells]
theorem run_append_people (w : World) (ty : TypeId) (base : Nat) (v : Value) (l : List Pn) (hown : Own w base v l) (Bd : Nat) (B : Option Addr) (m d : Nat) (l2 : List Pn) (hm : m = l2.length) (hr : Row w Bd B (pcells l2))
    (hlen : l.length + l2.length ≤ 1000000) (hbase : base ≤ w.heap.size) :
    ∃ v' w', (Builtin.append_ #[TPS, TPS] ty #[v, .slice B m d]).run Try.prog w = .ok v' w' ∧ Own w' base v' (l ++ l2) ∧ w.grownBy w' v.ownBlock := by
  subst hm
  obtain ⟨i0, hi0, hz0, hz1, hz2⟩ := info_parts info_P
  have ht : Try.prog.underlying TPS = some (.slice TP) := Try.underlying23
  have hl : (pcells l2).length = l2.length * 4 := pcells_length l2
  have fin : ∀ (v' : Value) (w' : World), w'.ownsRow base TP 4 v' (l.length + l2.length) (pcells l ++ pcells l2) → Own w' base v' (l ++ l2) := fun v' w' h => by
    unfold Own; rw [pcells_app, List.length_append]; exact h
  rcases B with _ | ad
  · have h0 : l2 = [] := by
      rcases hr with hr | ⟨b, o, hA, _⟩
      · rw [hr] at hl; exact List.eq_nil_of_length_eq_zero (by simp at hl; omega)
      · cases hA
    subst h0
    refine ⟨v, w, ?_, by simpa using hown, World.grownBy.refl w _⟩
    rcases hown.2 with ⟨rfl, h0⟩ | ⟨g, cap, cur, rfl, _, _, hnc, _⟩
    · simp [Builtin.append_, run_underlying ht, sizeOf, typeInfo, hi0, Builtin.lenOf, Builtin.firstCells]
    · simp [Builtin.append_, run_underlying ht, sizeOf, typeInfo, hi0, Builtin.lenOf, Builtin.firstCells, hnc, storeCells]
  · have hcells : ∀ j u, (pcells l2)[j]? = some u → w.cell? (ad.add j) = some u := by
      intro j u hu
      rcases hr with hr | ⟨b, o, hA, hb, hc⟩
      · rw [hr] at hu; simp at hu
      · injection hA with hA
        subst hA
        rw [Addr.add_lit]; exact hc j u hu
    obtain ⟨v', w', hrun, h2, h3, _⟩ := run_append_own (P := Try.prog) w base TPS ty TP i0 _ 4 32 ht hi0 hz0 hz1 hz2 rfl (by omega) v l.length (pcells l) hown ad l2.length d (pcells l2) hl hcells (pcells_one_cell l2) (by simp only [maxLen]; omega) (by omega) hbase
    exact ⟨v', w', hrun, fin v' w' h2, h3⟩
theorem wp_append_people {o : Oper} {a : Act} {w : World} {K : Act → World → Prop} {Q : Exit → Act → World → Prop} (s x : Operand)
    (ho : o.op = .call { callee := .builtin .append, args := #[s, x], argTypes := #[TPS, TPS] }) (base : Nat) (v : Value) (l : List Pn) (hs : a.eval s = v) (hown : Own w base v l)
    (Bd : Nat) (B : Option Addr) (m d : Nat) (l2 : List Pn) (hm : m = l2.length) (hx : a.eval x = .slice B m d) (hr : Row w Bd B (pcells l2)) (hlen : l.length + l2.length ≤ 1000000) (hbase : base ≤ w.heap.size)
    (h : ∀ v' w', Own w' base v' (l ++ l2) → w.grownBy w' v.ownBlock → K (a.put o.dst v') w') : o.wp Try.prog a w K Q := by
  obtain ⟨v', w', hrun, h2, h3⟩ := run_append_people w o.type base v l hown Bd B m d l2 hm hr hlen hbase
  unfold Oper.wp execOp
  simp only [ho, resolve, invoke, builtin, Sem.run_bind, Sem.run_pure, Result.andThen_ok, List.map_toArray, List.map_cons, List.map_nil, hs, hx, hrun]
  exact h v' w' h2 h3
theorem app_people {ops : Array Oper} {rest : List Oper} {o : Oper} {a : Act} {w : World} {Q : Exit → Act → World → Prop} (hgd : o.guard = none) (s x : Operand)
    (ho : o.op = .call { callee := .builtin .append, args := #[s, x], argTypes := #[TPS, TPS] }) (base : Nat) (v : Value) (l : List Pn) (hs : a.eval s = v) (hown : Own w base v l)
    (Bd : Nat) (B : Option Addr) (m d : Nat) (l2 : List Pn) (hm : m = l2.length) (hx : a.eval x = .slice B m d) (hr : Row w Bd B (pcells l2)) (hlen : l.length + l2.length ≤ 1000000) (hbase : base ≤ w.heap.size)
    (h : ∀ v' w', Own w' base v' (l ++ l2) → w.grownBy w' v.ownBlock → wpList Try.prog ops Q rest (a.put o.dst v') w') : wpList Try.prog ops Q (o :: rest) a w :=
  wpList_plain hgd fun _ hK => wp_append_people s x ho base v l hs hown Bd B m d l2 hm hx hr hlen hbase fun v' w' h2 h3 => hK _ _ (h v' w' h2 h3)
theorem step_people {ops : Array Oper} {o : Oper} {a : Act} {w : World} {K : Act → World → Prop} {Q : Exit → Act → World → Prop} {E : Prop} (hgd : o.guard = none) (s x : Operand)
    (ho : o.op = .call { callee := .builtin .append, args := #[s, x], argTypes := #[TPS, TPS] }) (base : Nat) (v : Value) (l : List Pn) (hs : a.eval s = v) (hown : Own w base v l)
    (Bd : Nat) (B : Option Addr) (m d : Nat) (l2 : List Pn) (hm : m = l2.length) (hx : a.eval x = .slice B m d) (hr : Row w Bd B (pcells l2)) (hlen : l.length + l2.length ≤ 1000000) (hbase : base ≤ w.heap.size)
    (h : ∀ v' w', Own w' base v' (l ++ l2) → w.grownBy w' v.ownBlock → K (a.put o.dst v') w') : if Region.wanted o (yielded ops a.tmps) = true then Oper.wp Try.prog o a w K Q else E := by
  have hw : Region.wanted o (yielded ops a.tmps) = true := by simp [Region.wanted, hgd]
  rw [if_pos hw]
  exact wp_append_people s x ho base v l hs hown Bd B m d l2 hm hx hr hlen hbase h
/-- Own memory above W stays out of W's sight. -/
theorem Own.ob {w : World} {B : Nat} {v : Value} {l : List Pn} (h : Own w B v l) : ∀ g, v.ownBlock = some g → B ≤ g := fun g hg => (World.ownsRow.lt h g hg).1
theorem below_own {W w w' : World} {v : Value} {l : List Pn} (hb : Below W.heap.size W w) (ho : Own w W.heap.size v l) (hg : w.grownBy w' v.ownBlock) : Below W.heap.size W w' := hb.grown hg hb.size ho.ob
theorem own_new (W w : World) (hb : Below W.heap.size W w) : Own (w.alloc (.cells #[] TP)) W.heap.size (.slice (some ⟨w.heap.size, 0, none⟩) 0 0) [] :=
  World.ownsRow_made w #[] 0 hb.size (by simp [maxLen]) rfl
end Go.Proofs.Ytbbgakbobefplaa
