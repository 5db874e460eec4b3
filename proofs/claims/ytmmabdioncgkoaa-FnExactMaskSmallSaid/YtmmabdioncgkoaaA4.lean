/- People in memory, by their value. Words for 'append(append([]Person{}, list...), p)' in a drawn region. samePeople, by values. -/
import Derived.Test.YtmmabdioncgkoaaA2
import Derived.Deep.RegionLaw
import Derived.Test.YtmmabdioncgkoaaA1
namespace Go.Proofs.Ytmmabdioncgkoaa
open Go.RowKit
end Go.Proofs.Ytmmabdioncgkoaa
namespace Go.Proofs.Ytmmabdioncgkoaa
open Go.RowKit
abbrev TP : TypeId := 66
abbrev TPS : TypeId := 31
theorem info_P : (Try.prog.info? TP).map (fun i => (i.zero, i.size, i.bytes)) = some (some (.agg #[.int .i64 0, .int .i64 0, .int .i64 0, .int .i64 0]), 4, 32) := by kernel_rfl
def Own (w : World) (B : Nat) (v : Value) (l : List Pn) : Prop := w.ownsRow B TP 4 v l.length (pcells l)
theorem Own.form {w : World} {B : Nat} {v : Value} {l : List Pn} (h : Own w B v l) : ∃ A c, v = .slice A l.length c ∧ l.length ≤ c ∧ c ≤ maxLen ∧ Row w w.heap.size A (pcells l) ∧ (∀ a, A = some a → B ≤ a.block) := by
  obtain ⟨h1, h2⟩ := h
  rcases h2 with ⟨rfl, h0⟩ | ⟨g, cap, cur, rfl, hg, hh, hnc, hc, hsz, ht⟩
  · have : l = [] := List.eq_nil_of_length_eq_zero h0
    subst this
    exact ⟨none, 0, rfl, Nat.le_refl _, by simp [maxLen], .inl rfl, fun a h => by cases h⟩
  · refine ⟨some ⟨g, 0, none⟩, cap, rfl, hnc, hc, .inr ⟨g, 0, rfl, (Array.getElem?_eq_some_iff.1 hh).1, fun j u hu => ?_⟩, fun a h => by injection h with h; subst h; exact hg⟩
    rw [Nat.zero_add, cell_of_row w g j cur TP (0, 0) hh]
    rw [← ht, List.getElem?_take] at hu
    split at hu
    · simpa using hu
    · cases hu
theorem Own.kept {w w' : World} {B : Nat} {v : Value} {l : List Pn} {R : Nat} (h : Own w B v l) (hg : w.grownBy w' (some R)) (hR : R < B) : Own w' B v l := by
  refine World.ownsRow.kept h hg ?_
  rcases hb : v.ownBlock with _ | k
  · exact .inl rfl
  · right; intro e; injection e with e; have := (World.ownsRow.lt h k hb).1; omega
theorem Own.row {w : World} {B : Nat} {A : Option Addr} {n c : Nat} {l : List Pn} (h : Own w B (.slice A n c) l) : Row w w.heap.size A (pcells l) := by
  obtain ⟨A', c', hv, _, _, hr, _⟩ := h.form
  injection hv with h1 h2 h3
  subst h1
  exact hr
theorem Own.alloc {w : World} {B : Nat} {v : Value} {l : List Pn} (h : Own w B v l) (o : Obj) : Own (w.alloc o) B v l := World.ownsRow.alloc h o
theorem Own.far {w : World} {B : Nat} {v : Value} {l : List Pn} (h : Own w B v l) {Q : Nat} (hQ : ∀ k, v.ownBlock = some k → k ≠ Q) (o : Nat) (x : Value) : Own (w.setCell ⟨Q, o, none⟩ x) B v l := by
  obtain ⟨h1, h2⟩ := h
  refine ⟨h1, ?_⟩
  rcases h2 with h2 | ⟨g, cap, cur, rfl, hg, hh, r⟩
  · exact .inl h2
  · exact .inr ⟨g, cap, cur, rfl, hg, (Below.heap_setCell w ⟨Q, o, none⟩ x g (hQ g rfl)).trans hh, r⟩
theorem pcells_one (p : Pn) : pcells [p] = p.cells := by simp [pcells]
theorem pcells_snoc (l : List Pn) (p : Pn) : pcells l ++ p.cells = pcells (l ++ [p]) := by simp [pcells]
theorem cells_one (p : Pn) : ∀ u ∈ p.cells, u.oneCell' = true := by
  intro u hu; simp only [Pn.cells, List.mem_cons, List.not_mem_nil, or_false] at hu; rcases hu with rfl | rfl | rfl | rfl <;> rfl

theorem cells_at {W : World} {g : Nat} {p : Pn} {t : TypeId} (h : W.heap[g]? = some (.cells #[.int .i64 p.area, .int .i64 p.job, .int .i64 p.sex, .int .i64 p.pay] t (0, 0))) :
    ∀ j u, p.cells[j]? = some u → W.cell? ((⟨g, 0, none⟩ : Addr).add j) = some u := by
  intro j u hu
  rw [Addr.add_lit, Nat.zero_add, cell_of_row W g j _ _ _ h, ← hu]
  simp [Pn.cells]
theorem set4 {w : World} {g : Nat} {t : TypeId} {a0 a1 a2 a3 : Value} (h : w.heap[g]? = some (.cells #[a0, a1, a2, a3] t (0, 0))) (b0 b1 b2 b3 : Value) :
    ((((w.setCell ⟨g, 0, none⟩ b0).setCell ⟨g, 1, none⟩ b1).setCell ⟨g, 2, none⟩ b2).setCell ⟨g, 3, none⟩ b3).heap[g]? = some (.cells #[b0, b1, b2, b3] t (0, 0)) := by
  simp [World.setCell, Array.getElem?_modify, h]
theorem block_keep {w w' : World} {R g : Nat} {t : TypeId} {a0 a1 a2 a3 : Value} (hg : w.drew.grownBy w' (some R)) (h : Hid (w.heap[g]? = some (.cells #[a0, a1, a2, a3] t (0, 0)))) (hR : R < g) :
    Hid (w'.heap[g]? = some (.cells #[a0, a1, a2, a3] t (0, 0))) ∧ w'.cell? ⟨g, 3, none⟩ = some a3 ∧ w'.frozen? ⟨g, 3, none⟩ = false := by
  have h2 := (hg.block g (Array.getElem?_eq_some_iff.1 h.out).1 (fun e => by injection e; omega)).trans h.out
  exact ⟨h2, cell_of_row w' g 3 _ _ _ h2, frozen_of_row w' g 3 _ _ h2⟩
theorem pay_ok {p : Pn} {m : Int} (h : okP p = true) (hm : 0 ≤ m ∧ m ≤ 999) : okP ⟨p.area, p.job, p.sex, m⟩ = true := by
  simp only [okP, Bool.and_eq_true, decide_eq_true_eq] at *
  exact ⟨⟨h.1.1, hm.1⟩, hm.2⟩
theorem Own.head {w : World} {B : Nat} {v : Value} {p : Pn} {l : List Pn} (h : Own w B v (p :: l)) :
    ∃ g c, v = .slice (some ⟨g, 0, none⟩) (l.length + 1) c ∧ B ≤ g ∧ g < w.heap.size ∧ (∀ j u, p.cells[j]? = some u → w.cell? ⟨g, j, none⟩ = some u ∧ w.frozen? ⟨g, j, none⟩ = false) ∧
      ∀ j x p', j < 4 → p'.cells = p.cells.set j x → Own (w.setCell ⟨g, j, none⟩ x) B v (p' :: l) := by
  obtain ⟨h1, h2⟩ := h
  rcases h2 with ⟨_, h0⟩ | ⟨g, cap, cur, rfl, hg, hh, hnc, hc, hsz, ht⟩
  · simp at h0
  · refine ⟨g, cap, rfl, hg, (Array.getElem?_eq_some_iff.1 hh).1, fun j u hu => ⟨?_, frozen_of_row w g j _ _ hh⟩, fun j x p' hj hp' => ⟨by simp [pcells_length], .inr ⟨g, cap, cur.setIfInBounds j x, rfl, hg, ?_, hnc, hc, by simpa using hsz, ?_⟩⟩⟩
    · rw [cell_of_row w g j cur TP (0, 0) hh]
      have hj : j < 4 := by have := (List.getElem?_eq_some_iff.1 hu).1; simpa [Pn.cells] using this
      have e : (pcells (p :: l))[j]? = some u := by
        have e2 : pcells (p :: l) = p.cells ++ pcells l := by simp [pcells]
        rw [e2, List.getElem?_append_left (by simp [Pn.cells]; omega)]; exact hu
      rw [← ht, List.getElem?_take] at e
      split at e
      · simpa using e
      · cases e
    · simp [World.setCell, Array.getElem?_modify, hh]
    · have e2 : pcells (p :: l) = p.cells ++ pcells l := by simp [pcells]
      have e3 : pcells (p' :: l) = p'.cells ++ pcells l := by simp [pcells]
      have ht' : cur.toList.take ((l.length + 1) * 4) = p.cells ++ pcells l := by rw [← e2]; exact ht
      have e4 : (cur.setIfInBounds j x).toList.take ((l.length + 1) * 4) = (cur.toList.take ((l.length + 1) * 4)).set j x := by
        rw [Array.toList_setIfInBounds, List.take_set]
      show (cur.setIfInBounds j x).toList.take ((l.length + 1) * 4) = _
      rw [e4, ht', e3, hp', List.set_append_left _ _ (by simp [Pn.cells]; omega)]
def Bd (p : Pn) : Prop := -10 ≤ p.area ∧ p.area ≤ 1000 ∧ -10 ≤ p.job ∧ p.job ≤ 1000 ∧ -10 ≤ p.sex ∧ p.sex ≤ 1000 ∧ -10 ≤ p.pay ∧ p.pay ≤ 1000
theorem okP_bd {p : Pn} (h : okP p = true) : Bd p := by
  simp [okP, inC] at h; unfold Bd; omega
end Go.Proofs.Ytmmabdioncgkoaa
namespace Go.Proofs.Ytmmabdioncgkoaa
open Go.RowKit
theorem pcells_one_cell (l : List Pn) : ∀ u ∈ pcells l, u.oneCell' = true := by
  intro u hu
  obtain ⟨p, _, hp⟩ := List.mem_flatMap.1 hu
  exact cells_one p u hp
theorem pcells_app (x y : List Pn) : pcells (x ++ y) = pcells x ++ pcells y := by simp [pcells]
theorem run_append_people (w : World) (ty : TypeId) (base : Nat) (v : Value) (l : List Pn) (hown : Own w base v l) (Bd : Nat) (B : Option Addr) (m d : Nat) (l2 : List Pn) (hm : m = l2.length) (hr : Row w Bd B (pcells l2))
    (hlen : l.length + l2.length ≤ 1000000) (hbase : base ≤ w.heap.size) :
    ∃ v' w', (Builtin.append_ #[TPS, TPS] ty #[v, .slice B m d]).run Try.prog w = .ok v' w' ∧ Own w' base v' (l ++ l2) ∧ w.grownBy w' v.ownBlock := by
  subst hm
  obtain ⟨i0, hi0, hz0, hz1, hz2⟩ := info_parts info_P
  have ht : Try.prog.underlying TPS = some (.slice TP) := Try.underlying31
  have hl : (pcells l2).length = l2.length * 4 := pcells_length l2
  have fin : ∀ (v' : Value) (w' : World), w'.ownsRow base TP 4 v' (l.length + l2.length) (pcells l ++ pcells l2) → Own w' base v' (l ++ l2) := fun v' w' h => by
    unfold Own; rw [pcells_app, List.length_append]; exact h
  rcases B with _ | ad
  · have h0 : l2 = [] := by
      rcases hr with hr | ⟨b, o, hA, _⟩
      · rw [hr] at hl; exact List.eq_nil_of_length_eq_zero (by simp at hl; omega)
      · cases hA
    subst h0
    refine ⟨v, w, ?_, by simpa using hown, World.grownBy.refl w _⟩
    rcases hown.2 with ⟨rfl, h0⟩ | ⟨g, cap, cur, rfl, _, _, hnc, _⟩
    · simp [Builtin.append_, run_underlying ht, sizeOf, typeInfo, hi0, Builtin.lenOf, Builtin.firstCells]
    · simp [Builtin.append_, run_underlying ht, sizeOf, typeInfo, hi0, Builtin.lenOf, Builtin.firstCells, hnc, storeCells]
  · have hcells : ∀ j u, (pcells l2)[j]? = some u → w.cell? (ad.add j) = some u := by
      intro j u hu
      rcases hr with hr | ⟨b, o, hA, hb, hc⟩
      · rw [hr] at hu; simp at hu
      · injection hA with hA
        subst hA
        rw [Addr.add_lit]; exact hc j u hu
    obtain ⟨v', w', hrun, h2, h3, _⟩ := run_append_own (P := Try.prog) w base TPS ty TP i0 _ 4 32 ht hi0 hz0 hz1 hz2 rfl (by omega) v l.length (pcells l) hown ad l2.length d (pcells l2) hl hcells (pcells_one_cell l2) (by simp only [maxLen]; omega) (by omega) hbase
    exact ⟨v', w', hrun, fin v' w' h2, h3⟩
theorem wp_append_people {o : Oper} {a : Act} {w : World} {K : Act → World → Prop} {Q : Exit → Act → World → Prop} (s x : Operand)
    (ho : o.op = .call { callee := .builtin .append, args := #[s, x], argTypes := #[TPS, TPS] }) (base : Nat) (v : Value) (l : List Pn) (hs : a.eval s = v) (hown : Own w base v l)
    (Bd : Nat) (B : Option Addr) (m d : Nat) (l2 : List Pn) (hm : m = l2.length) (hx : a.eval x = .slice B m d) (hr : Row w Bd B (pcells l2)) (hlen : l.length + l2.length ≤ 1000000) (hbase : base ≤ w.heap.size)
    (h : ∀ v' w', Own w' base v' (l ++ l2) → w.grownBy w' v.ownBlock → K (a.put o.dst v') w') : o.wp Try.prog a w K Q := by
  obtain ⟨v', w', hrun, h2, h3⟩ := run_append_people w o.type base v l hown Bd B m d l2 hm hr hlen hbase
  unfold Oper.wp execOp
  simp only [ho, resolve, invoke, builtin, Sem.run_bind, Sem.run_pure, Result.andThen_ok, List.map_toArray, List.map_cons, List.map_nil, hs, hx, hrun]
  exact h v' w' h2 h3
theorem app_people {ops : Array Oper} {rest : List Oper} {o : Oper} {a : Act} {w : World} {Q : Exit → Act → World → Prop} (hgd : o.guard = none) (s x : Operand)
    (ho : o.op = .call { callee := .builtin .append, args := #[s, x], argTypes := #[TPS, TPS] }) (base : Nat) (v : Value) (l : List Pn) (hs : a.eval s = v) (hown : Own w base v l)
    (Bd : Nat) (B : Option Addr) (m d : Nat) (l2 : List Pn) (hm : m = l2.length) (hx : a.eval x = .slice B m d) (hr : Row w Bd B (pcells l2)) (hlen : l.length + l2.length ≤ 1000000) (hbase : base ≤ w.heap.size)
    (h : ∀ v' w', Own w' base v' (l ++ l2) → w.grownBy w' v.ownBlock → wpList Try.prog ops Q rest (a.put o.dst v') w') : wpList Try.prog ops Q (o :: rest) a w :=
  wpList_plain hgd fun _ hK => wp_append_people s x ho base v l hs hown Bd B m d l2 hm hx hr hlen hbase fun v' w' h2 h3 => hK _ _ (h v' w' h2 h3)
theorem step_people {ops : Array Oper} {o : Oper} {a : Act} {w : World} {K : Act → World → Prop} {Q : Exit → Act → World → Prop} {E : Prop} (hgd : o.guard = none) (s x : Operand)
    (ho : o.op = .call { callee := .builtin .append, args := #[s, x], argTypes := #[TPS, TPS] }) (base : Nat) (v : Value) (l : List Pn) (hs : a.eval s = v) (hown : Own w base v l)
    (Bd : Nat) (B : Option Addr) (m d : Nat) (l2 : List Pn) (hm : m = l2.length) (hx : a.eval x = .slice B m d) (hr : Row w Bd B (pcells l2)) (hlen : l.length + l2.length ≤ 1000000) (hbase : base ≤ w.heap.size)
    (h : ∀ v' w', Own w' base v' (l ++ l2) → w.grownBy w' v.ownBlock → K (a.put o.dst v') w') : if Region.wanted o (yielded ops a.tmps) = true then Oper.wp Try.prog o a w K Q else E := by
  have hw : Region.wanted o (yielded ops a.tmps) = true := by simp [Region.wanted, hgd]
  rw [if_pos hw]
  exact wp_append_people s x ho base v l hs hown Bd B m d l2 hm hx hr hlen hbase h
/-- Own memory above W stays out of W's sight. -/
theorem Own.ob {w : World} {B : Nat} {v : Value} {l : List Pn} (h : Own w B v l) : ∀ g, v.ownBlock = some g → B ≤ g := fun g hg => (World.ownsRow.lt h g hg).1
theorem below_own {W w w' : World} {v : Value} {l : List Pn} (hb : Below W.heap.size W w) (ho : Own w W.heap.size v l) (hg : w.grownBy w' v.ownBlock) : Below W.heap.size W w' := hb.grown hg hb.size ho.ob
theorem own_new (W w : World) (hb : Below W.heap.size W w) : Own (w.alloc (.cells #[] TP)) W.heap.size (.slice (some ⟨w.heap.size, 0, none⟩) 0 0) [] :=
  World.ownsRow_made w #[] 0 hb.size (by simp [maxLen]) rfl
end Go.Proofs.Ytmmabdioncgkoaa
namespace Go.Proofs.Ytmmabdioncgkoaa
open Go.RowKit
theorem Own.below {w w' : World} {B : Nat} {v : Value} {l : List Pn} (h : Own w B v l) (hb : Below w.heap.size w w') : Own w' B v l := by
  obtain ⟨h1, h2⟩ := h
  refine ⟨h1, ?_⟩
  rcases h2 with h2 | ⟨g, cap, cur, rfl, hg, hh, r⟩
  · exact .inl h2
  · exact .inr ⟨g, cap, cur, rfl, hg, (hb.block g (Array.getElem?_eq_some_iff.1 hh).1).trans hh, r⟩
def IsP (w : World) (v : Value) (l : List Pn) : Prop := ∃ A c, v = .slice A l.length c ∧ l.length ≤ c ∧ c ≤ maxLen ∧ Row w w.heap.size A (pcells l)
def InP (w : World) (B T : Nat) (v : Value) (l : List Pn) : Prop := T ≤ w.heap.size ∧ Own w B v l ∧ ∀ k, v.ownBlock = some k → k < T
section
variable {w w' : World} {B T : Nat} {v : Value} {l : List Pn}
theorem IsP.below (h : IsP w v l) (hb : Below w.heap.size w w') : IsP w' v l := by
  obtain ⟨A, c, hv, h1, h2, h3⟩ := h
  exact ⟨A, c, hv, h1, h2, h3.moved hb⟩
theorem InP.is (h : InP w B T v l) : IsP w v l := by
  obtain ⟨A, c, hv, h1, h2, h3, _⟩ := h.2.1.form
  exact ⟨A, c, hv, h1, h2, h3⟩
theorem InP.below (h : InP w B T v l) (hb : Below w.heap.size w w') : InP w' B T v l := ⟨Nat.le_trans h.1 hb.size, Own.below h.2.1 hb, h.2.2⟩
theorem Own.same {w w' : World} {B : Nat} {v : Value} {l : List Pn} (h : Own w B v l) (hk : ∀ k, v.ownBlock = some k → w'.heap[k]? = w.heap[k]?) : Own w' B v l := by
  obtain ⟨h1, h2⟩ := h
  refine ⟨h1, ?_⟩
  rcases h2 with h2 | ⟨g, cap, cur, rfl, hg, hh, r⟩
  · exact .inl h2
  · exact .inr ⟨g, cap, cur, rfl, hg, (hk g rfl).trans hh, r⟩
theorem InP.far {B' T' : Nat} (h : InP w B T v l) (hw : Within w w' B' T') (hd : T ≤ B' ∨ T' ≤ B) : InP w' B T v l :=
  ⟨Nat.le_trans h.1 hw.2.2.2.1, h.2.1.same fun k e => hw.2.2.2.2 k (by have := h.2.2 k e; have := h.1; omega) (by have := h.2.2 k e; have := (World.ownsRow.lt h.2.1 k e).1; omega), h.2.2⟩
theorem InP.of {w0 : World} (ho : Own w' w0.heap.size v l) : InP w' w0.heap.size w'.heap.size v l := ⟨Nat.le_refl _, ho, fun k e => (World.ownsRow.lt ho k e).2⟩
theorem InP.sl (h : InP w B T v l) : ∃ A c, v = .slice A l.length c := by obtain ⟨A, c, hv, _⟩ := h.is; exact ⟨A, c, hv⟩
end
end Go.Proofs.Ytmmabdioncgkoaa
namespace Go.Proofs.Ytmmabdioncgkoaa
open Go.RowKit
theorem modCutA (m n : Nat) : ∃ k : Nat, (m : Int) % ((n : Int) + 1) = k ∧ k ≤ n :=
  ⟨m % (n + 1), by simp, by have := Nat.mod_lt m (show 0 < n + 1 by omega); omega⟩
abbrev lit1 (p : Pn) : Obj := .cells #[.int .i64 p.area, .int .i64 p.job, .int .i64 p.sex, .int .i64 p.pay] TP
theorem rowA {w : World} {g Bd : Nat} {p : Pn} (h : w.heap[g]? = some (lit1 p)) (hg : g < Bd) : Row w Bd (some ⟨g, 0, none⟩) (pcells [p]) := by
  right
  refine ⟨g, 0, rfl, hg, fun j u hu => ?_⟩
  rw [Nat.zero_add, cell_of_row w g j _ _ _ h, ← hu]
  simp [pcells, Pn.cells]
theorem ownA {w : World} (p : Pn) : Own ((w.alloc (lit1 p)).alloc (.cells #[] TP)) w.heap.size (.slice (some ⟨w.heap.size + 1, 0, none⟩) 0 0) [] := by
  have h := World.ownsRow_made (base := w.heap.size) (e := TP) (size := 4) (w.alloc (lit1 p)) #[] 0 (by simp) (by simp [maxLen]) rfl
  have e : (w.alloc (lit1 p)).heap.size = w.heap.size + 1 := by simp
  rw [e] at h
  exact h
theorem keepA {w w' : World} {row : Option Nat} {g : Nat} {o : Obj} (h : w.heap[g]? = some o) (hg : w.grownBy w' row) (hne : some g ≠ row) : w'.heap[g]? = some o :=
  (hg.block g (Array.getElem?_eq_some_iff.1 h).1 hne).trans h
theorem Own.isP' {w : World} {B : Nat} {v : Value} {l : List Pn} (h : Own w B v l) : IsP w v l := by
  obtain ⟨A, c, hv, h1, h2, h3, _⟩ := h.form
  exact ⟨A, c, hv, h1, h2, h3⟩
theorem Row.cutA {w : World} {B : Nat} {A : Option Addr} {l : List Pn} {c k : Nat} (h : Row w B A (pcells l)) (hk : k ≤ l.length) (hc : l.length ≤ c) :
    Row w B (if c = k then A else A.map (·.add (k * 4))) (pcells (l.drop k)) := by
  by_cases hkl : k = l.length
  · left; rw [List.drop_eq_nil_of_le (by omega)]; rfl
  · rcases h with h | ⟨b, o, rfl, hb, hcell⟩
    · have := pcells_length l; rw [h] at this; simp at this; omega
    · right
      rw [if_neg (by omega)]
      refine ⟨b, o + k * 4, by simp [Addr.add_lit], hb, fun j u hu => ?_⟩
      rw [Nat.add_assoc]
      refine hcell (k * 4 + j) u ?_
      rw [← hu]
      have e : pcells (l.drop k) = (pcells l).drop (k * 4) := by
        have h1 : pcells l = pcells (l.take k) ++ pcells (l.drop k) := by simp only [pcells, ← List.flatMap_append, List.take_append_drop]
        rw [h1, List.drop_left' (by rw [pcells_length, List.length_take]; omega)]
      rw [e, List.getElem?_drop]
theorem Row.frontA {w : World} {B : Nat} {A : Option Addr} {l : List Pn} {k : Nat} (h : Row w B A (pcells l)) : Row w B A (pcells (l.take k)) := by
  rcases h with h | ⟨b, o, rfl, hb, hcell⟩
  · left
    have := pcells_length l; rw [h] at this; simp at this
    have hn : l = [] := List.eq_nil_of_length_eq_zero (by omega)
    rw [hn]; simp [pcells]
  · right
    refine ⟨b, o, rfl, hb, fun j u hu => hcell j u ?_⟩
    have h1 : pcells l = pcells (l.take k) ++ pcells (l.drop k) := by simp only [pcells, ← List.flatMap_append, List.take_append_drop]
    rw [h1, List.getElem?_append_left (List.getElem?_eq_some_iff.1 hu).1]; exact hu
/-- The cut list[k:], its address under one name. -/
theorem sliceTailA (B : Option Addr) (n d k : Nat) (hk : k ≤ n) (hn : n ≤ d) : ∃ B2, (∀ w, (Instr.sliceAt TPS (.slice B n d) (some (.int .i64 k)) none none).run Try.prog w = .ok (.slice B2 (n - k) (d - k)) w) ∧
    ∀ W Bd l, l.length = n → Row W Bd B (pcells l) → Row W Bd B2 (pcells (l.drop k)) := by
  refine ⟨if d = k then B else B.map (·.add (k * 4)), fun w => ?_, fun W Bd l hl hr => hr.cutA (by omega) (by omega)⟩
  obtain ⟨i0, hi0, _, hz1, _⟩ := info_parts info_P
  have hu : Try.prog.underlying TPS = some (.slice TP) := Try.underlying31
  have he : Try.prog.elem TPS = TP := by simp [Program.elem, hu]
  rw [run_sliceAt_slice w TPS _ _ _ _ (by rw [he]; exact hu), run_slice_l w TPS B n d (by rw [he]; exact hu) .i64 (k : Int) (by omega) (by omega)]
  rw [he]
  simp [sizeOf, typeInfo, hi0, hz1, sliced, Result.andThen]
theorem appP {ops : Array Oper} {rest : List Oper} {o : Oper} {a : Act} {w : World} {Q : Exit → Act → World → Prop} (hw : Region.wanted o (yielded ops a.tmps) = true) (s x : Operand)
    (ho : o.op = .call { callee := .builtin .append, args := #[s, x], argTypes := #[TPS, TPS] }) (base : Nat) (v : Value) (l : List Pn) (hs : a.eval s = v) (hown : Own w base v l)
    (Bd : Nat) (B : Option Addr) (m d : Nat) (l2 : List Pn) (hm : m = l2.length) (hx : a.eval x = .slice B m d) (hr : Row w Bd B (pcells l2)) (hlen : l.length + l2.length ≤ 1000000) (hbase : base ≤ w.heap.size)
    (h : ∀ v' w', Own w' base v' (l ++ l2) → w.grownBy w' v.ownBlock → wpList Try.prog ops Q rest (a.put o.dst v') w') : wpList Try.prog ops Q (o :: rest) a w :=
  BigFrame.wpList_want hw fun _ hK => wp_append_people s x ho base v l hs hown Bd B m d l2 hm hx hr hlen hbase fun v' w' h2 h3 => hK _ _ (h v' w' h2 h3)
end Go.Proofs.Ytmmabdioncgkoaa
namespace Go.Proofs.Ytmmabdioncgkoaa
open Go.RowKit
end Go.Proofs.Ytmmabdioncgkoaa
