import Derived.Test.YtbkhkmhfbmddmaaT8
namespace Go.Proofs.Ytbkhkmhfbmddmaa
open Go.RowKit
abbrev TP : TypeId := 56
abbrev TPS : TypeId := 34
theorem info_P : (Try.prog.info? TP).map (fun i => (i.zero, i.size, i.bytes)) = some (some (.agg #[.int .i64 0, .int .i64 0, .int .i64 0, .int .i64 0]), 4, 32) := by kernel_rfl
def Own (w : World) (B : Nat) (v : Value) (l : List Pn) : Prop := w.ownsRow B TP 4 v l.length (pcells l)
theorem Own.form {w : World} {B : Nat} {v : Value} {l : List Pn} (h : Own w B v l) : ∃ A c, v = .slice A l.length c ∧ l.length ≤ c ∧ c ≤ maxLen ∧ Row w w.heap.size A (pcells l) ∧ (∀ a, A = some a → B ≤ a.block) := by
  obtain ⟨h1, h2⟩ := h
  rcases h2 with ⟨rfl, h0⟩ | ⟨g, cap, cur, rfl, hg, hh, hnc, hc, hsz, ht⟩
  · have : l = [] := List.eq_nil_of_length_eq_zero h0
    subst this
    exact ⟨none, 0, rfl, Nat.le_refl _, by simp [maxLen], .inl rfl, fun a h => by cases h⟩
  · refine ⟨some ⟨g, 0, none⟩, cap, rfl, hnc, hc, .inr ⟨g, 0, rfl, (Array.getElem?_eq_some_iff.1 hh).1, fun j u hu => ?_⟩, fun a h => by injection h with h; subst h; exact hg⟩
    rw [Nat.zero_add, cell_of_row w g j cur TP (0, 0) hh]
    rw [← ht, List.getElem?_take] at hu
    split at hu
    · simpa using hu
    · cases hu
theorem Own.kept {w w' : World} {B : Nat} {v : Value} {l : List Pn} {R : Nat} (h : Own w B v l) (hg : w.grownBy w' (some R)) (hR : R < B) : Own w' B v l := by
  refine World.ownsRow.kept h hg ?_
  rcases hb : v.ownBlock with _ | k
  · exact .inl rfl
  · right; intro e; injection e with e; have := (World.ownsRow.lt h k hb).1; omega
theorem Own.row {w : World} {B : Nat} {A : Option Addr} {n c : Nat} {l : List Pn} (h : Own w B (.slice A n c) l) : Row w w.heap.size A (pcells l) := by
  obtain ⟨A', c', hv, _, _, hr, _⟩ := h.form
  injection hv with h1 h2 h3
  subst h1
  exact hr
theorem Own.alloc {w : World} {B : Nat} {v : Value} {l : List Pn} (h : Own w B v l) (o : Obj) : Own (w.alloc o) B v l := World.ownsRow.alloc h o
theorem Own.far {w : World} {B : Nat} {v : Value} {l : List Pn} (h : Own w B v l) {Q : Nat} (hQ : ∀ k, v.ownBlock = some k → k ≠ Q) (o : Nat) (x : Value) : Own (w.setCell ⟨Q, o, none⟩ x) B v l := by
  obtain ⟨h1, h2⟩ := h
  refine ⟨h1, ?_⟩
  rcases h2 with h2 | ⟨g, cap, cur, rfl, hg, hh, r⟩
  · exact .inl h2
  · exact .inr ⟨g, cap, cur, rfl, hg, (Below.heap_setCell w ⟨Q, o, none⟩ x g (hQ g rfl)).trans hh, r⟩
theorem pcells_one (p : Pn) : pcells [p] = p.cells := by simp [pcells]
theorem pcells_snoc (l : List Pn) (p : Pn) : pcells l ++ p.cells = pcells (l ++ [p]) := by simp [pcells]
theorem cells_one (p : Pn) : ∀ u ∈ p.cells, u.oneCell' = true := by
  intro u hu; simp only [Pn.cells, List.mem_cons, List.not_mem_nil, or_false] at hu; rcases hu with rfl | rfl | rfl | rfl <;> rfl

theorem cells_at {W : World} {g : Nat} {p : Pn} {t : TypeId} (h : W.heap[g]? = some (.cells #[.int .i64 p.area, .int .i64 p.job, .int .i64 p.sex, .int .i64 p.pay] t (0, 0))) :
    ∀ j u, p.cells[j]? = some u → W.cell? ((⟨g, 0, none⟩ : Addr).add j) = some u := by
  intro j u hu
  rw [Addr.add_lit, Nat.zero_add, cell_of_row W g j _ _ _ h, ← hu]
  simp [Pn.cells]
theorem set4 {w : World} {g : Nat} {t : TypeId} {a0 a1 a2 a3 : Value} (h : w.heap[g]? = some (.cells #[a0, a1, a2, a3] t (0, 0))) (b0 b1 b2 b3 : Value) :
    ((((w.setCell ⟨g, 0, none⟩ b0).setCell ⟨g, 1, none⟩ b1).setCell ⟨g, 2, none⟩ b2).setCell ⟨g, 3, none⟩ b3).heap[g]? = some (.cells #[b0, b1, b2, b3] t (0, 0)) := by
  simp [World.setCell, Array.getElem?_modify, h]
theorem block_keep {w w' : World} {R g : Nat} {t : TypeId} {a0 a1 a2 a3 : Value} (hg : w.drew.grownBy w' (some R)) (h : Hid (w.heap[g]? = some (.cells #[a0, a1, a2, a3] t (0, 0)))) (hR : R < g) :
    Hid (w'.heap[g]? = some (.cells #[a0, a1, a2, a3] t (0, 0))) ∧ w'.cell? ⟨g, 3, none⟩ = some a3 ∧ w'.frozen? ⟨g, 3, none⟩ = false := by
  have h2 := (hg.block g (Array.getElem?_eq_some_iff.1 h.out).1 (fun e => by injection e; omega)).trans h.out
  exact ⟨h2, cell_of_row w' g 3 _ _ _ h2, frozen_of_row w' g 3 _ _ h2⟩
theorem pay_ok {p : Pn} {m : Int} (h : okP p = true) (hm : 0 ≤ m ∧ m ≤ 999) : okP ⟨p.area, p.job, p.sex, m⟩ = true := by
  simp only [okP, Bool.and_eq_true, decide_eq_true_eq] at *
  exact ⟨⟨h.1.1, hm.1⟩, hm.2⟩
theorem Own.head {w : World} {B : Nat} {v : Value} {p : Pn} {l : List Pn} (h : Own w B v (p :: l)) :
    ∃ g c, v = .slice (some ⟨g, 0, none⟩) (l.length + 1) c ∧ B ≤ g ∧ g < w.heap.size ∧ (∀ j u, p.cells[j]? = some u → w.cell? ⟨g, j, none⟩ = some u ∧ w.frozen? ⟨g, j, none⟩ = false) ∧
      ∀ j x p', j < 4 → p'.cells = p.cells.set j x → Own (w.setCell ⟨g, j, none⟩ x) B v (p' :: l) := by
  obtain ⟨h1, h2⟩ := h
  rcases h2 with ⟨_, h0⟩ | ⟨g, cap, cur, rfl, hg, hh, hnc, hc, hsz, ht⟩
  · simp at h0
  · refine ⟨g, cap, rfl, hg, (Array.getElem?_eq_some_iff.1 hh).1, fun j u hu => ⟨?_, frozen_of_row w g j _ _ hh⟩, fun j x p' hj hp' => ⟨by simp [pcells_length], .inr ⟨g, cap, cur.setIfInBounds j x, rfl, hg, ?_, hnc, hc, by simpa using hsz, ?_⟩⟩⟩
    · rw [cell_of_row w g j cur TP (0, 0) hh]
      have hj : j < 4 := by have := (List.getElem?_eq_some_iff.1 hu).1; simpa [Pn.cells] using this
      have e : (pcells (p :: l))[j]? = some u := by
        have e2 : pcells (p :: l) = p.cells ++ pcells l := by simp [pcells]
        rw [e2, List.getElem?_append_left (by simp [Pn.cells]; omega)]; exact hu
      rw [← ht, List.getElem?_take] at e
      split at e
      · simpa using e
      · cases e
    · simp [World.setCell, Array.getElem?_modify, hh]
    · have e2 : pcells (p :: l) = p.cells ++ pcells l := by simp [pcells]
      have e3 : pcells (p' :: l) = p'.cells ++ pcells l := by simp [pcells]
      have ht' : cur.toList.take ((l.length + 1) * 4) = p.cells ++ pcells l := by rw [← e2]; exact ht
      have e4 : (cur.setIfInBounds j x).toList.take ((l.length + 1) * 4) = (cur.toList.take ((l.length + 1) * 4)).set j x := by
        rw [Array.toList_setIfInBounds, List.take_set]
      show (cur.setIfInBounds j x).toList.take ((l.length + 1) * 4) = _
      rw [e4, ht', e3, hp', List.set_append_left _ _ (by simp [Pn.cells]; omega)]
def Bd (p : Pn) : Prop := -10 ≤ p.area ∧ p.area ≤ 1000 ∧ -10 ≤ p.job ∧ p.job ≤ 1000 ∧ -10 ≤ p.sex ∧ p.sex ≤ 1000 ∧ -10 ≤ p.pay ∧ p.pay ≤ 1000
theorem okP_bd {p : Pn} (h : okP p = true) : Bd p := by
  simp [okP, inC] at h; unfold Bd; omega
end Go.Proofs.Ytbkhkmhfbmddmaa
