/- Draws of tables. -/
import Derived.Test.YtflelekpcbmmbaaTS2
import Derived.Test.YtflelekpcbmmbaaA4
namespace Go.Proofs.Ytflelekpcbmmbaa
open Go.RowKit
theorem Mine.grown {w w' : World} {B T R : Nat} {v : Value} {ll : List (List Int)} (h : Mine w B T v ll) (hg : w.grownBy w' (some R)) (hR : R < B) : Mine w' B T v ll :=
  h.same hg.size fun k hB hT => hg.block k (Nat.lt_of_lt_of_le hT h.1) (fun e => by injection e; omega)
theorem gds_ne {α : Type} (l : List α) {i j : Nat} (x d : α) (h : ¬ i = j) : (l.set i x).getD j d = l.getD j d := by
  rw [List.getD_eq_getElem?_getD, List.getElem?_set_ne h, ← List.getD_eq_getElem?_getD]
theorem gds_eq {α : Type} (l : List α) {i : Nat} (x d : α) (h : i < l.length) : (l.set i x).getD i d = x := by
  rw [List.getD_eq_getElem?_getD, List.getElem?_set_self h]; rfl
theorem cell_heap {w w' : World} {g : Nat} (h : w'.heap[g]? = w.heap[g]?) (i : Nat) : w'.cell? ⟨g, i, none⟩ = w.cell? ⟨g, i, none⟩ := by
  simp [World.cell?, h]
/-- Rows of one's own, seen in a later world: a cell and what a store there makes. -/
theorem Mine.cellX {w X : World} {B T n i j g gi m c ci : Nat} {ll : List (List Int)} (h : Mine w B T (.slice (some ⟨g, 0, none⟩) m c) ll) (hc : w.cell? ⟨g, i, none⟩ = some (.slice (some ⟨gi, 0, none⟩) n ci))
    (hi : i < ll.length) (hj : j < (ll.getD i []).length) (hz : w.heap.size ≤ X.heap.size) (hk : ∀ k, B ≤ k → k < T → X.heap[k]? = w.heap[k]?) :
    X.cell? ⟨g, i, none⟩ = some (.slice (some ⟨gi, 0, none⟩) n ci) ∧ X.cell? ⟨gi, j, none⟩ = some (.int .i64 ((ll.getD i []).getD j 0)) ∧ X.frozen? ⟨gi, j, none⟩ = false ∧
      ∀ x : Int, Mine (X.setCell ⟨gi, j, none⟩ (.int .i64 x)) B T (.slice (some ⟨g, 0, none⟩) m c) (ll.set i ((ll.getD i []).set j x)) := by
  have hX := h.same hz hk
  have hgB := h.ob g rfl
  have e1 := cell_heap (hk g hgB.1 hgB.2) i
  obtain ⟨g', c', gi', ci', hv, k0, _, _, _, k1, kf, hset⟩ := hX.cell hi hj
  injection hv with hv1 _ _
  injection hv1 with hv1
  injection hv1 with hv1 _ _
  subst hv1
  rw [e1, hc] at k0
  injection k0 with k0
  injection k0 with k2 _ _
  injection k2 with k2
  injection k2 with k2 _ _
  subst k2
  exact ⟨e1.trans hc, k1, kf, hset⟩
def Sh (t : List (List Int)) (h d : Nat) : Prop := t.length = h ∧ ∀ i, i < h → (t.getD i []).length = d
theorem Sh.set {t : List (List Int)} {h d : Nat} (s : Sh t h d) (i j : Nat) (x : Int) : Sh (t.set i ((t.getD i []).set j x)) h d := by
  refine ⟨by rw [List.length_set]; exact s.1, fun k hk => ?_⟩
  by_cases e : i = k
  · subst e
    rw [List.getD_eq_getElem?_getD, List.getElem?_set_self (by rw [s.1]; exact hk)]
    simp only [Option.getD_some, List.length_set]; exact s.2 i hk
  · rw [List.getD_eq_getElem?_getD, List.getElem?_set_ne e, ← List.getD_eq_getElem?_getD]; exact s.2 k hk
theorem zeros_sh (h d : Nat) : Sh (zeros h d) h d := by
  refine ⟨by simp [zeros], fun i hi => ?_⟩
  simp [zeros, zrow, List.getD_eq_getElem?_getD, hi]
theorem Sh.rows {t : List (List Int)} {h d : Nat} (s : Sh t h d) (hd : d ≤ 4) : ∀ r ∈ t, r.length ≤ 4 := fun r hr => by
  obtain ⟨i, hi, rfl⟩ := List.getElem_of_mem hr
  have := s.2 i (by rw [← s.1]; exact hi)
  rw [List.getD_eq_getElem?_getD, List.getElem?_eq_getElem hi] at this
  simp at this; omega
theorem three_any {a b c : Int} {t : TypeId} (n y : Nat) (hy : y < 3) : ∃ z : Int, ∀ W : World, W.heap.size = n → (W.alloc (.cells #[.int .i64 a, .int .i64 b, .int .i64 c] t)).cell? ⟨n, y, none⟩ = some (.int .i64 z) := by
  rcases (show y = 0 ∨ y = 1 ∨ y = 2 by omega) with rfl | rfl | rfl
  · exact ⟨a, fun W h => by subst h; exact cell_of_row _ _ 0 _ _ _ (heap_alloc_new W _)⟩
  · exact ⟨b, fun W h => by subst h; exact cell_of_row _ _ 1 _ _ _ (heap_alloc_new W _)⟩
  · exact ⟨c, fun W h => by subst h; exact cell_of_row _ _ 2 _ _ _ (heap_alloc_new W _)⟩
theorem three_cell {W : World} {g : Nat} {a b c : Int} {t : TypeId} (h : W.heap[g]? = some (.cells #[.int .i64 a, .int .i64 b, .int .i64 c] t (0, 0))) (y : Nat) (hy : y < 3) : ∃ z : Int, W.cell? ⟨g, y, none⟩ = some (.int .i64 z) := by
  rcases (show y = 0 ∨ y = 1 ∨ y = 2 by omega) with rfl | rfl | rfl
  · exact ⟨a, cell_of_row _ _ 0 _ _ _ h⟩
  · exact ⟨b, cell_of_row _ _ 1 _ _ _ h⟩
  · exact ⟨c, cell_of_row _ _ 2 _ _ _ h⟩
/-- The row i is another row of one's own. -/
theorem Mine.row {w X : World} {B T i g gi m c n ci : Nat} {ll : List (List Int)} {v' : Value} {x : List Int} (h : Mine w B T (.slice (some ⟨g, 0, none⟩) m c) ll) (hc : w.cell? ⟨g, i, none⟩ = some (.slice (some ⟨gi, 0, none⟩) n ci))
    (hi : i < ll.length) (hz : w.heap.size ≤ X.heap.size) (hk : ∀ k, B ≤ k → k < T → k ≠ gi → X.heap[k]? = w.heap[k]?) (hne : g ≠ gi) (ho : Own1 TN X B v' (icells x))
    (hb : v'.ownBlock = some gi ∨ ∀ k, v'.ownBlock = some k → T ≤ k) :
    X.frozen? ⟨g, i, none⟩ = false ∧ Mine (X.setCell ⟨g, i, none⟩ v') B X.heap.size (.slice (some ⟨g, 0, none⟩) m c) (ll.set i x) := by
  obtain ⟨hT, hv, hs, hown, hr⟩ := h
  have hgT := hv g rfl
  have hgB := (hown.ob g rfl).1
  have hl := hr.1
  have hc0 : w.cell? ⟨g, i, none⟩ = hs[i]? := (hown.cellAt i (by omega)).1
  rw [hc, getD_at hs nilS (by omega)] at hc0
  injection hc0 with hc0
  have hgi : gi < T ∧ some gi ≠ some g := (hr.2.1 i hi).2 gi (by rw [← hc0]; rfl)
  have ho2 : Own1 TI X B (.slice (some ⟨g, 0, none⟩) m c) hs := hown.same fun k e => by
    have e2 : some g = some k := e
    injection e2 with e2
    subst e2
    exact hk g hgB hgT hne
  have hm : ∀ k, v'.ownBlock = some k → k ≠ g := fun k e ekg => by
    subst ekg
    rcases hb with hb | hb
    · rw [hb] at e; injection e with e; exact hne e.symm
    · have := hb k e; omega
  refine ⟨(ho2.cellAt i (by omega)).2, ⟨by simp [World.setCell], fun k e => by have := hv k e; omega, hs.set i v', ho2.setAt i v', ⟨by rw [List.length_set, List.length_set]; exact hl, fun i' hi' => ?_, fun a b k hab hb2 e => ?_⟩⟩⟩
  · rw [List.length_set] at hi'
    have hkk : ∀ k, k ≠ g → (X.setCell ⟨g, i, none⟩ v').heap[k]? = X.heap[k]? := fun k hk => Below.heap_setCell X ⟨g, i, none⟩ _ k hk
    by_cases e : i = i'
    · subst e
      rw [gds_eq _ _ _ (by omega), gds_eq _ _ _ hi]
      exact ⟨ho.same fun k e => hkk k (hm k e), fun k e => ⟨(ho.ob k e).2, fun e2 => hm k e (by injection e2)⟩⟩
    · rw [gds_ne _ _ _ e, gds_ne _ _ _ e]
      obtain ⟨h1, h2⟩ := hr.2.1 i' hi'
      refine ⟨h1.same fun k ek => ?_, fun k ek => ⟨by have := (h2 k ek).1; omega, (h2 k ek).2⟩⟩
      have hkg : k ≠ g := fun e2 => (h2 k ek).2 (by rw [e2]; rfl)
      rw [hkk k hkg]
      refine hk k (h1.ob k ek).1 (h2 k ek).1 fun e2 => ?_
      subst e2
      rcases Nat.lt_or_ge i i' with hlt | hge
      · exact hr.2.2 i i' k hlt hi' (by rw [← hc0]; rfl) ek
      · exact hr.2.2 i' i k (by omega) hi ek (by rw [← hc0]; rfl)
  · rw [List.length_set] at hb2
    intro e2
    have key : ∀ p, p < ll.length → ((hs.set i v').getD p nilS).ownBlock = some k → (p = i ∧ v'.ownBlock = some k) ∨ (p ≠ i ∧ (hs.getD p nilS).ownBlock = some k) := fun p hp ep => by
      by_cases e : i = p
      · subst e
        rw [gds_eq _ _ _ (by omega)] at ep
        exact .inl ⟨rfl, ep⟩
      · rw [gds_ne _ _ _ e] at ep
        exact .inr ⟨fun e3 => e e3.symm, ep⟩
    have old : ∀ p, p ≠ i → p < ll.length → (hs.getD p nilS).ownBlock = some k → v'.ownBlock = some k → False := fun p hpi hp ep ev => by
      rcases hb with hb | hb
      · rw [hb] at ev
        injection ev with ev
        subst ev
        rcases Nat.lt_or_ge p i with hlt | hge
        · exact hr.2.2 p i gi hlt hi ep (by rw [← hc0]; rfl)
        · exact hr.2.2 i p gi (by omega) hp (by rw [← hc0]; rfl) ep
      · have := hb k ev
        have := ((hr.2.1 p hp).2 k ep).1
        omega
    rcases key a (by omega) e with ⟨ea, va⟩ | ⟨ea, va⟩
    · rcases key b hb2 e2 with ⟨eb, vb⟩ | ⟨eb, vb⟩
      · omega
      · exact old b eb hb2 vb va
    · rcases key b hb2 e2 with ⟨eb, vb⟩ | ⟨eb, vb⟩
      · exact old a ea (by omega) va vb
      · exact hr.2.2 a b k hab hb2 va vb
/-- A table, or none, in new memory of one's own. -/
def TabDrawn (R q : Nat) (w : World) (e : Ending) (w' : World) : Prop :=
  ∃ v t, e = .returned v ∧ Mine w' w.heap.size w'.heap.size v t ∧ t.length ≤ 4 ∧ (∀ r ∈ t, r.length ≤ 4) ∧ RdN w' R (q + 24) ∧ w.grownBy w' (some R)
theorem tab_set {X w : World} {R q T gi m z : Nat} {v : Value} {t : List (List Int)} {x : Int} (h : Mine (X.setCell ⟨gi, 0, none⟩ (.int .i64 x)) w.heap.size T v t) (hs : Sh t m z) (hm : m ≤ 4) (hz : z ≤ 4) (hr : RdN X R (q + 24))
    (hg : w.grownBy X (some R)) (hR : R < gi) (hgi : w.heap.size ≤ gi) : TabDrawn R q w (.returned v) (X.setCell ⟨gi, 0, none⟩ (.int .i64 x)) :=
  ⟨v, t, rfl, Mine.up h, by rw [hs.1]; exact hm, hs.rows hz, hr.setCell (a := ⟨gi, 0, none⟩) hR _, grown_set hg (p := ⟨gi, 0, none⟩) (.inr hgi) _⟩
theorem TabDrawn.alloc {R q : Nat} {w w' : World} {e : Ending} (h : TabDrawn R q w e w') (o : Obj) : TabDrawn R q w e (w'.alloc o) := by
  obtain ⟨v, t, he, ho, h1, h2, hr, hg⟩ := h
  exact ⟨v, t, he, Mine.up (ho.alloc o), h1, h2, hr.alloc o, grown_alloc hg o⟩
theorem Mine.rowOwn {w : World} {B T i g gi m c n ci : Nat} {ll : List (List Int)} (h : Mine w B T (.slice (some ⟨g, 0, none⟩) m c) ll) (hc : w.cell? ⟨g, i, none⟩ = some (.slice (some ⟨gi, 0, none⟩) n ci)) (hi : i < ll.length) :
    Own1 TN w B (.slice (some ⟨gi, 0, none⟩) n ci) (icells (ll.getD i [])) := by
  obtain ⟨hT, hv, hs, hown, hr⟩ := h
  have hl := hr.1
  have hc0 : w.cell? ⟨g, i, none⟩ = hs[i]? := (hown.cellAt i (by omega)).1
  rw [hc, getD_at hs nilS (by omega)] at hc0
  injection hc0 with hc0
  rw [hc0]
  exact (hr.2.1 i hi).1
theorem rows_set {t : List (List Int)} {m z i : Nat} {x : List Int} (hs : Sh t m z) (hz : z ≤ 4) (hx : x.length ≤ 4) : ∀ r ∈ t.set i x, r.length ≤ 4 := fun r hr => by
  rcases List.mem_or_eq_of_mem_set hr with h | h
  · exact hs.rows hz r h
  · rw [h]; exact hx
end Go.Proofs.Ytflelekpcbmmbaa
