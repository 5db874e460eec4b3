/- Draws of tables. The drawing of a table. The draws of chapter 11. The drawing of a mask. -/
import Derived.Test.YtjgohakiodcjmaaTSA
import Derived.Test.YtjgohakiodcjmaaA4
import Derived.Test.YtjgohakiodcjmaaMW
namespace Go.Proofs.Ytjgohakiodcjmaa
open Go.RowKit
theorem Mine.grown {w w' : World} {B T R : Nat} {v : Value} {ll : List (List Int)} (h : Mine w B T v ll) (hg : w.grownBy w' (some R)) (hR : R < B) : Mine w' B T v ll :=
  h.same hg.size fun k hB hT => hg.block k (Nat.lt_of_lt_of_le hT h.1) (fun e => by injection e; omega)
theorem gds_ne {α : Type} (l : List α) {i j : Nat} (x d : α) (h : ¬ i = j) : (l.set i x).getD j d = l.getD j d := by
  rw [List.getD_eq_getElem?_getD, List.getElem?_set_ne h, ← List.getD_eq_getElem?_getD]
theorem gds_eq {α : Type} (l : List α) {i : Nat} (x d : α) (h : i < l.length) : (l.set i x).getD i d = x := by
  rw [List.getD_eq_getElem?_getD, List.getElem?_set_self h]; rfl
theorem cell_heap {w w' : World} {g : Nat} (h : w'.heap[g]? = w.heap[g]?) (i : Nat) : w'.cell? ⟨g, i, none⟩ = w.cell? ⟨g, i, none⟩ := by
  simp [World.cell?, h]
/-- Rows of one's own, seen in a later world: a cell and what a store there makes. -/
theorem Mine.cellX {w X : World} {B T n i j g gi m c ci : Nat} {ll : List (List Int)} (h : Mine w B T (.slice (some ⟨g, 0, none⟩) m c) ll) (hc : w.cell? ⟨g, i, none⟩ = some (.slice (some ⟨gi, 0, none⟩) n ci))
    (hi : i < ll.length) (hj : j < (ll.getD i []).length) (hz : w.heap.size ≤ X.heap.size) (hk : ∀ k, B ≤ k → k < T → X.heap[k]? = w.heap[k]?) :
    X.cell? ⟨g, i, none⟩ = some (.slice (some ⟨gi, 0, none⟩) n ci) ∧ X.cell? ⟨gi, j, none⟩ = some (.int .i64 ((ll.getD i []).getD j 0)) ∧ X.frozen? ⟨gi, j, none⟩ = false ∧
      ∀ x : Int, Mine (X.setCell ⟨gi, j, none⟩ (.int .i64 x)) B T (.slice (some ⟨g, 0, none⟩) m c) (ll.set i ((ll.getD i []).set j x)) := by
  have hX := h.same hz hk
  have hgB := h.ob g rfl
  have e1 := cell_heap (hk g hgB.1 hgB.2) i
  obtain ⟨g', c', gi', ci', hv, k0, _, _, _, k1, kf, hset⟩ := hX.cell hi hj
  injection hv with hv1 _ _
  injection hv1 with hv1
  injection hv1 with hv1 _ _
  subst hv1
  rw [e1, hc] at k0
  injection k0 with k0
  injection k0 with k2 _ _
  injection k2 with k2
  injection k2 with k2 _ _
  subst k2
  exact ⟨e1.trans hc, k1, kf, hset⟩
def Sh (t : List (List Int)) (h d : Nat) : Prop := t.length = h ∧ ∀ i, i < h → (t.getD i []).length = d
theorem Sh.set {t : List (List Int)} {h d : Nat} (s : Sh t h d) (i j : Nat) (x : Int) : Sh (t.set i ((t.getD i []).set j x)) h d := by
  refine ⟨by rw [List.length_set]; exact s.1, fun k hk => ?_⟩
  by_cases e : i = k
  · subst e
    rw [List.getD_eq_getElem?_getD, List.getElem?_set_self (by rw [s.1]; exact hk)]
    simp only [Option.getD_some, List.length_set]; exact s.2 i hk
  · rw [List.getD_eq_getElem?_getD, List.getElem?_set_ne e, ← List.getD_eq_getElem?_getD]; exact s.2 k hk
theorem zeros_sh (h d : Nat) : Sh (zeros h d) h d := by
  refine ⟨by simp [zeros], fun i hi => ?_⟩
  simp [zeros, zrow, List.getD_eq_getElem?_getD, hi]
theorem Sh.rows {t : List (List Int)} {h d : Nat} (s : Sh t h d) (hd : d ≤ 4) : ∀ r ∈ t, r.length ≤ 4 := fun r hr => by
  obtain ⟨i, hi, rfl⟩ := List.getElem_of_mem hr
  have := s.2 i (by rw [← s.1]; exact hi)
  rw [List.getD_eq_getElem?_getD, List.getElem?_eq_getElem hi] at this
  simp at this; omega
theorem three_any {a b c : Int} {t : TypeId} (n y : Nat) (hy : y < 3) : ∃ z : Int, ∀ W : World, W.heap.size = n → (W.alloc (.cells #[.int .i64 a, .int .i64 b, .int .i64 c] t)).cell? ⟨n, y, none⟩ = some (.int .i64 z) := by
  rcases (show y = 0 ∨ y = 1 ∨ y = 2 by omega) with rfl | rfl | rfl
  · exact ⟨a, fun W h => by subst h; exact cell_of_row _ _ 0 _ _ _ (heap_alloc_new W _)⟩
  · exact ⟨b, fun W h => by subst h; exact cell_of_row _ _ 1 _ _ _ (heap_alloc_new W _)⟩
  · exact ⟨c, fun W h => by subst h; exact cell_of_row _ _ 2 _ _ _ (heap_alloc_new W _)⟩
theorem three_cell {W : World} {g : Nat} {a b c : Int} {t : TypeId} (h : W.heap[g]? = some (.cells #[.int .i64 a, .int .i64 b, .int .i64 c] t (0, 0))) (y : Nat) (hy : y < 3) : ∃ z : Int, W.cell? ⟨g, y, none⟩ = some (.int .i64 z) := by
  rcases (show y = 0 ∨ y = 1 ∨ y = 2 by omega) with rfl | rfl | rfl
  · exact ⟨a, cell_of_row _ _ 0 _ _ _ h⟩
  · exact ⟨b, cell_of_row _ _ 1 _ _ _ h⟩
  · exact ⟨c, cell_of_row _ _ 2 _ _ _ h⟩
/-- The row i is another row of one's own. -/
theorem Mine.row {w X : World} {B T i g gi m c n ci : Nat} {ll : List (List Int)} {v' : Value} {x : List Int} (h : Mine w B T (.slice (some ⟨g, 0, none⟩) m c) ll) (hc : w.cell? ⟨g, i, none⟩ = some (.slice (some ⟨gi, 0, none⟩) n ci))
    (hi : i < ll.length) (hz : w.heap.size ≤ X.heap.size) (hk : ∀ k, B ≤ k → k < T → k ≠ gi → X.heap[k]? = w.heap[k]?) (hne : g ≠ gi) (ho : Own1 TN X B v' (icells x))
    (hb : v'.ownBlock = some gi ∨ ∀ k, v'.ownBlock = some k → T ≤ k) :
    X.frozen? ⟨g, i, none⟩ = false ∧ Mine (X.setCell ⟨g, i, none⟩ v') B X.heap.size (.slice (some ⟨g, 0, none⟩) m c) (ll.set i x) := by
  obtain ⟨hT, hv, hs, hown, hr⟩ := h
  have hgT := hv g rfl
  have hgB := (hown.ob g rfl).1
  have hl := hr.1
  have hc0 : w.cell? ⟨g, i, none⟩ = hs[i]? := (hown.cellAt i (by omega)).1
  rw [hc, getD_at hs nilS (by omega)] at hc0
  injection hc0 with hc0
  have hgi : gi < T ∧ some gi ≠ some g := (hr.2.1 i hi).2 gi (by rw [← hc0]; rfl)
  have ho2 : Own1 TI X B (.slice (some ⟨g, 0, none⟩) m c) hs := hown.same fun k e => by
    have e2 : some g = some k := e
    injection e2 with e2
    subst e2
    exact hk g hgB hgT hne
  have hm : ∀ k, v'.ownBlock = some k → k ≠ g := fun k e ekg => by
    subst ekg
    rcases hb with hb | hb
    · rw [hb] at e; injection e with e; exact hne e.symm
    · have := hb k e; omega
  refine ⟨(ho2.cellAt i (by omega)).2, ⟨by simp [World.setCell], fun k e => by have := hv k e; omega, hs.set i v', ho2.setAt i v', ⟨by rw [List.length_set, List.length_set]; exact hl, fun i' hi' => ?_, fun a b k hab hb2 e => ?_⟩⟩⟩
  · rw [List.length_set] at hi'
    have hkk : ∀ k, k ≠ g → (X.setCell ⟨g, i, none⟩ v').heap[k]? = X.heap[k]? := fun k hk => Below.heap_setCell X ⟨g, i, none⟩ _ k hk
    by_cases e : i = i'
    · subst e
      rw [gds_eq _ _ _ (by omega), gds_eq _ _ _ hi]
      exact ⟨ho.same fun k e => hkk k (hm k e), fun k e => ⟨(ho.ob k e).2, fun e2 => hm k e (by injection e2)⟩⟩
    · rw [gds_ne _ _ _ e, gds_ne _ _ _ e]
      obtain ⟨h1, h2⟩ := hr.2.1 i' hi'
      refine ⟨h1.same fun k ek => ?_, fun k ek => ⟨by have := (h2 k ek).1; omega, (h2 k ek).2⟩⟩
      have hkg : k ≠ g := fun e2 => (h2 k ek).2 (by rw [e2]; rfl)
      rw [hkk k hkg]
      refine hk k (h1.ob k ek).1 (h2 k ek).1 fun e2 => ?_
      subst e2
      rcases Nat.lt_or_ge i i' with hlt | hge
      · exact hr.2.2 i i' k hlt hi' (by rw [← hc0]; rfl) ek
      · exact hr.2.2 i' i k (by omega) hi ek (by rw [← hc0]; rfl)
  · rw [List.length_set] at hb2
    intro e2
    have key : ∀ p, p < ll.length → ((hs.set i v').getD p nilS).ownBlock = some k → (p = i ∧ v'.ownBlock = some k) ∨ (p ≠ i ∧ (hs.getD p nilS).ownBlock = some k) := fun p hp ep => by
      by_cases e : i = p
      · subst e
        rw [gds_eq _ _ _ (by omega)] at ep
        exact .inl ⟨rfl, ep⟩
      · rw [gds_ne _ _ _ e] at ep
        exact .inr ⟨fun e3 => e e3.symm, ep⟩
    have old : ∀ p, p ≠ i → p < ll.length → (hs.getD p nilS).ownBlock = some k → v'.ownBlock = some k → False := fun p hpi hp ep ev => by
      rcases hb with hb | hb
      · rw [hb] at ev
        injection ev with ev
        subst ev
        rcases Nat.lt_or_ge p i with hlt | hge
        · exact hr.2.2 p i gi hlt hi ep (by rw [← hc0]; rfl)
        · exact hr.2.2 i p gi (by omega) hp (by rw [← hc0]; rfl) ep
      · have := hb k ev
        have := ((hr.2.1 p hp).2 k ep).1
        omega
    rcases key a (by omega) e with ⟨ea, va⟩ | ⟨ea, va⟩
    · rcases key b hb2 e2 with ⟨eb, vb⟩ | ⟨eb, vb⟩
      · omega
      · exact old b eb hb2 vb va
    · rcases key b hb2 e2 with ⟨eb, vb⟩ | ⟨eb, vb⟩
      · exact old a ea (by omega) va vb
      · exact hr.2.2 a b k hab hb2 va vb
/-- A table, or none, in new memory of one's own. -/
def TabDrawn (R q : Nat) (w : World) (e : Ending) (w' : World) : Prop :=
  ∃ v t, e = .returned v ∧ Mine w' w.heap.size w'.heap.size v t ∧ t.length ≤ 4 ∧ (∀ r ∈ t, r.length ≤ 4) ∧ RdN w' R (q + 24) ∧ w.grownBy w' (some R)
theorem tab_set {X w : World} {R q T gi m z : Nat} {v : Value} {t : List (List Int)} {x : Int} (h : Mine (X.setCell ⟨gi, 0, none⟩ (.int .i64 x)) w.heap.size T v t) (hs : Sh t m z) (hm : m ≤ 4) (hz : z ≤ 4) (hr : RdN X R (q + 24))
    (hg : w.grownBy X (some R)) (hR : R < gi) (hgi : w.heap.size ≤ gi) : TabDrawn R q w (.returned v) (X.setCell ⟨gi, 0, none⟩ (.int .i64 x)) :=
  ⟨v, t, rfl, Mine.up h, by rw [hs.1]; exact hm, hs.rows hz, hr.setCell (a := ⟨gi, 0, none⟩) hR _, grown_set hg (p := ⟨gi, 0, none⟩) (.inr hgi) _⟩
theorem TabDrawn.alloc {R q : Nat} {w w' : World} {e : Ending} (h : TabDrawn R q w e w') (o : Obj) : TabDrawn R q w e (w'.alloc o) := by
  obtain ⟨v, t, he, ho, h1, h2, hr, hg⟩ := h
  exact ⟨v, t, he, Mine.up (ho.alloc o), h1, h2, hr.alloc o, grown_alloc hg o⟩
theorem Mine.rowOwn {w : World} {B T i g gi m c n ci : Nat} {ll : List (List Int)} (h : Mine w B T (.slice (some ⟨g, 0, none⟩) m c) ll) (hc : w.cell? ⟨g, i, none⟩ = some (.slice (some ⟨gi, 0, none⟩) n ci)) (hi : i < ll.length) :
    Own1 TN w B (.slice (some ⟨gi, 0, none⟩) n ci) (icells (ll.getD i [])) := by
  obtain ⟨hT, hv, hs, hown, hr⟩ := h
  have hl := hr.1
  have hc0 : w.cell? ⟨g, i, none⟩ = hs[i]? := (hown.cellAt i (by omega)).1
  rw [hc, getD_at hs nilS (by omega)] at hc0
  injection hc0 with hc0
  rw [hc0]
  exact (hr.2.1 i hi).1
theorem rows_set {t : List (List Int)} {m z i : Nat} {x : List Int} (hs : Sh t m z) (hz : z ≤ 4) (hx : x.length ≤ 4) : ∀ r ∈ t.set i x, r.length ≤ 4 := fun r hr => by
  rcases List.mem_or_eq_of_mem_set hr with h | h
  · exact hs.rows hz r h
  · rw [h]; exact hx
end Go.Proofs.Ytjgohakiodcjmaa
namespace Go.Proofs.Ytjgohakiodcjmaa
open Go.RowKit
end Go.Proofs.Ytjgohakiodcjmaa
namespace Go.Proofs.Ytjgohakiodcjmaa
open Go.RowKit
def DrawnTab (w : World) (e : Ending) (w' : World) : Prop := ∃ v t, e = .returned v ∧ IsR w' v t ∧ t.length ≤ 8 ∧ (∀ r ∈ t, r.length ≤ 4) ∧ Below w.heap.size w w'
def DrawnTabK (w : World) (e : Ending) (w' : World) : Prop := ∃ v t, ∃ k : Int, e = .returned (.tuple #[v, .int .i64 k]) ∧ IsR w' v t ∧ t.length ≤ 8 ∧ (∀ r ∈ t, r.length ≤ 4) ∧ (0 ≤ k ∧ k ≤ 6) ∧ Below w.heap.size w w'
def DrawnTabF (w : World) (e : Ending) (w' : World) : Prop := ∃ v t, ∃ a b : Int, e = .returned (.tuple #[v, .int .i64 a, .int .i64 b]) ∧ IsR w' v t ∧ t.length ≤ 8 ∧ (∀ r ∈ t, r.length ≤ 4) ∧ (-1 ≤ a ∧ a ≤ 8) ∧ (-1 ≤ b ∧ b ≤ 8) ∧ Below w.heap.size w w'
def DrawnPpl (w : World) (e : Ending) (w' : World) : Prop := ∃ v l, e = .returned v ∧ IsP w' v l ∧ l.length ≤ 12 ∧ (∀ p ∈ l, Bd p) ∧ Below w.heap.size w w'
set_option maxHeartbeats 1000000 in
theorem dTabOf_any (A : Option Addr) (n c : Nat) (hnc : n ≤ c) (hn : n ≤ maxLen) (w : World) (hb : Bytes w w.heap.size A n) :
    Calls Try.prog 26 #[.slice A n c] w (DrawnPpl w) := by
  go_enter Try.func26, Try.ntmps26
  go_wp2_with fail
  refine (l6Open_any A n c hnc hn _ hb).mono ?_
  rintro e w1 ⟨rfl, ⟨n', c', hr⟩, hb1⟩
  have hr1 : RdN w1 w.heap.size 0 := ⟨_, _, _, _, hr, Nat.le_refl _⟩
  clear hr hb
  have hR := hr1.lt
  have HB1 := Lib.hid hb1; clear hb1
  go_wp2_with fail
  refine (people_any 12 (by omega) w.heap.size 0 (by omega) _ hr1).mono ?_
  rintro e w2 ⟨l, v, rfl, ho2, hl, hbd, hr2, hg2⟩
  go_wp2
  go_ret
  exact ⟨v, l, rfl, ho2.isP', hl, hbd, HB1.out.trans (grown_old hg2 (Nat.le_refl _) (by omega))⟩
theorem two_cellN {W : World} {g : Nat} {a b : Int} {t : TypeId} (h : W.heap[g]? = some (.cells #[.int .i64 a, .int .i64 b] t (0, 0))) (y : Nat) (hy : y < 2) : ∃ z : Int, (z = a ∨ z = b) ∧ W.cell? ⟨g, y, none⟩ = some (.int .i64 z) := by
  rcases (show y = 0 ∨ y = 1 by omega) with rfl | rfl
  · exact ⟨a, .inl rfl, cell_of_row _ _ 0 _ _ _ h⟩
  · exact ⟨b, .inr rfl, cell_of_row _ _ 1 _ _ _ h⟩
end Go.Proofs.Ytjgohakiodcjmaa
namespace Go.Proofs.Ytjgohakiodcjmaa
open Go.RowKit
theorem MineB.grown {w w' : World} {B T R : Nat} {v : Value} {ll : List (List Bool)} (h : MineB w B T v ll) (hg : w.grownBy w' (some R)) (hR : R < B) : MineB w' B T v ll :=
  h.same hg.size fun k hB hT => hg.block k (Nat.lt_of_lt_of_le hT h.1) (fun e => by injection e; omega)
theorem Mine.heads {w : World} {B T : Nat} {v : Value} {t : List (List Int)} (h : Mine w B T v t) (h0 : 0 < t.length) :
    ∃ g c, v = .slice (some ⟨g, 0, none⟩) t.length c ∧ B ≤ g ∧ g < T ∧ ∀ k, k < t.length → ∃ A d, w.cell? ⟨g, k, none⟩ = some (.slice A (t.getD k []).length d) := by
  obtain ⟨hT, hv, hs, ho, hr⟩ := h
  have hl := hr.1
  obtain ⟨g, c, rfl⟩ := ho.slice (by omega)
  refine ⟨g, c, by rw [hl], (ho.ob g rfl).1, hv g rfl, fun k hk => ?_⟩
  obtain ⟨A, d, hA, _, _, _, _⟩ := (hr.2.1 k hk).1.form
  rw [icells_len] at hA
  exact ⟨A, d, by rw [(ho.cellAt k (by omega)).1, getD_at hs nilS (by omega), hA]⟩
theorem row_lit2 (w : World) (o : Obj) (cs : Array Value) (T : TypeId) : Row ((w.alloc o).alloc (.cells cs T)) (w.heap.size + 2) (some ⟨w.heap.size + 1, 0, none⟩) cs.toList := by
  have h := row_lit (w.alloc o) cs T
  have e : (w.alloc o).heap.size = w.heap.size + 1 := by simp
  rw [e] at h; exact h
def MaskDrawn (R q : Nat) (w : World) (e : Ending) (w' : World) : Prop :=
  ∃ v m, e = .returned v ∧ MineB w' w.heap.size w'.heap.size v m ∧ m.length ≤ 5 ∧ (∀ r ∈ m, r.length ≤ 4) ∧ RdN w' R (q + 24) ∧ w.grownBy w' (some R)
end Go.Proofs.Ytjgohakiodcjmaa
