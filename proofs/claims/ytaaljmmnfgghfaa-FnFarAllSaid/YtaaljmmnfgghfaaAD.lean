/- Drawing people, a ladder, a recoding and a number of people. -/
import Derived.Test.YtaaljmmnfgghfaaA8
import Derived.Test.YtaaljmmnfgghfaaA4
namespace Go.Proofs.Ytaaljmmnfgghfaa
open Go.RowKit
def KDrawn (R q : Nat) (w : World) (e : Ending) (w' : World) : Prop := ∃ k : Int, e = .returned (.int .i64 k) ∧ 0 ≤ k ∧ k ≤ 41 ∧ RdN w' R (q + 2) ∧ w.grownBy w' (some R)
/-- .. in memory made anew. -/
def DrawnKO (w : World) (e : Ending) (w' : World) : Prop :=
  ∃ l v ll u r, ∃ k : Int, e = .returned (.tuple #[v, u, Rc.val r, .int .i64 k]) ∧ Own w' w.heap.size v l ∧ OwnLL w' w.heap.size w.heap.size u ll ∧ l.length ≤ 10 ∧ ll.length ≤ 4 ∧ (∀ p ∈ l, Bd p) ∧ 0 ≤ k ∧ k ≤ 41 ∧ Below w.heap.size w w'
def DrawnK (w : World) (e : Ending) (w' : World) : Prop :=
  ∃ l v ll u r, ∃ k : Int, e = .returned (.tuple #[v, u, Rc.val r, .int .i64 k]) ∧ IsP w' v l ∧ IsR w' u ll ∧ l.length ≤ 10 ∧ ll.length ≤ 4 ∧ (∀ p ∈ l, Bd p) ∧ 0 ≤ k ∧ k ≤ 41 ∧ Below w.heap.size w w'
theorem DrawnKO.byK {w w' : World} {e : Ending} (h : DrawnKO w e w') : DrawnK w e w' := by
  obtain ⟨l, v, ll, u, r, k, he, h1, h2, h3, h4, h5, h6, h7, h8⟩ := h
  exact ⟨l, v, ll, u, r, k, he, h1.isP, h2.isRx, h3, h4, h5, h6, h7, h8⟩
theorem FM.below {w w1 w2 w' w'' : World} (h : FM w w1 w2 w') (hb : Below w'.heap.size w' w'') : FM w w1 w2 w'' :=
  ⟨Nat.le_trans h.1 hb.size, fun k a b => (hb.block k (Nat.lt_of_lt_of_le b h.1)).trans (h.2.1 k a b), h.2.2.trans (hb.mono h.2.2.size)⟩
theorem endK {w w1 w2 w' : World} {v u : Value} {l : List Pn} {ll : List (List Int)} {r : Rc} {k : Int} (h : FM w w1 w2 w') (h1 : w.heap.size ≤ w1.heap.size) (ho : Own w2 w1.heap.size v l) (hlo : OwnLL w2 w1.heap.size w1.heap.size u ll) (hl : l.length ≤ 10) (hll : ll.length ≤ 4) (hbd : ∀ p ∈ l, Bd p) (k0 : 0 ≤ k) (k1 : k ≤ 41) :
    DrawnKO w (.returned (.tuple #[v, u, Rc.val r, .int .i64 k])) w' :=
  ⟨l, v, ll, u, r, k, rfl, ownP_less (ho.same fun b e => h.2.1 b (World.ownsRow.lt ho b e).1 (World.ownsRow.lt ho b e).2) h1, (hlo.same h.1 fun k a b => h.2.1 k (by omega) b).less h1 h1, hl, hll, hbd, k0, k1, h.2.2⟩
/-- A reader does not look at a block of integers. -/
theorem RdN.other {w w' : World} {R q B : Nat} {t : TypeId} {a b c : Int} (h : RdN w R q) (hB : w.heap[B]? = some (.cells #[.int .i64 a, .int .i64 b, .int .i64 c] t (0, 0))) (hne : R ≠ B) (hk : ∀ k, k ≠ B → w'.heap[k]? = w.heap[k]?) : RdN w' R q := by
  obtain ⟨A, n, c', p, h, hp⟩ := h
  refine ⟨A, n, c', p, ⟨(hk R hne).trans h.1, h.2.1, h.2.2.1, ?_⟩, hp⟩
  rcases h.2.2.2 with h0 | ⟨g, o, hA, hg, hc⟩
  · exact .inl h0
  · by_cases hn : n = 0
    · exact .inl hn
    · right
      refine ⟨g, o, hA, hg, fun k hkn => ?_⟩
      obtain ⟨v, v0, v1, v2⟩ := hc k hkn
      refine ⟨v, v0, v1, ?_⟩
      by_cases e : g = B
      · subst e
        rw [cell_of_row w g (o + k) _ _ _ hB] at v2
        rcases (show o + k = 0 ∨ o + k = 1 ∨ o + k = 2 ∨ 3 ≤ o + k by omega) with e | e | e | e
        · rw [e] at v2; simp at v2
        · rw [e] at v2; simp at v2
        · rw [e] at v2; simp at v2
        · rw [Array.getElem?_eq_none (by simpa using e)] at v2; cases v2
      · exact (World.cell?_of_block (w := w) (a := ⟨g, o + k, none⟩) (hk g e)).trans v2
theorem set3 {w : World} {g : Nat} {t : TypeId} {a0 a1 a2 : Value} (h : w.heap[g]? = some (.cells #[a0, a1, a2] t (0, 0))) (b0 b1 b2 : Value) :
    (((w.setCell ⟨g, 0, none⟩ b0).setCell ⟨g, 1, none⟩ b1).setCell ⟨g, 2, none⟩ b2).heap[g]? = some (.cells #[b0, b1, b2] t (0, 0)) := by
  simp [World.setCell, Array.getElem?_modify, h]
theorem set3_far (w : World) (g : Nat) (b0 b1 b2 : Value) (k : Nat) (hk : k ≠ g) : (((w.setCell ⟨g, 0, none⟩ b0).setCell ⟨g, 1, none⟩ b1).setCell ⟨g, 2, none⟩ b2).heap[k]? = w.heap[k]? :=
  ((Below.heap_setCell _ ⟨g, 2, none⟩ b2 k hk).trans (Below.heap_setCell _ ⟨g, 1, none⟩ b1 k hk)).trans (Below.heap_setCell _ ⟨g, 0, none⟩ b0 k hk)
end Go.Proofs.Ytaaljmmnfgghfaa
