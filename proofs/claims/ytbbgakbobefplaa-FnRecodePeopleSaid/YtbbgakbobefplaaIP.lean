/- People in memory, by their value. -/
import Derived.Test.YtbbgakbobefplaaAppB
import Derived.Test.YtbbgakbobefplaaKW
namespace Go.Proofs.Ytbbgakbobefplaa
open Go.RowKit
theorem Own.below {w w' : World} {B : Nat} {v : Value} {l : List Pn} (h : Own w B v l) (hb : Below w.heap.size w w') : Own w' B v l := by
  obtain ⟨h1, h2⟩ := h
  refine ⟨h1, ?_⟩
  rcases h2 with h2 | ⟨g, cap, cur, rfl, hg, hh, r⟩
  · exact .inl h2
  · exact .inr ⟨g, cap, cur, rfl, hg, (hb.block g (Array.getElem?_eq_some_iff.1 hh).1).trans hh, r⟩
def IsP (w : World) (v : Value) (l : List Pn) : Prop := ∃ A c, v = .slice A l.length c ∧ l.length ≤ c ∧ c ≤ maxLen ∧ Row w w.heap.size A (pcells l)
def InP (w : World) (B T : Nat) (v : Value) (l : List Pn) : Prop := T ≤ w.heap.size ∧ Own w B v l ∧ ∀ k, v.ownBlock = some k → k < T
section
variable {w w' : World} {B T : Nat} {v : Value} {l : List Pn}
theorem IsP.below (h : IsP w v l) (hb : Below w.heap.size w w') : IsP w' v l := by
  obtain ⟨A, c, hv, h1, h2, h3⟩ := h
  exact ⟨A, c, hv, h1, h2, h3.moved hb⟩
theorem InP.is (h : InP w B T v l) : IsP w v l := by
  obtain ⟨A, c, hv, h1, h2, h3, _⟩ := h.2.1.form
  exact ⟨A, c, hv, h1, h2, h3⟩
theorem InP.below (h : InP w B T v l) (hb : Below w.heap.size w w') : InP w' B T v l := ⟨Nat.le_trans h.1 hb.size, Own.below h.2.1 hb, h.2.2⟩
theorem Own.same {w w' : World} {B : Nat} {v : Value} {l : List Pn} (h : Own w B v l) (hk : ∀ k, v.ownBlock = some k → w'.heap[k]? = w.heap[k]?) : Own w' B v l := by
  obtain ⟨h1, h2⟩ := h
  refine ⟨h1, ?_⟩
  rcases h2 with h2 | ⟨g, cap, cur, rfl, hg, hh, r⟩
  · exact .inl h2
  · exact .inr ⟨g, cap, cur, rfl, hg, (hk g rfl).trans hh, r⟩
theorem InP.far {B' T' : Nat} (h : InP w B T v l) (hw : Within w w' B' T') (hd : T ≤ B' ∨ T' ≤ B) : InP w' B T v l :=
  ⟨Nat.le_trans h.1 hw.2.2.2.1, h.2.1.same fun k e => hw.2.2.2.2 k (by have := h.2.2 k e; have := h.1; omega) (by have := h.2.2 k e; have := (World.ownsRow.lt h.2.1 k e).1; omega), h.2.2⟩
theorem InP.of {w0 : World} (ho : Own w' w0.heap.size v l) : InP w' w0.heap.size w'.heap.size v l := ⟨Nat.le_refl _, ho, fun k e => (World.ownsRow.lt ho k e).2⟩
theorem InP.sl (h : InP w B T v l) : ∃ A c, v = .slice A l.length c := by obtain ⟨A, c, hv, _⟩ := h.is; exact ⟨A, c, hv⟩
end
end Go.Proofs.Ytbbgakbobefplaa
