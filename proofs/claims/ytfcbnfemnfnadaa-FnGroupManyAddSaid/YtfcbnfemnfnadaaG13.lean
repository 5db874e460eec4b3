/- Drawing people, a ladder, a recoding and an index. -/
import Derived.Test.YtfcbnfemnfnadaaG10
import Derived.Test.YtfcbnfemnfnadaaIP
import Derived.Test.YtfcbnfemnfnadaaIR
namespace Go.Proofs.Ytfcbnfemnfnadaa
open Go.RowKit
def DrawnT (w : World) (e : Ending) (w' : World) : Prop :=
  ∃ l v ll u r, ∃ k : Int, e = .returned (.tuple #[v, u, Rc.val r, .int .i64 k]) ∧ IsP w' v l ∧ IsR w' u ll ∧ l.length ≤ 10 ∧ ll.length ≤ 4 ∧ (∀ p ∈ l, Bd p) ∧ RcIn ll.length r ∧ -1 ≤ k ∧ k ≤ l.length ∧ Below w.heap.size w w'
theorem Own.isP {w : World} {B : Nat} {v : Value} {l : List Pn} (h : Own w B v l) : IsP w v l := by
  obtain ⟨A, c, hv, h1, h2, h3, _⟩ := h.form
  exact ⟨A, c, hv, h1, h2, h3⟩
theorem OwnLL.isR {w : World} {B L : Nat} {v : Value} {ll : List (List Int)} (h : OwnLL w B L v ll) : IsR w v ll := by
  obtain ⟨A, c, hv, h1, h2, h3⟩ := h.form
  exact ⟨A, c, hv, h1, h2, h3⟩
theorem drawT_end3 {w w1 w2 : World} {v u x y z : Value} {l : List Pn} {ll : List (List Int)} {r : Rc} {k : Int} (hb : Below w.heap.size w w1) (hg : w1.grownBy w2 (some (w.heap.size + 1)))
    (ho : Own (((w2.setCell ⟨w.heap.size, 0, none⟩ x).setCell ⟨w.heap.size, 1, none⟩ y).setCell ⟨w.heap.size, 2, none⟩ z) w1.heap.size v l)
    (hl : OwnLL (((w2.setCell ⟨w.heap.size, 0, none⟩ x).setCell ⟨w.heap.size, 1, none⟩ y).setCell ⟨w.heap.size, 2, none⟩ z) w1.heap.size w1.heap.size u ll) (h1 : l.length ≤ 10) (h2 : ll.length ≤ 4)
    (h3 : ∀ p ∈ l, Bd p) (h4 : RcIn ll.length r) (k0 : -1 ≤ k) (k1 : k ≤ l.length) : DrawnT w (.returned (.tuple #[v, u, Rc.val r, .int .i64 k])) (((w2.setCell ⟨w.heap.size, 0, none⟩ x).setCell ⟨w.heap.size, 1, none⟩ y).setCell ⟨w.heap.size, 2, none⟩ z) := by
  have hb2 : Below w.heap.size w w2 := hb.trans (grown_old hg (by omega) hb.size)
  exact ⟨l, v, ll, u, r, k, rfl, ho.isP, hl.isR, h1, h2, h3, h4, k0, k1, below_set (below_set (below_set hb2 (p := ⟨w.heap.size, 0, none⟩) (Nat.le_refl _) x) (p := ⟨w.heap.size, 1, none⟩) (Nat.le_refl _) y) (p := ⟨w.heap.size, 2, none⟩) (Nat.le_refl _) z⟩
/-- People, a ladder and a recoding, by values. -/
def DrawnW (w : World) (e : Ending) (w' : World) : Prop :=
  ∃ l v ll u r, e = .returned (.tuple #[v, u, Rc.val r]) ∧ IsP w' v l ∧ IsR w' u ll ∧ l.length ≤ 10 ∧ ll.length ≤ 4 ∧ (∀ p ∈ l, Bd p) ∧ RcIn ll.length r ∧ Below w.heap.size w w'
theorem DrawnA.byW {w w' : World} {e : Ending} (h : DrawnA w e w') : DrawnW w e w' := by
  obtain ⟨l, A, c, ll, A2, c2, r, he, h1, h2, h3, h4, h5, h6, h7, h8, h9, h10, h11⟩ := h
  exact ⟨l, _, ll, _, r, he, ⟨A, c, rfl, h4, h5, h1⟩, ⟨A2, c2, rfl, h7, h8, h2⟩, h3, h6, h9, h10, h11⟩
end Go.Proofs.Ytfcbnfemnfnadaa
