/- Drawing people, a ladder, a recoding and an index. -/
import Derived.Test.YtfcbnfemnfnadaaG9
namespace Go.Proofs.Ytfcbnfemnfnadaa
open Go.RowKit
def AtDrawn (R q : Nat) (w : World) (e : Ending) (w' : World) : Prop :=
  ∃ l v ll u r, ∃ k : Int, e = .returned (.tuple #[v, u, Rc.val r, .int .i64 k]) ∧ Own w' w.heap.size v l ∧ OwnLL w' w.heap.size w.heap.size u ll ∧ l.length ≤ 10 ∧ ll.length ≤ 4 ∧ (∀ p ∈ l, Bd p) ∧ RcIn ll.length r ∧ -1 ≤ k ∧ k ≤ l.length ∧ RdN w' R (q + 210) ∧ w.grownBy w' (some R)
/-- What is known when the index is drawn. -/
def AtMid (R q : Nat) (l : List Pn) (v : Value) (ll : List (List Int)) (u : Value) (w w3 : World) : Prop :=
  Own w3 (w.heap.size + 1) v l ∧ OwnLL w3 (w.heap.size + 1) (w.heap.size + 1) u ll ∧ RdN w3 R (q + 210) ∧ w.grownBy w3 (some R)
theorem at_end {R q : Nat} {w w3 : World} {l : List Pn} {v u x y z : Value} {ll : List (List Int)} {r : Rc} {k : Int} (h : AtMid R q l v ll u w w3) (hR : R < w.heap.size) (h1 : l.length ≤ 10) (h2 : ll.length ≤ 4) (h3 : ∀ p ∈ l, Bd p) (h4 : RcIn ll.length r) (k0 : -1 ≤ k) (k1 : k ≤ l.length) :
    AtDrawn R q w (.returned (.tuple #[v, u, Rc.val r, .int .i64 k])) (((w3.setCell ⟨w.heap.size, 0, none⟩ x).setCell ⟨w.heap.size, 1, none⟩ y).setCell ⟨w.heap.size, 2, none⟩ z) := by
  obtain ⟨ho, hl, hr, hg⟩ := h
  have hk : ∀ k, v.ownBlock = some k → k ≠ w.heap.size := fun k e => by have := (World.ownsRow.lt ho k e).1; omega
  have hw : w.heap.size < w.heap.size + 1 := by omega
  exact ⟨l, v, ll, u, r, k, rfl, ownP_less (((ho.far hk 0 _).far hk 1 _).far hk 2 _) (by omega), (((hl.far hw hw 0 _).far hw hw 1 _).far hw hw 2 _).less (by omega) (by omega), h1, h2, h3, h4, k0, k1,
    ((hr.setCell (a := ⟨w.heap.size, 0, none⟩) hR _).setCell (a := ⟨w.heap.size, 1, none⟩) hR _).setCell (a := ⟨w.heap.size, 2, none⟩) hR _,
    grown_set (grown_set (grown_set hg (p := ⟨w.heap.size, 0, none⟩) (.inr (Nat.le_refl _)) _) (p := ⟨w.heap.size, 1, none⟩) (.inr (Nat.le_refl _)) _) (p := ⟨w.heap.size, 2, none⟩) (.inr (Nat.le_refl _)) _⟩
theorem AtDrawn.alloc {R q : Nat} {w w' : World} {e : Ending} (h : AtDrawn R q w e w') (o : Obj) : AtDrawn R q w e (w'.alloc o) := by
  obtain ⟨l, v, ll, u, r, k, he, ho, hl, h1, h2, h3, h4, k0, k1, hr, hg⟩ := h
  exact ⟨l, v, ll, u, r, k, he, Own.alloc ho o, hl.alloc o, h1, h2, h3, h4, k0, k1, hr.alloc o, grown_alloc hg o⟩
theorem AtMid.grown {R q : Nat} {w w3 w4 : World} {l : List Pn} {v u : Value} {ll : List (List Int)} (h : AtMid R q l v ll u w w3) (hR : R < w.heap.size) (hg : w3.grownBy w4 (some R)) (hr : RdN w4 R (q + 210)) : AtMid R q l v ll u w w4 :=
  ⟨h.1.kept hg (by omega), h.2.1.krr hg (by omega) (by omega), hr, grown_trans h.2.2.2 hg⟩
theorem AtMid.alloc {R q : Nat} {w w3 : World} {l : List Pn} {v u : Value} {ll : List (List Int)} (h : AtMid R q l v ll u w w3) (o : Obj) : AtMid R q l v ll u w (w3.alloc o) :=
  ⟨Own.alloc h.1 o, h.2.1.alloc o, h.2.2.1.alloc o, grown_alloc h.2.2.2 o⟩
theorem two_any {a b : Int} {t : TypeId} (n y : Nat) (hy : y < 2) : ∃ z, (z = a ∨ z = b) ∧ ∀ W : World, W.heap.size = n → (W.alloc (.cells #[.int .i64 a, .int .i64 b] t)).cell? ⟨n, y, none⟩ = some (.int .i64 z) := by
  rcases (show y = 0 ∨ y = 1 by omega) with rfl | rfl
  · exact ⟨a, .inl rfl, fun W h => by subst h; exact cell_of_row _ _ 0 _ _ _ (heap_alloc_new W _)⟩
  · exact ⟨b, .inr rfl, fun W h => by subst h; exact cell_of_row _ _ 1 _ _ _ (heap_alloc_new W _)⟩
end Go.Proofs.Ytfcbnfemnfnadaa
