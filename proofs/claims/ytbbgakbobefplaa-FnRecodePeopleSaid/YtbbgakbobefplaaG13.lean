/- Drawing people, a ladder, a recoding and an index. -/
import Derived.Test.YtbbgakbobefplaaG10
import Derived.Test.YtbbgakbobefplaaIP
import Derived.Test.YtbbgakbobefplaaIR
namespace Go.Proofs.Ytbbgakbobefplaa
open Go.RowKit
def DrawnT (w : World) (e : Ending) (w' : World) : Prop :=
  ∃ l v ll u r, ∃ k : Int, e = .returned (.tuple #[v, u, Rc.val r, .int .i64 k]) ∧ IsP w' v l ∧ IsR w' u ll ∧ l.length ≤ 10 ∧ ll.length ≤ 4 ∧ (∀ p ∈ l, Bd p) ∧ RcIn ll.length r ∧ -1 ≤ k ∧ k ≤ l.length ∧ Below w.heap.size w w'
theorem Own.isP {w : World} {B : Nat} {v : Value} {l : List Pn} (h : Own w B v l) : IsP w v l := by
  obtain ⟨A, c, hv, h1, h2, h3, _⟩ := h.form
  exact ⟨A, c, hv, h1, h2, h3⟩
theorem OwnLL.isR {w : World} {B L : Nat} {v : Value} {ll : List (List Int)} (h : OwnLL w B L v ll) : IsR w v ll := by
  obtain ⟨A, c, hv, h1, h2, h3⟩ := h.form
  exact ⟨A, c, hv, h1, h2, h3⟩
theorem drawT_end3 {w w1 w2 : World} {v u x y z : Value} {l : List Pn} {ll : List (List Int)} {r : Rc} {k : Int} (hb : Below w.heap.size w w1) (hg : w1.grownBy w2 (some (w.heap.size + 1)))
    (ho : Own (((w2.setCell ⟨w.heap.size, 0, none⟩ x).setCell ⟨w.heap.size, 1, none⟩ y).setCell ⟨w.heap.size, 2, none⟩ z) w1.heap.size v l)
    (hl : OwnLL (((w2.setCell ⟨w.heap.size, 0, none⟩ x).setCell ⟨w.heap.size, 1, none⟩ y).setCell ⟨w.heap.size, 2, none⟩ z) w1.heap.size w1.heap.size u ll) (h1 : l.length ≤ 10) (h2 : ll.length ≤ 4)
    (h3 : ∀ p ∈ l, Bd p) (h4 : RcIn ll.length r) (k0 : -1 ≤ k) (k1 : k ≤ l.length) : DrawnT w (.returned (.tuple #[v, u, Rc.val r, .int .i64 k])) (((w2.setCell ⟨w.heap.size, 0, none⟩ x).setCell ⟨w.heap.size, 1, none⟩ y).setCell ⟨w.heap.size, 2, none⟩ z) := by
  have hb2 : Below w.heap.size w w2 := hb.trans (grown_old hg (by omega) hb.size)
  exact ⟨l, v, ll, u, r, k, rfl, ho.isP, hl.isR, h1, h2, h3, h4, k0, k1, below_set (below_set (below_set hb2 (p := ⟨w.heap.size, 0, none⟩) (Nat.le_refl _) x) (p := ⟨w.heap.size, 1, none⟩) (Nat.le_refl _) y) (p := ⟨w.heap.size, 2, none⟩) (Nat.le_refl _) z⟩
set_option maxHeartbeats 1000000 in
theorem dGroupSize_any (A : Option Addr) (n c : Nat) (hnc : n ≤ c) (hn : n ≤ maxLen) (w : World) (hb : Bytes w w.heap.size A n) :
    Calls Try.prog 22 #[.slice A n c] w (DrawnT w) := by
  have hB := (Below.refl w.heap.size w).alloc (Nat.le_refl _) (.cells #[.int .i64 0, .int .i64 0, .int .i64 0] TRc)
  have hG := heap_alloc_new w (.cells #[.int .i64 0, .int .i64 0, .int .i64 0] TRc)
  have hS : (w.alloc (.cells #[.int .i64 0, .int .i64 0, .int .i64 0] TRc)).heap.size = w.heap.size + 1 := by simp
  go_enter Try.func22, Try.ntmps22
  go_wp2_with fail
  refine (l6Open_any A n c hnc hn _ ((hb.below hB (Nat.le_refl _)).more hB.size)).mono ?_
  rintro e w1 ⟨rfl, ⟨n', c', hr⟩, hb1⟩
  rw [hS] at hr hb1 ⊢
  have hr1 : RdN w1 (w.heap.size + 1) 0 := ⟨_, _, _, _, hr, Nat.le_refl _⟩
  have hR := hr1.lt
  have hG1 := (hb1.block w.heap.size (by omega)).trans hG
  have HB1 := Lib.hid (hB.trans (hb1.mono (by omega)))
  clear hr hb hb1 hB hG hS
  go_wp2_with fail
  refine (at_any (w.heap.size + 1) 0 (by omega) _ hr1).mono ?_
  rintro e w2 ⟨l, v, ll, u, r, k, rfl, ho, hlo, hl, hll, hbd, hri, k0, k1, hr2, hg2⟩
  have hG2 := grown_blk hg2 hG1 (by omega)
  obtain ⟨c0, c1, c2, f0, f1, f2⟩ := blk3 hG2
  have HP := Lib.hid ho
  have HL := Lib.hid hlo
  have HBD := Lib.hid hbd
  have HRI := Lib.hid hri
  have HG := Lib.hid hg2
  clear ho hlo hbd hri hg2 hr2 hG1 hG2 hr1
  obtain ⟨ra, rj, rs⟩ := r
  go_wp2
  refine bodyPost_ret (v := .tuple #[v, u, Rc.val ⟨ra, rj, rs⟩, .int .i64 k]) (by simp [results, Try.results22, go_sem, c0, c1, c2]) rfl ?_
  have hk : ∀ k, v.ownBlock = some k → k ≠ w.heap.size := fun k e => by have := (World.ownsRow.lt HP.out k e).1; omega
  have hw1 : w.heap.size < w1.heap.size := by omega
  exact drawT_end3 HB1.out HG.out (((HP.out.far hk 0 _).far hk 1 _).far hk 2 _) (((HL.out.far hw1 hw1 0 _).far hw1 hw1 1 _).far hw1 hw1 2 _) hl hll HBD.out HRI.out k0 k1
/-- People, a ladder and a recoding, by values. -/
def DrawnW (w : World) (e : Ending) (w' : World) : Prop :=
  ∃ l v ll u r, e = .returned (.tuple #[v, u, Rc.val r]) ∧ IsP w' v l ∧ IsR w' u ll ∧ l.length ≤ 10 ∧ ll.length ≤ 4 ∧ (∀ p ∈ l, Bd p) ∧ RcIn ll.length r ∧ Below w.heap.size w w'
theorem DrawnA.byW {w w' : World} {e : Ending} (h : DrawnA w e w') : DrawnW w e w' := by
  obtain ⟨l, A, c, ll, A2, c2, r, he, h1, h2, h3, h4, h5, h6, h7, h8, h9, h10, h11⟩ := h
  exact ⟨l, _, ll, _, r, he, ⟨A, c, rfl, h4, h5, h1⟩, ⟨A2, c2, rfl, h7, h8, h2⟩, h3, h6, h9, h10, h11⟩
end Go.Proofs.Ytbbgakbobefplaa
