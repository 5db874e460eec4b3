/- Drawing people, a ladder and a recoding. -/
import Derived.Test.YtbbgakbobefplaaG8
namespace Go.Proofs.Ytbbgakbobefplaa
open Go.RowKit
theorem below_set {w w' : World} {B : Nat} (h : Below B w w') {p : Addr} (hp : B ≤ p.block) (v : Value) : Below B w (w'.setCell p v) := h.setCell hp v
theorem drawA_end3 {w w1 w2 : World} {v u x y z : Value} {l : List Pn} {ll : List (List Int)} {r : Rc} (hb : Below w.heap.size w w1) (hg : w1.grownBy w2 (some (w.heap.size + 1)))
    (ho : Own (((w2.setCell ⟨w.heap.size, 0, none⟩ x).setCell ⟨w.heap.size, 1, none⟩ y).setCell ⟨w.heap.size, 2, none⟩ z) w1.heap.size v l)
    (hl : OwnLL (((w2.setCell ⟨w.heap.size, 0, none⟩ x).setCell ⟨w.heap.size, 1, none⟩ y).setCell ⟨w.heap.size, 2, none⟩ z) w1.heap.size w1.heap.size u ll) (h1 : l.length ≤ 10) (h2 : ll.length ≤ 4)
    (h3 : ∀ p ∈ l, Bd p) (h4 : RcIn ll.length r) : DrawnA w (.returned (.tuple #[v, u, Rc.val r])) (((w2.setCell ⟨w.heap.size, 0, none⟩ x).setCell ⟨w.heap.size, 1, none⟩ y).setCell ⟨w.heap.size, 2, none⟩ z) := by
  obtain ⟨A, c, rfl, a1, a2, a3, _⟩ := ho.form
  obtain ⟨A2, c2, rfl, b1, b2, b3⟩ := hl.form
  have hb2 : Below w.heap.size w w2 := hb.trans (grown_old hg (by omega) hb.size)
  exact ⟨l, A, c, ll, A2, c2, r, rfl, a3, b3, h1, a1, a2, h2, b1, b2, h3, h4, below_set (below_set (below_set hb2 (p := ⟨w.heap.size, 0, none⟩) (Nat.le_refl _) x) (p := ⟨w.heap.size, 1, none⟩) (Nat.le_refl _) y) (p := ⟨w.heap.size, 2, none⟩) (Nat.le_refl _) z⟩
set_option maxHeartbeats 1000000 in
theorem dGroupLeast_any (A : Option Addr) (n c : Nat) (hnc : n ≤ c) (hn : n ≤ maxLen) (w : World) (hb : Bytes w w.heap.size A n) :
    Calls Try.prog 25 #[.slice A n c] w (DrawnA w) := by
  have hB := (Below.refl w.heap.size w).alloc (Nat.le_refl _) (.cells #[.int .i64 0, .int .i64 0, .int .i64 0] TRc)
  have hG := heap_alloc_new w (.cells #[.int .i64 0, .int .i64 0, .int .i64 0] TRc)
  have hS : (w.alloc (.cells #[.int .i64 0, .int .i64 0, .int .i64 0] TRc)).heap.size = w.heap.size + 1 := by simp
  go_enter Try.func25, Try.ntmps25
  go_wp2_with fail
  refine (l6Open_any A n c hnc hn _ ((hb.below hB (Nat.le_refl _)).more hB.size)).mono ?_
  rintro e w1 ⟨rfl, ⟨n', c', hr⟩, hb1⟩
  rw [hS] at hr hb1 ⊢
  have hr1 : RdN w1 (w.heap.size + 1) 0 := ⟨_, _, _, _, hr, Nat.le_refl _⟩
  have hR := hr1.lt
  have hG1 := (hb1.block w.heap.size (by omega)).trans hG
  have HB1 := Lib.hid (hB.trans (hb1.mono (by omega)))
  clear hr hb hb1 hB hG hS
  go_wp2_with fail
  refine (all_any (w.heap.size + 1) 0 (by omega) _ hr1).mono ?_
  rintro e w2 ⟨l, v, ll, u, r, rfl, ho, hlo, hl, hll, hbd, hri, hr2, hg2⟩
  have hG2 := grown_blk hg2 hG1 (by omega)
  obtain ⟨c0, c1, c2, f0, f1, f2⟩ := blk3 hG2
  have HP := Lib.hid ho
  have HL := Lib.hid hlo
  have HBD := Lib.hid hbd
  have HRI := Lib.hid hri
  have HG := Lib.hid hg2
  clear ho hlo hbd hri hg2 hr2 hG1 hG2 hr1
  obtain ⟨ra, rj, rs⟩ := r
  go_wp2
  refine bodyPost_ret (v := .tuple #[v, u, Rc.val ⟨ra, rj, rs⟩]) (by simp [results, Try.results25, go_sem, c0, c1, c2]) rfl ?_
  have hk : ∀ k, v.ownBlock = some k → k ≠ w.heap.size := fun k e => by have := (World.ownsRow.lt HP.out k e).1; omega
  have hw1 : w.heap.size < w1.heap.size := by omega
  exact drawA_end3 HB1.out HG.out (((HP.out.far hk 0 _).far hk 1 _).far hk 2 _) (((HL.out.far hw1 hw1 0 _).far hw1 hw1 1 _).far hw1 hw1 2 _) hl hll HBD.out HRI.out
set_option maxHeartbeats 1000000 in
theorem dRecodePeople_any (A : Option Addr) (n c : Nat) (hnc : n ≤ c) (hn : n ≤ maxLen) (w : World) (hb : Bytes w w.heap.size A n) :
    Calls Try.prog 14 #[.slice A n c] w (DrawnA w) := by
  have hB := (Below.refl w.heap.size w).alloc (Nat.le_refl _) (.cells #[.int .i64 0, .int .i64 0, .int .i64 0] TRc)
  have hG := heap_alloc_new w (.cells #[.int .i64 0, .int .i64 0, .int .i64 0] TRc)
  have hS : (w.alloc (.cells #[.int .i64 0, .int .i64 0, .int .i64 0] TRc)).heap.size = w.heap.size + 1 := by simp
  go_enter Try.func14, Try.ntmps14
  go_wp2_with fail
  refine (l6Open_any A n c hnc hn _ ((hb.below hB (Nat.le_refl _)).more hB.size)).mono ?_
  rintro e w1 ⟨rfl, ⟨n', c', hr⟩, hb1⟩
  rw [hS] at hr hb1 ⊢
  have hr1 : RdN w1 (w.heap.size + 1) 0 := ⟨_, _, _, _, hr, Nat.le_refl _⟩
  have hR := hr1.lt
  have hG1 := (hb1.block w.heap.size (by omega)).trans hG
  have HB1 := Lib.hid (hB.trans (hb1.mono (by omega)))
  clear hr hb hb1 hB hG hS
  go_wp2_with fail
  refine (all_any (w.heap.size + 1) 0 (by omega) _ hr1).mono ?_
  rintro e w2 ⟨l, v, ll, u, r, rfl, ho, hlo, hl, hll, hbd, hri, hr2, hg2⟩
  have hG2 := grown_blk hg2 hG1 (by omega)
  obtain ⟨c0, c1, c2, f0, f1, f2⟩ := blk3 hG2
  have HP := Lib.hid ho
  have HL := Lib.hid hlo
  have HBD := Lib.hid hbd
  have HRI := Lib.hid hri
  have HG := Lib.hid hg2
  clear ho hlo hbd hri hg2 hr2 hG1 hG2 hr1
  obtain ⟨ra, rj, rs⟩ := r
  go_wp2
  refine bodyPost_ret (v := .tuple #[v, u, Rc.val ⟨ra, rj, rs⟩]) (by simp [results, Try.results14, go_sem, c0, c1, c2]) rfl ?_
  have hk : ∀ k, v.ownBlock = some k → k ≠ w.heap.size := fun k e => by have := (World.ownsRow.lt HP.out k e).1; omega
  have hw1 : w.heap.size < w1.heap.size := by omega
  exact drawA_end3 HB1.out HG.out (((HP.out.far hk 0 _).far hk 1 _).far hk 2 _) (((HL.out.far hw1 hw1 0 _).far hw1 hw1 1 _).far hw1 hw1 2 _) hl hll HBD.out HRI.out
end Go.Proofs.Ytbbgakbobefplaa
