/- The draws of chapter 5. -/
import Derived.Test.YtaaljmmnfgghfaaA8
import Derived.Test.YtaaljmmnfgghfaaAD
namespace Go.Proofs.Ytaaljmmnfgghfaa
open Go.RowKit
set_option maxHeartbeats 1000000 in
theorem dDivSize_any (A : Option Addr) (n c : Nat) (hnc : n ≤ c) (hn : n ≤ maxLen) (w : World) (hb : Bytes w w.heap.size A n) :
    Calls Try.prog 13 #[.slice A n c] w (DrawnT w) := by
  have hB := (Below.refl w.heap.size w).alloc (Nat.le_refl _) (.cells #[.int .i64 0, .int .i64 0, .int .i64 0] TRc)
  have hG := heap_alloc_new w (.cells #[.int .i64 0, .int .i64 0, .int .i64 0] TRc)
  have hS : (w.alloc (.cells #[.int .i64 0, .int .i64 0, .int .i64 0] TRc)).heap.size = w.heap.size + 1 := by simp
  go_enter Try.func13, Try.ntmps13
  go_wp2_with fail
  refine (l6Open_any A n c hnc hn _ ((hb.below hB (Nat.le_refl _)).more hB.size)).mono ?_
  rintro e w1 ⟨rfl, ⟨n', c', hr⟩, hb1⟩
  rw [hS] at hr hb1 ⊢
  have hr1 : RdN w1 (w.heap.size + 1) 0 := ⟨_, _, _, _, hr, Nat.le_refl _⟩
  have hR := hr1.lt
  have hG1 := (hb1.block w.heap.size (by omega)).trans hG
  have HB1 := Lib.hid (hB.trans (hb1.mono (by omega)))
  clear hr hb hb1 hB hG hS
  go_wp2_with fail
  refine (at_any (w.heap.size + 1) 0 (by omega) _ hr1).mono ?_
  rintro e w2 ⟨l, v, ll, u, r, k, rfl, ho, hlo, hl, hll, hbd, hri, k0, k1, hr2, hg2⟩
  have hG2 := grown_blk hg2 hG1 (by omega)
  obtain ⟨c0, c1, c2, f0, f1, f2⟩ := blk3 hG2
  have HP := Lib.hid ho
  have HL := Lib.hid hlo
  have HBD := Lib.hid hbd
  have HRI := Lib.hid hri
  have HG := Lib.hid hg2
  clear ho hlo hbd hri hg2 hr2 hG1 hG2 hr1
  obtain ⟨ra, rj, rs⟩ := r
  go_wp2
  refine bodyPost_ret (v := .tuple #[v, u, Rc.val ⟨ra, rj, rs⟩, .int .i64 k]) (by simp [results, Try.results13, go_sem, c0, c1, c2]) rfl ?_
  have hk : ∀ k, v.ownBlock = some k → k ≠ w.heap.size := fun k e => by have := (World.ownsRow.lt HP.out k e).1; omega
  have hw1 : w.heap.size < w1.heap.size := by omega
  exact drawT_end3 HB1.out HG.out (((HP.out.far hk 0 _).far hk 1 _).far hk 2 _) (((HL.out.far hw1 hw1 0 _).far hw1 hw1 1 _).far hw1 hw1 2 _) hl hll HBD.out HRI.out k0 k1
set_option maxHeartbeats 1000000 in
theorem dDivFar_any (A : Option Addr) (n c : Nat) (hnc : n ≤ c) (hn : n ≤ maxLen) (w : World) (hb : Bytes w w.heap.size A n) :
    Calls Try.prog 19 #[.slice A n c] w (DrawnT w) := by
  have hB := (Below.refl w.heap.size w).alloc (Nat.le_refl _) (.cells #[.int .i64 0, .int .i64 0, .int .i64 0] TRc)
  have hG := heap_alloc_new w (.cells #[.int .i64 0, .int .i64 0, .int .i64 0] TRc)
  have hS : (w.alloc (.cells #[.int .i64 0, .int .i64 0, .int .i64 0] TRc)).heap.size = w.heap.size + 1 := by simp
  go_enter Try.func19, Try.ntmps19
  go_wp2_with fail
  refine (l6Open_any A n c hnc hn _ ((hb.below hB (Nat.le_refl _)).more hB.size)).mono ?_
  rintro e w1 ⟨rfl, ⟨n', c', hr⟩, hb1⟩
  rw [hS] at hr hb1 ⊢
  have hr1 : RdN w1 (w.heap.size + 1) 0 := ⟨_, _, _, _, hr, Nat.le_refl _⟩
  have hR := hr1.lt
  have hG1 := (hb1.block w.heap.size (by omega)).trans hG
  have HB1 := Lib.hid (hB.trans (hb1.mono (by omega)))
  clear hr hb hb1 hB hG hS
  go_wp2_with fail
  refine (at_any (w.heap.size + 1) 0 (by omega) _ hr1).mono ?_
  rintro e w2 ⟨l, v, ll, u, r, k, rfl, ho, hlo, hl, hll, hbd, hri, k0, k1, hr2, hg2⟩
  have hG2 := grown_blk hg2 hG1 (by omega)
  obtain ⟨c0, c1, c2, f0, f1, f2⟩ := blk3 hG2
  have HP := Lib.hid ho
  have HL := Lib.hid hlo
  have HBD := Lib.hid hbd
  have HRI := Lib.hid hri
  have HG := Lib.hid hg2
  clear ho hlo hbd hri hg2 hr2 hG1 hG2 hr1
  obtain ⟨ra, rj, rs⟩ := r
  go_wp2
  refine bodyPost_ret (v := .tuple #[v, u, Rc.val ⟨ra, rj, rs⟩, .int .i64 k]) (by simp [results, Try.results19, go_sem, c0, c1, c2]) rfl ?_
  have hk : ∀ k, v.ownBlock = some k → k ≠ w.heap.size := fun k e => by have := (World.ownsRow.lt HP.out k e).1; omega
  have hw1 : w.heap.size < w1.heap.size := by omega
  exact drawT_end3 HB1.out HG.out (((HP.out.far hk 0 _).far hk 1 _).far hk 2 _) (((HL.out.far hw1 hw1 0 _).far hw1 hw1 1 _).far hw1 hw1 2 _) hl hll HBD.out HRI.out k0 k1
set_option maxHeartbeats 1000000 in
theorem dDivLeast_any (A : Option Addr) (n c : Nat) (hnc : n ≤ c) (hn : n ≤ maxLen) (w : World) (hb : Bytes w w.heap.size A n) :
    Calls Try.prog 21 #[.slice A n c] w (DrawnA w) := by
  have hB := (Below.refl w.heap.size w).alloc (Nat.le_refl _) (.cells #[.int .i64 0, .int .i64 0, .int .i64 0] TRc)
  have hG := heap_alloc_new w (.cells #[.int .i64 0, .int .i64 0, .int .i64 0] TRc)
  have hS : (w.alloc (.cells #[.int .i64 0, .int .i64 0, .int .i64 0] TRc)).heap.size = w.heap.size + 1 := by simp
  go_enter Try.func21, Try.ntmps21
  go_wp2_with fail
  refine (l6Open_any A n c hnc hn _ ((hb.below hB (Nat.le_refl _)).more hB.size)).mono ?_
  rintro e w1 ⟨rfl, ⟨n', c', hr⟩, hb1⟩
  rw [hS] at hr hb1 ⊢
  have hr1 : RdN w1 (w.heap.size + 1) 0 := ⟨_, _, _, _, hr, Nat.le_refl _⟩
  have hR := hr1.lt
  have hG1 := (hb1.block w.heap.size (by omega)).trans hG
  have HB1 := Lib.hid (hB.trans (hb1.mono (by omega)))
  clear hr hb hb1 hB hG hS
  go_wp2_with fail
  refine (all_any (w.heap.size + 1) 0 (by omega) _ hr1).mono ?_
  rintro e w2 ⟨l, v, ll, u, r, rfl, ho, hlo, hl, hll, hbd, hri, hr2, hg2⟩
  have hG2 := grown_blk hg2 hG1 (by omega)
  obtain ⟨c0, c1, c2, f0, f1, f2⟩ := blk3 hG2
  have HP := Lib.hid ho
  have HL := Lib.hid hlo
  have HBD := Lib.hid hbd
  have HRI := Lib.hid hri
  have HG := Lib.hid hg2
  clear ho hlo hbd hri hg2 hr2 hG1 hG2 hr1
  obtain ⟨ra, rj, rs⟩ := r
  go_wp2
  refine bodyPost_ret (v := .tuple #[v, u, Rc.val ⟨ra, rj, rs⟩]) (by simp [results, Try.results21, go_sem, c0, c1, c2]) rfl ?_
  have hk : ∀ k, v.ownBlock = some k → k ≠ w.heap.size := fun k e => by have := (World.ownsRow.lt HP.out k e).1; omega
  have hw1 : w.heap.size < w1.heap.size := by omega
  exact drawA_end3 HB1.out HG.out (((HP.out.far hk 0 _).far hk 1 _).far hk 2 _) (((HL.out.far hw1 hw1 0 _).far hw1 hw1 1 _).far hw1 hw1 2 _) hl hll HBD.out HRI.out
/-- People, a ladder, a recoding and two numbers. -/
def DrawnKL (w : World) (e : Ending) (w' : World) : Prop :=
  ∃ l v ll u r, ∃ k m : Int, e = .returned (.tuple #[v, u, Rc.val r, .int .i64 k, .int .i64 m]) ∧ IsP w' v l ∧ IsR w' u ll ∧ l.length ≤ 10 ∧ ll.length ≤ 4 ∧ (∀ p ∈ l, Bd p) ∧ 0 ≤ k ∧ k ≤ 41 ∧ 0 ≤ m ∧ m ≤ 41 ∧ Below w.heap.size w w'
theorem endL {w w1 w2 w' : World} {v u : Value} {l : List Pn} {ll : List (List Int)} {r : Rc} {k m : Int} (h : FM w w1 w2 w') (ho : Own w2 w1.heap.size v l) (hlo : OwnLL w2 w1.heap.size w1.heap.size u ll) (hl : l.length ≤ 10) (hll : ll.length ≤ 4) (hbd : ∀ p ∈ l, Bd p) (k0 : 0 ≤ k) (k1 : k ≤ 41) (m0 : 0 ≤ m) (m1 : m ≤ 41) :
    DrawnKL w (.returned (.tuple #[v, u, Rc.val r, .int .i64 k, .int .i64 m])) w' :=
  ⟨l, v, ll, u, r, k, m, rfl, Own.isP (ho.same fun b e => h.2.1 b (World.ownsRow.lt ho b e).1 (World.ownsRow.lt ho b e).2), OwnLL.isRx (hlo.same h.1 fun k a b => h.2.1 k (by omega) b), hl, hll, hbd, k0, k1, m0, m1, h.2.2⟩
end Go.Proofs.Ytaaljmmnfgghfaa
