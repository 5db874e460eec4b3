/- Drawing recodings. -/
import Derived.Test.YtbbgakbobefplaaG6
import Derived.Test.YtbbgakbobefplaaL8
namespace Go.Proofs.Ytbbgakbobefplaa
open Go.RowKit
def RcIn (n : Nat) (r : Rc) : Prop := -1 ≤ r.area ∧ r.area ≤ n + 1 ∧ 0 ≤ r.job ∧ r.job ≤ 2 ∧ 0 ≤ r.sex ∧ r.sex ≤ 1
def RcDrawn (n R q : Nat) (w : World) (e : Ending) (w' : World) : Prop := ∃ r : Rc, e = .returned r.val ∧ RcIn n r ∧ RdN w' R (q + 5) ∧ w.grownBy w' (some R)
theorem blk3 {w : World} {g : Nat} {t : TypeId} {a b c : Value} (h : w.heap[g]? = some (.cells #[a, b, c] t (0, 0))) :
    w.cell? ⟨g, 0, none⟩ = some a ∧ w.cell? ⟨g, 1, none⟩ = some b ∧ w.cell? ⟨g, 2, none⟩ = some c ∧ w.frozen? ⟨g, 0, none⟩ = false ∧ w.frozen? ⟨g, 1, none⟩ = false ∧ w.frozen? ⟨g, 2, none⟩ = false :=
  ⟨cell_of_row w g 0 _ _ _ h, cell_of_row w g 1 _ _ _ h, cell_of_row w g 2 _ _ _ h, frozen_of_row w g 0 _ _ h, frozen_of_row w g 1 _ _ h, frozen_of_row w g 2 _ _ h⟩
theorem grown_blk {w w' : World} {R g : Nat} {o : Obj} (hg : w.grownBy w' (some R)) (h : w.heap[g]? = some o) (hne : g ≠ R) : w'.heap[g]? = some o :=
  (hg.block g (Array.getElem?_eq_some_iff.1 h).1 (fun e => by injection e; omega)).trans h
def RcMid (n R q : Nat) (r : Rc) (w w' : World) : Prop := RdN w' R (q + 5) ∧ w.grownBy w' (some R) ∧ RcIn n r
theorem rcEnd1 {n R q Q : Nat} {r : Rc} {w w4 : World} (hr : RdN w4 R (q + 5)) (hg : w.grownBy w4 (some R)) (hi : RcIn n r) (hQ : R < Q) (hwQ : w.heap.size ≤ Q) (o : Nat) (v : Value) : RcMid n R q r w (w4.setCell ⟨Q, o, none⟩ v) :=
  ⟨hr.setCell (a := ⟨Q, o, none⟩) hQ v, grown_set hg (p := ⟨Q, o, none⟩) (.inr hwQ) v, hi⟩
theorem rcEnd3 {n R q G : Nat} {r : Rc} {w w4 : World} (h : RcMid n R q r w w4) (hG : R < G) (hwG : w.heap.size ≤ G) :
    RcDrawn n R q w (.returned r.val) (((w4.setCell ⟨G, 0, none⟩ (.int .i64 r.area)).setCell ⟨G, 1, none⟩ (.int .i64 r.job)).setCell ⟨G, 2, none⟩ (.int .i64 r.sex)) :=
  ⟨r, rfl, h.2.2, ((h.1.setCell (a := ⟨G, 0, none⟩) hG _).setCell (a := ⟨G, 1, none⟩) hG _).setCell (a := ⟨G, 2, none⟩) hG _,
    grown_set (grown_set (grown_set h.2.1 (p := ⟨G, 0, none⟩) (.inr hwG) _) (p := ⟨G, 1, none⟩) (.inr hwG) _) (p := ⟨G, 2, none⟩) (.inr hwG) _⟩
set_option maxHeartbeats 1000000 in
theorem recode_any (R q : Nat) (hq : q + 5 < 1000000) (A : Option Addr) (n c : Nat) (hn : n ≤ 100) (w : World) (hr : RdN w R q) :
    Calls Try.prog 48 #[.pointer (some ⟨R, 0, none⟩), .slice A n c] w (RcDrawn n R q w) := by
  have hR := hr.lt
  go_enter Try.func48, Try.ntmps48
  go_wp2_with fail
  refine (pick_any (n + 1) (by omega) (by omega) R q (by omega) _ (hr.alloc _)).mono ?_
  rintro e w1 ⟨a, rfl, a0, a1, hr1, hg1⟩
  go_wp2_with fail
  refine (pick_any 2 (by omega) (by omega) R _ (by omega) _ hr1).mono ?_
  rintro e w2 ⟨j, rfl, j0, j1, hr2, hg2⟩
  go_wp2_with fail
  refine (pick_any 2 (by omega) (by omega) R _ (by omega) _ hr2).mono ?_
  rintro e w3 ⟨s, rfl, s0, s1, hr3, hg3⟩
  have hG0 := grown_blk hg3 (grown_blk hg2 (grown_blk hg1 (heap_alloc_new w _) (by omega)) (by omega)) (by omega)
  have hg := grown_trans (World.grownBy_alloc w (.cells #[.int .i64 0, .int .i64 0, .int .i64 0] TRc) (some R)) (grown_trans (grown_trans hg1 hg2) hg3)
  have hz3 : w.heap.size < w3.heap.size := (Array.getElem?_eq_some_iff.1 hG0).1
  have HG := Lib.hid hg
  have HG0 := Lib.hid hG0
  clear hg hG0 hg1 hg2 hg3 hr1 hr2 hr
  go_wp2_with fail
  refine (pick_any 50 (by omega) (by omega) R _ (by omega) _ (hr3.alloc _)).mono ?_
  rintro e w4 ⟨x, rfl, x0, x1, hr4, hg4⟩
  have HQ4 := Lib.hid (grown_blk hg4 (heap_alloc_new w3 _) (by omega))
  have HG4 := Lib.hid (grown_blk hg4 (keep1 HG0.out) (by omega))
  have HGW := Lib.hid (grown_trans (grown_alloc HG.out _) hg4)
  have hQz : w3.heap.size < w4.heap.size := (Array.getElem?_eq_some_iff.1 HQ4.out).1
  obtain ⟨Q, hQ⟩ : ∃ Q, w3.heap.size = Q := ⟨_, rfl⟩
  obtain ⟨G, hG⟩ : ∃ G, w.heap.size = G := ⟨_, rfl⟩
  rw [hQ] at HQ4 hQz hz3 ⊢
  rw [hG] at HG4 hz3 hR ⊢
  have HGW2 := Lib.hid hG
  clear hQ hG HG HG0 hg4 hr3
  have hRQ : R < Q := by omega
  rcases (show x = 0 ∨ x = 1 ∨ 1 < x by omega) with rfl | rfl | hx
  · go_wp2_with fail
    refine (pick_any 2 (by omega) (by omega) R _ (by omega) _ (hr4.alloc _)).mono ?_
    rintro e w5 ⟨u, rfl, u0, u1, hr5, hg5⟩
    obtain ⟨u, rfl⟩ := Int.eq_ofNat_of_zero_le u0
    obtain ⟨t, ht, ht2⟩ := two_cell (new_block hg5 (by omega)) u (by omega)
    have HQ5 := Lib.hid (grown_blk hg5 (keep1 HQ4.out) (by omega))
    have HG5 := Lib.hid (grown_blk hg5 (keep1 HG4.out) (by omega))
    have HGW5 := Lib.hid (grown_trans (grown_alloc HGW.out _) hg5)
    obtain ⟨c0, c1, c2, f0, f1, f2⟩ := blk3 HQ5.out
    obtain ⟨d0, d1, d2, e0, e1, e2⟩ := blk3 HG5.out
    clear hg5 hr4 HQ4 HG4 HGW
    go_wp2
    refine bodyPost_ret (v := Rc.val ⟨t, j, s⟩) (by simp [results, Try.results48, go_sem, d0, d1, d2]) rfl ?_
    exact rcEnd3 (rcEnd1 (r := ⟨t, j, s⟩) hr5 HGW5.out (by unfold RcIn; simp only; omega) hRQ (by rw [HGW2.out]; omega) 0 (.int .i64 t)) (by omega) (by rw [HGW2.out]; exact Nat.le_refl _)
  · obtain ⟨c0, c1, c2, f0, f1, f2⟩ := blk3 HQ4.out
    obtain ⟨d0, d1, d2, e0, e1, e2⟩ := blk3 HG4.out
    go_wp2
    refine bodyPost_ret (v := Rc.val ⟨a, 2, s⟩) (by simp [results, Try.results48, go_sem, d0, d1, d2]) rfl ?_
    exact rcEnd3 (rcEnd1 (r := ⟨a, 2, s⟩) (hr4.more (by omega)) HGW.out (by unfold RcIn; simp only; omega) hRQ (by rw [HGW2.out]; omega) 1 (.int .i64 2)) (by omega) (by rw [HGW2.out]; exact Nat.le_refl _)
  · obtain ⟨c0, c1, c2, f0, f1, f2⟩ := blk3 HQ4.out
    obtain ⟨d0, d1, d2, e0, e1, e2⟩ := blk3 HG4.out
    go_wp2
    refine bodyPost_ret (v := Rc.val ⟨a, j, s⟩) (by simp [results, Try.results48, go_sem, d0, d1, d2]) rfl ?_
    exact rcEnd3 (w4 := w4) ⟨(hr4.more (by omega)), HGW.out, by unfold RcIn; simp only; omega⟩ (by omega) (by rw [HGW2.out]; exact Nat.le_refl _)
end Go.Proofs.Ytbbgakbobefplaa
