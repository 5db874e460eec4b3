import Derived.Test.YtbbgakbobefplaaT2
namespace Go.Proofs.Ytbbgakbobefplaa
open Go.RowKit
def Drawn (R q : Nat) (w : World) (e : Ending) (w' : World) : Prop :=
  ∃ p : Pn, e = .returned p.val ∧ okP p = true ∧ RdN w' R (q + 5) ∧ w.grownBy w' (some R)
theorem person_any (R q : Nat) (hq : q + 5 < 1000000) (w : World) (hr : RdN w R q) :
    Calls Try.prog 60 #[.pointer (some ⟨R, 0, none⟩)] w (Drawn R q w) := by
  have hR := hr.lt
  go_enter Try.func60, Try.ntmps60
  go_wp2_with fail
  refine (pick_any 4 (by omega) (by omega) R q (by omega) _ (hr.alloc _)).mono ?_
  rintro e w1 ⟨v1, rfl, a1, b1, hr1, hg1⟩
  go_wp2_with fail
  refine (pick_any 3 (by omega) (by omega) R (q + 1) (by omega) _ hr1).mono ?_
  rintro e w2 ⟨v2, rfl, a2, b2, hr2, hg2⟩
  go_wp2_with fail
  refine (pick_any 2 (by omega) (by omega) R (q + 2) (by omega) _ hr2).mono ?_
  rintro e w3 ⟨v3, rfl, a3, b3, hr3, hg3⟩
  go_wp2_with fail
  refine (pick_any 10 (by omega) (by omega) R (q + 3) (by omega) _ hr3).mono ?_
  rintro e w4 ⟨v4, rfl, a4, b4, hr4, hg4⟩
  go_wp2_with fail
  refine (pick_any 100 (by omega) (by omega) R (q + 4) (by omega) _ hr4).mono ?_
  rintro e w5 ⟨v5, rfl, a5, b5, hr5, hg5⟩
  have hg := grown_trans (grown_trans (grown_trans (grown_trans hg1 hg2) hg3) hg4) hg5
  have hblk := new_block hg hR
  have HB := Lib.hid hblk; clear hblk
  have HG := Lib.hid hg; clear hg
  have HR5 := Lib.hid hr5; clear hr5
  clear hr1 hr2 hr3 hr4 hg1 hg2 hg3 hg4 hg5
  have c0 := cell_of_row w5 w.heap.size 0 _ _ _ HB.out
  have c1 := cell_of_row w5 w.heap.size 1 _ _ _ HB.out
  have c2 := cell_of_row w5 w.heap.size 2 _ _ _ HB.out
  have c3 := cell_of_row w5 w.heap.size 3 _ _ _ HB.out
  have f0 := frozen_of_row w5 w.heap.size 0 _ _ HB.out
  have f1 := frozen_of_row w5 w.heap.size 1 _ _ HB.out
  have f2 := frozen_of_row w5 w.heap.size 2 _ _ HB.out
  have f3 := frozen_of_row w5 w.heap.size 3 _ _ HB.out
  go_wp2
  refine bodyPost_ret (v := Pn.val ⟨v1, v2, v3, v4 * 100 + v5⟩) (by simp [results, Try.results60, go_sem, c0, c1, c2, c3]) rfl ?_
  refine ⟨⟨v1, v2, v3, v4 * 100 + v5⟩, rfl, ?_, ?_, ?_⟩
  · simp [okP, inC]; omega
  · have h4 := (((HR5.out.setCell (a := ⟨w.heap.size, 0, none⟩) hR (.int .i64 v1)).setCell (a := ⟨w.heap.size, 1, none⟩) hR (.int .i64 v2)).setCell (a := ⟨w.heap.size, 2, none⟩) hR (.int .i64 v3)).setCell (a := ⟨w.heap.size, 3, none⟩) hR (.int .i64 (v4 * 100 + v5))
    exact h4
  · have g := grown_trans (World.grownBy_alloc w (.cells #[.int .i64 0, .int .i64 0, .int .i64 0, .int .i64 0] 33) (some R)) HG.out
    exact grown_set (grown_set (grown_set (grown_set g (p := ⟨w.heap.size, 0, none⟩) (.inr (Nat.le_refl _)) _) (p := ⟨w.heap.size, 1, none⟩) (.inr (Nat.le_refl _)) _) (p := ⟨w.heap.size, 2, none⟩) (.inr (Nat.le_refl _)) _) (p := ⟨w.heap.size, 3, none⟩) (.inr (Nat.le_refl _)) _
end Go.Proofs.Ytbbgakbobefplaa
