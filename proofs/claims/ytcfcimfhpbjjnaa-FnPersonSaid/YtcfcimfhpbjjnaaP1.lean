import Derived.Test.YtcfcimfhpbjjnaaP0
namespace Go.Proofs.Ytcfcimfhpbjjnaa
open Go.RowKit
def DrawnP (w : World) (e : Ending) (w' : World) : Prop := ∃ p : Pn, e = .returned p.val ∧ Below w.heap.size w w'
theorem drawPerson_any (A : Option Addr) (n c : Nat) (hnc : n ≤ c) (hn : n ≤ maxLen) (w : World) (hb : Bytes w w.heap.size A n) :
    Calls Try.prog 14 #[.slice A n c] w (DrawnP w) := by
  go_enter Try.func14, Try.ntmps14
  go_wp2_with fail
  refine (l6Open_any A n c hnc hn _ ((hb.below ((Below.refl _ _).alloc (Nat.le_refl _) _) (Nat.le_refl _)).more (by simp))).mono ?_
  rintro e w1 ⟨rfl, ⟨n', c', hr⟩, hb1⟩
  have hR1 : w.heap.size < (w.alloc (.cells #[.int .i64 0, .int .i64 0, .int .i64 0, .int .i64 0] TP)).heap.size := by simp
  have HQ := Lib.hid ((hb1.block w.heap.size hR1).trans (heap_alloc_new w _))
  have HB1 := Lib.hid (show Below w.heap.size w w1 from ((Below.refl _ _).alloc (Nat.le_refl _) _).trans (hb1.mono (Nat.le_of_lt hR1)))
  clear hb1
  generalize (w.alloc (.cells #[.int .i64 0, .int .i64 0, .int .i64 0, .int .i64 0] TP)).heap.size = R at *
  have hr1 : RdN w1 R 0 := ⟨_, _, _, _, hr, Nat.le_refl _⟩
  clear hr hb
  have hRw := hr1.lt
  go_wp2_with fail
  refine (person_any R 0 (by omega) _ hr1).mono ?_
  rintro e w2 ⟨p, rfl, hp, hr2, hg2⟩
  have hR2 := hr2.lt
  go_wp2_with fail
  refine (pick_any 8 (by omega) (by omega) R _ (by omega) _ (hr2.alloc _)).mono ?_
  rintro e w3 ⟨x, rfl, x0, x1, hr3, hg3⟩
  have HG3 := Lib.hid (new_block hg3 hR2)
  have hg13 := grown_trans (grown_alloc hg2 _) hg3
  have HQ3 := Lib.hid ((hg13.block w.heap.size (by omega) (fun e => by injection e; omega)).trans HQ.out)
  have HB3 := Lib.hid (HB1.out.trans (grown_old hg13 (by omega) (by omega)))
  have hz3 := hg3.size
  simp only [World.size_alloc] at hz3
  clear hg2 hg3 hg13 hr1 hr2 HQ HB1 hp
  generalize w2.heap.size = g at *
  have hg3 : g < w3.heap.size := (Array.getElem?_eq_some_iff.1 HG3.out).1
  clear hz3 hRw
  by_cases hx : x = 0
  · subst hx
    go_wp2_with fail
    refine (pick_any 2 (by omega) (by omega) R _ (by omega) _ (hr3.alloc _)).mono ?_
    rintro e w4 ⟨y, rfl, y0, y1, hr4, hg4⟩
    have hs := new_block hg4 hr3.lt
    have hc0 : w4.cell? ⟨w3.heap.size, 0, none⟩ = some (.int .i64 (-1)) := cell_of_row w4 _ 0 _ _ _ hs
    have hc1 : w4.cell? ⟨w3.heap.size, 1, none⟩ = some (.int .i64 (4)) := cell_of_row w4 _ 1 _ _ _ hs
    have hg34 := grown_trans (World.grownBy_alloc w3 _ _) hg4
    obtain ⟨c0, c1, c2, c3, e0, e1, e2, e3⟩ := blk4 ((hg34.block g hg3 (fun e => by injection e; omega)).trans HG3.out)
    obtain ⟨d0, d1, d2, d3, f0, f1, f2, f3⟩ := blk4 ((hg34.block w.heap.size (by omega) (fun e => by injection e; omega)).trans HQ3.out)
    have HE := Lib.hid (HB3.out.trans (grown_old hg34 (by omega) (by omega)))
    clear hs hg4 hg34 hr3 hr4 HB3 HQ3 HG3
    rcases (show y = 0 ∨ y = 1 by omega) with rfl | rfl
    · go_wp2
      refine bodyPost_ret (v := Pn.val ⟨p.area, -1, p.sex, p.pay⟩) (by simp [results, Try.results14, go_sem, d0, d1, d2, d3]) rfl ?_
      exact ⟨⟨p.area, -1, p.sex, p.pay⟩, rfl, ((((HE.out.setCell (show w.heap.size ≤ g by omega) _).setCell (Nat.le_refl _) _).setCell (Nat.le_refl _) _).setCell (Nat.le_refl _) _).setCell (Nat.le_refl _) _⟩
    · go_wp2
      refine bodyPost_ret (v := Pn.val ⟨p.area, 4, p.sex, p.pay⟩) (by simp [results, Try.results14, go_sem, d0, d1, d2, d3]) rfl ?_
      exact ⟨⟨p.area, 4, p.sex, p.pay⟩, rfl, ((((HE.out.setCell (show w.heap.size ≤ g by omega) _).setCell (Nat.le_refl _) _).setCell (Nat.le_refl _) _).setCell (Nat.le_refl _) _).setCell (Nat.le_refl _) _⟩
  · by_cases hx1 : x = 1
    · subst hx1
      go_wp2_with fail
      refine (pick_any 3 (by omega) (by omega) R _ (by omega) _ (hr3.alloc _)).mono ?_
      rintro e w4 ⟨y, rfl, y0, y1, hr4, hg4⟩
      have hs := new_block hg4 hr3.lt
      have hc0 : w4.cell? ⟨w3.heap.size, 0, none⟩ = some (.int .i64 (-1)) := cell_of_row w4 _ 0 _ _ _ hs
      have hc1 : w4.cell? ⟨w3.heap.size, 1, none⟩ = some (.int .i64 (1000)) := cell_of_row w4 _ 1 _ _ _ hs
      have hc2 : w4.cell? ⟨w3.heap.size, 2, none⟩ = some (.int .i64 (999)) := cell_of_row w4 _ 2 _ _ _ hs
      have hg34 := grown_trans (World.grownBy_alloc w3 _ _) hg4
      obtain ⟨c0, c1, c2, c3, e0, e1, e2, e3⟩ := blk4 ((hg34.block g hg3 (fun e => by injection e; omega)).trans HG3.out)
      obtain ⟨d0, d1, d2, d3, f0, f1, f2, f3⟩ := blk4 ((hg34.block w.heap.size (by omega) (fun e => by injection e; omega)).trans HQ3.out)
      have HE := Lib.hid (HB3.out.trans (grown_old hg34 (by omega) (by omega)))
      clear hs hg4 hg34 hr3 hr4 HB3 HQ3 HG3
      rcases (show y = 0 ∨ y = 1 ∨ y = 2 by omega) with rfl | rfl | rfl
      · go_wp2
        refine bodyPost_ret (v := Pn.val ⟨p.area, p.job, p.sex, -1⟩) (by simp [results, Try.results14, go_sem, d0, d1, d2, d3]) rfl ?_
        exact ⟨⟨p.area, p.job, p.sex, -1⟩, rfl, ((((HE.out.setCell (show w.heap.size ≤ g by omega) _).setCell (Nat.le_refl _) _).setCell (Nat.le_refl _) _).setCell (Nat.le_refl _) _).setCell (Nat.le_refl _) _⟩
      · go_wp2
        refine bodyPost_ret (v := Pn.val ⟨p.area, p.job, p.sex, 1000⟩) (by simp [results, Try.results14, go_sem, d0, d1, d2, d3]) rfl ?_
        exact ⟨⟨p.area, p.job, p.sex, 1000⟩, rfl, ((((HE.out.setCell (show w.heap.size ≤ g by omega) _).setCell (Nat.le_refl _) _).setCell (Nat.le_refl _) _).setCell (Nat.le_refl _) _).setCell (Nat.le_refl _) _⟩
      · go_wp2
        refine bodyPost_ret (v := Pn.val ⟨p.area, p.job, p.sex, 999⟩) (by simp [results, Try.results14, go_sem, d0, d1, d2, d3]) rfl ?_
        exact ⟨⟨p.area, p.job, p.sex, 999⟩, rfl, ((((HE.out.setCell (show w.heap.size ≤ g by omega) _).setCell (Nat.le_refl _) _).setCell (Nat.le_refl _) _).setCell (Nat.le_refl _) _).setCell (Nat.le_refl _) _⟩
    · obtain ⟨c0, c1, c2, c3, e0, e1, e2, e3⟩ := blk4 HG3.out
      obtain ⟨d0, d1, d2, d3, f0, f1, f2, f3⟩ := blk4 HQ3.out
      go_wp2
      refine bodyPost_ret (v := p.val) (by simp [results, Try.results14, go_sem, d0, d1, d2, d3]) rfl ?_
      exact ⟨p, rfl, (((HB3.out.setCell (Nat.le_refl _) _).setCell (Nat.le_refl _) _).setCell (Nat.le_refl _) _).setCell (Nat.le_refl _) _⟩
end Go.Proofs.Ytcfcimfhpbjjnaa
