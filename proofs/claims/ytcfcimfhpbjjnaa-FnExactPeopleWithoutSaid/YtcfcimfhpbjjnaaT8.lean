import Derived.Test.YtcfcimfhpbjjnaaT7
namespace Go.Proofs.Ytcfcimfhpbjjnaa
open Go.RowKit
/-- The reader in block R has read at most q times. -/
def RdN (w : World) (R q : Nat) : Prop := ∃ A n c p, Rd w R A n c p ∧ p ≤ q
theorem RdN.lt {w : World} {R q : Nat} (h : RdN w R q) : R < w.heap.size := by obtain ⟨_, _, _, _, h, _⟩ := h; exact h.lt
theorem RdN.more {w : World} {R q q' : Nat} (h : RdN w R q) (hq : q ≤ q') : RdN w R q' := by obtain ⟨A, n, c, p, h, hp⟩ := h; exact ⟨A, n, c, p, h, by omega⟩
theorem RdN.keep {w w' : World} {R q : Nat} (h : RdN w R q) (hb : Below (R + 1) w w') : RdN w' R q := by
  obtain ⟨A, n, c, p, h, hp⟩ := h
  refine ⟨A, n, c, p, ⟨?_, h.2.1, h.2.2.1, h.2.2.2.below hb (by omega)⟩, hp⟩
  rw [hb.block R (by omega)]; exact h.1
theorem RdN.alloc {w : World} {R q : Nat} (h : RdN w R q) (o : Obj) : RdN (w.alloc o) R q := h.keep ((Below.refl _ _).alloc h.lt o)
theorem RdN.setCell {w : World} {R q : Nat} (h : RdN w R q) {a : Addr} (ha : R < a.block) (v : Value) : RdN (w.setCell a v) R q := h.keep ((Below.refl _ _).setCell ha v)
theorem RdN.drewN {w : World} {R q : Nat} (h : RdN w R q) (k : Nat) : RdN (w.drewN k) R q := h
theorem RdN.grown {w w' : World} {R q : Nat} {row : Option Nat} (h : RdN w R q) (hg : w.grownBy w' row) (hr : ∀ k, row = some k → R < k) : RdN w' R q := by
  obtain ⟨A, n, c, p, h, hp⟩ := h
  have hl := h.lt
  refine ⟨A, n, c, p, ⟨?_, h.2.1, h.2.2.1, ?_⟩, hp⟩
  · rw [hg.block R hl (fun e => by have := hr _ e.symm; omega)]; exact h.1
  · exact h.2.2.2.keep fun b o hb => World.cell?_of_block (w := w) (a := ⟨b, o, none⟩) (hg.block b (by omega) (fun e => by have := hr _ e.symm; omega))
theorem grown_trans {a b c : World} {row : Option Nat} (h : a.grownBy b row) (k : b.grownBy c row) : a.grownBy c row :=
  ⟨k.os.trans h.os, k.tape.trans h.tape, k.output.trans h.output, Nat.le_trans h.size k.size, fun i hi hne => (k.block i (Nat.lt_of_lt_of_le hi h.size) hne).trans (h.block i hi hne)⟩
theorem grown_alloc {a b : World} {row : Option Nat} (h : a.grownBy b row) (o : Obj) : a.grownBy (b.alloc o) row := grown_trans h (World.grownBy_alloc b o row)
theorem grown_set {a b : World} {R : Nat} (h : a.grownBy b (some R)) {p : Addr} (hp : p.block = R ∨ a.heap.size ≤ p.block) (v : Value) : a.grownBy (b.setCell p v) (some R) :=
  ⟨h.os, h.tape, h.output, by simpa [World.setCell] using h.size, fun i hi hne => (Below.heap_setCell b p v i (by
    rintro rfl
    rcases hp with hp | hp
    · exact hne (by rw [hp])
    · omega)).trans (h.block i hi hne)⟩
theorem grown_draws {a b : World} {row : Option Nat} (h : a.grownBy b row) (k : Nat) : a.grownBy (b.drewN k) row := ⟨h.os, h.tape, h.output, h.size, h.block⟩
theorem grown_below {a b c : World} {row : Option Nat} (h : a.grownBy b row) (k : Below b.heap.size b c) : a.grownBy c row :=
  ⟨k.os.trans h.os, k.tape.trans h.tape, k.output.trans h.output, Nat.le_trans h.size k.size, fun i hi hne => (k.block i (Nat.lt_of_lt_of_le hi h.size)).trans (h.block i hi hne)⟩
theorem grown_old {a b : World} {R B : Nat} (h : a.grownBy b (some R)) (hB : B ≤ R) (hs : B ≤ a.heap.size) : Below B a b :=
  ⟨h.os, h.tape, h.output, h.size, fun k hk => h.block k (by omega) (fun e => by injection e; omega)⟩
theorem new_block {w w' : World} {cs : Array Value} {t : TypeId} {R : Nat} (h : (w.alloc (.cells cs t)).grownBy w' (some R)) (hR : R < w.heap.size) : w'.heap[w.heap.size]? = some (.cells cs t (0, 0)) := by
  rw [h.block w.heap.size (by simp) (fun e => by injection e; omega)]; exact heap_alloc_new w _
/-- What a pick hands back. -/
def Picked (n : Int) (R q : Nat) (w : World) (e : Ending) (w' : World) : Prop :=
  ∃ v : Int, e = .returned (.int .i64 v) ∧ 0 ≤ v ∧ v < n ∧ RdN w' R (q + 1) ∧ w.grownBy w' (some R)
theorem pick_any (n : Int) (h : 1 ≤ n) (hm : n ≤ 1000000) (R q : Nat) (hq : q < 1000000) (w : World) (hr : RdN w R q) :
    Calls Try.prog 38 #[.pointer (some ⟨R, 0, none⟩), .int .i64 n] w (Picked n R q w) := by
  obtain ⟨A, m, c, p, hr, hp⟩ := hr
  refine (pick_one n h hm R A m c p w hr).mono ?_
  rintro e w' ⟨⟨v, rfl, v0, v1⟩, k, rfl⟩
  refine ⟨v, rfl, v0, v1, ⟨A, m, c, p + 1, ⟨?_, hr.2.1, by omega, ?_⟩, by omega⟩, grown_draws (grown_set (World.grownBy.refl _ _) (.inl rfl) _) k⟩
  · show (w.setCell ⟨R, 1, none⟩ (.int .i64 (p + 1))).heap[R]? = _
    have := hr.1
    simp [World.setCell, Array.getElem?_modify, this]
  · refine hr.2.2.2.keep fun b o hb => ?_
    exact World.cell?_of_block (w := w) (a := ⟨b, o, none⟩) (Below.heap_setCell w ⟨R, 1, none⟩ _ b (by show b ≠ R; omega))
def Drawn (R q : Nat) (w : World) (e : Ending) (w' : World) : Prop :=
  ∃ p : Pn, e = .returned p.val ∧ okP p = true ∧ RdN w' R (q + 5) ∧ w.grownBy w' (some R)
theorem person_any (R q : Nat) (hq : q + 5 < 1000000) (w : World) (hr : RdN w R q) :
    Calls Try.prog 37 #[.pointer (some ⟨R, 0, none⟩)] w (Drawn R q w) := by
  have hR := hr.lt
  go_enter Try.func37, Try.ntmps37
  go_wp2_with fail
  refine (pick_any 4 (by omega) (by omega) R q (by omega) _ (hr.alloc _)).mono ?_
  rintro e w1 ⟨v1, rfl, a1, b1, hr1, hg1⟩
  go_wp2_with fail
  refine (pick_any 3 (by omega) (by omega) R (q + 1) (by omega) _ hr1).mono ?_
  rintro e w2 ⟨v2, rfl, a2, b2, hr2, hg2⟩
  go_wp2_with fail
  refine (pick_any 2 (by omega) (by omega) R (q + 2) (by omega) _ hr2).mono ?_
  rintro e w3 ⟨v3, rfl, a3, b3, hr3, hg3⟩
  go_wp2_with fail
  refine (pick_any 10 (by omega) (by omega) R (q + 3) (by omega) _ hr3).mono ?_
  rintro e w4 ⟨v4, rfl, a4, b4, hr4, hg4⟩
  go_wp2_with fail
  refine (pick_any 100 (by omega) (by omega) R (q + 4) (by omega) _ hr4).mono ?_
  rintro e w5 ⟨v5, rfl, a5, b5, hr5, hg5⟩
  have hg := grown_trans (grown_trans (grown_trans (grown_trans hg1 hg2) hg3) hg4) hg5
  have hblk := new_block hg hR
  have HB := Lib.hid hblk; clear hblk
  have HG := Lib.hid hg; clear hg
  have HR5 := Lib.hid hr5; clear hr5
  clear hr1 hr2 hr3 hr4 hg1 hg2 hg3 hg4 hg5
  have c0 := cell_of_row w5 w.heap.size 0 _ _ _ HB.out
  have c1 := cell_of_row w5 w.heap.size 1 _ _ _ HB.out
  have c2 := cell_of_row w5 w.heap.size 2 _ _ _ HB.out
  have c3 := cell_of_row w5 w.heap.size 3 _ _ _ HB.out
  have f0 := frozen_of_row w5 w.heap.size 0 _ _ HB.out
  have f1 := frozen_of_row w5 w.heap.size 1 _ _ HB.out
  have f2 := frozen_of_row w5 w.heap.size 2 _ _ HB.out
  have f3 := frozen_of_row w5 w.heap.size 3 _ _ HB.out
  go_wp2
  refine bodyPost_ret (v := Pn.val ⟨v1, v2, v3, v4 * 100 + v5⟩) (by simp [results, Try.results37, go_sem, c0, c1, c2, c3]) rfl ?_
  refine ⟨⟨v1, v2, v3, v4 * 100 + v5⟩, rfl, ?_, ?_, ?_⟩
  · simp [okP, inC]; omega
  · have h4 := (((HR5.out.setCell (a := ⟨w.heap.size, 0, none⟩) hR (.int .i64 v1)).setCell (a := ⟨w.heap.size, 1, none⟩) hR (.int .i64 v2)).setCell (a := ⟨w.heap.size, 2, none⟩) hR (.int .i64 v3)).setCell (a := ⟨w.heap.size, 3, none⟩) hR (.int .i64 (v4 * 100 + v5))
    exact h4
  · have g := grown_trans (World.grownBy_alloc w (.cells #[.int .i64 0, .int .i64 0, .int .i64 0, .int .i64 0] 24) (some R)) HG.out
    exact grown_set (grown_set (grown_set (grown_set g (p := ⟨w.heap.size, 0, none⟩) (.inr (Nat.le_refl _)) _) (p := ⟨w.heap.size, 1, none⟩) (.inr (Nat.le_refl _)) _) (p := ⟨w.heap.size, 2, none⟩) (.inr (Nat.le_refl _)) _) (p := ⟨w.heap.size, 3, none⟩) (.inr (Nat.le_refl _)) _
end Go.Proofs.Ytcfcimfhpbjjnaa
