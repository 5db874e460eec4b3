/- Drawing a ladder and recodings. -/
import Derived.Test.YtfcbnfemnfnadaaG7
import Derived.Test.YtfcbnfemnfnadaaIR
namespace Go.Proofs.Ytfcbnfemnfnadaa
open Go.RowKit
theorem OwnLL.same {w w' : World} {B L : Nat} {v : Value} {ll : List (List Int)} (h : OwnLL w B L v ll) (hz : w.heap.size ≤ w'.heap.size) (hk : ∀ k, (B ≤ k ∨ L ≤ k) → k < w.heap.size → w'.heap[k]? = w.heap[k]?) : OwnLL w' B L v ll := by
  obtain ⟨hs, h1, h2⟩ := h
  exact ⟨hs, h1.same fun k e => hk k (.inl (h1.ob k e).1) (h1.ob k e).2, h2.keep hz fun b hb hlt hne => ⟨hk b (.inr hb) hlt, hne⟩⟩
theorem OwnLL.isRx {w : World} {B L : Nat} {v : Value} {ll : List (List Int)} (h : OwnLL w B L v ll) : IsR w v ll := by
  obtain ⟨A, c, hv, h1, h2, h3⟩ := h.form
  exact ⟨A, c, hv, h1, h2, h3⟩
/-- What was made between w1 and w2 is as it was, and so is all that w has. -/
def FM (w w1 w2 w' : World) : Prop := w2.heap.size ≤ w'.heap.size ∧ (∀ k, w1.heap.size ≤ k → k < w2.heap.size → w'.heap[k]? = w2.heap[k]?) ∧ Below w.heap.size w w'
section
variable {w w1 w2 w' w'' : World} {R : Nat}
theorem FM.grown (h : FM w w1 w2 w') (hg : w'.grownBy w'' (some R)) (h1 : w.heap.size ≤ R) (h2 : R < w1.heap.size) : FM w w1 w2 w'' :=
  ⟨Nat.le_trans h.1 hg.size, fun k a b => (hg.block k (Nat.lt_of_lt_of_le b h.1) (fun e => by injection e; omega)).trans (h.2.1 k a b), h.2.2.trans (grown_old hg h1 h.2.2.size)⟩
theorem FM.alloc (h : FM w w1 w2 w') (o : Obj) : FM w w1 w2 (w'.alloc o) :=
  ⟨by simp; have := h.1; omega, fun k a b => ((Below.refl _ w').alloc (Nat.le_refl _) o |>.block k (Nat.lt_of_lt_of_le b h.1)).trans (h.2.1 k a b), h.2.2.alloc h.2.2.size o⟩
theorem FM.set (h : FM w w1 w2 w') (p : Addr) (hp : w.heap.size ≤ p.block) (hq : p.block < w1.heap.size ∨ w2.heap.size ≤ p.block) (v : Value) : FM w w1 w2 (w'.setCell p v) :=
  ⟨by simpa [World.setCell] using h.1, fun k a b => (Below.heap_setCell w' p v k (by omega)).trans (h.2.1 k a b), h.2.2.setCell hp v⟩
theorem FM.drew (h : FM w w1 w2 w') : FM w w1 w2 w'.drew := ⟨h.1, h.2.1, h.2.2.drew⟩
end
def DrawnR1 (w : World) (e : Ending) (w' : World) : Prop := ∃ ll u a, e = .returned (.tuple #[u, Rc.val a]) ∧ IsR w' u ll ∧ ll.length ≤ 4 ∧ Below w.heap.size w w'
def DrawnR2 (w : World) (e : Ending) (w' : World) : Prop := ∃ ll u a b, e = .returned (.tuple #[u, Rc.val a, Rc.val b]) ∧ IsR w' u ll ∧ ll.length ≤ 4 ∧ Below w.heap.size w w'
theorem end1 {w w1 w2 w' : World} {u : Value} {ll : List (List Int)} {a : Rc} (h : FM w w1 w2 w') (ho : OwnLL w2 w1.heap.size w1.heap.size u ll) (hl : ll.length ≤ 4) : DrawnR1 w (.returned (.tuple #[u, Rc.val a])) w' :=
  ⟨ll, u, a, rfl, (ho.same h.1 fun k a b => h.2.1 k (by omega) b).isRx, hl, h.2.2⟩
theorem end2 {w w1 w2 w' : World} {u : Value} {ll : List (List Int)} {a b : Rc} (h : FM w w1 w2 w') (ho : OwnLL w2 w1.heap.size w1.heap.size u ll) (hl : ll.length ≤ 4) : DrawnR2 w (.returned (.tuple #[u, Rc.val a, Rc.val b])) w' :=
  ⟨ll, u, a, b, rfl, (ho.same h.1 fun k a b => h.2.1 k (by omega) b).isRx, hl, h.2.2⟩
theorem end2x {w w1 w2 w' : World} {u : Value} {ll : List (List Int)} {a b c x y z : Int} (h : FM w w1 w2 w') (ho : OwnLL w2 w1.heap.size w1.heap.size u ll) (hl : ll.length ≤ 4) :
    DrawnR2 w (.returned (.tuple #[u, .agg #[.int .i64 a, .int .i64 b, .int .i64 c], .agg #[.int .i64 x, .int .i64 y, .int .i64 z]])) w' := end2 (a := ⟨a, b, c⟩) (b := ⟨x, y, z⟩) h ho hl
set_option maxHeartbeats 2000000 in
theorem dRcValid_any (A : Option Addr) (n c : Nat) (hnc : n ≤ c) (hn : n ≤ maxLen) (w : World) (hb : Bytes w w.heap.size A n) :
    Calls Try.prog 21 #[.slice A n c] w (DrawnR1 w) := by
  have hB := (Below.refl w.heap.size w).alloc (Nat.le_refl _) (.cells #[.int .i64 0, .int .i64 0, .int .i64 0] TRc)
  have hG := heap_alloc_new w (.cells #[.int .i64 0, .int .i64 0, .int .i64 0] TRc)
  have hS : (w.alloc (.cells #[.int .i64 0, .int .i64 0, .int .i64 0] TRc)).heap.size = w.heap.size + 1 := by simp
  go_enter Try.func21, Try.ntmps21
  go_wp2_with fail
  refine (l6Open_any A n c hnc hn _ ((hb.below hB (Nat.le_refl _)).more hB.size)).mono ?_
  rintro e w1 ⟨rfl, ⟨n', c', hr⟩, hb1⟩
  rw [hS] at hr hb1 ⊢
  have hr1 : RdN w1 (w.heap.size + 1) 0 := ⟨_, _, _, _, hr, Nat.le_refl _⟩
  have hR := hr1.lt
  have hG1 := (hb1.block w.heap.size (by omega)).trans hG
  have HB1 := Lib.hid (hB.trans (hb1.mono (by omega)))
  clear hr hb hb1 hB hG hS
  go_wp2_with fail
  refine (ladder_any (w.heap.size + 1) 0 (by omega) _ hr1).mono ?_
  rintro e w2 ⟨u, ll, rfl, ho, hl, hr2, hg2⟩
  obtain ⟨Al, cl, hv, hc1, hc2, _⟩ := ho.form
  subst hv
  have hF2 : FM w w1 w2 w2 := ⟨Nat.le_refl _, fun _ _ _ => rfl, HB1.out.trans (grown_old hg2 (by omega) HB1.out.size)⟩
  have hG2 := grown_blk hg2 hG1 (by omega)
  go_wp2_with fail
  refine (recode_any (w.heap.size + 1) _ (by omega) Al ll.length cl (by omega) _ hr2).mono ?_
  rintro e w3 ⟨a, rfl, hia, hr3, hg3⟩
  have hF3 := hF2.grown hg3 (by omega) hR
  have hG3 := grown_blk hg3 hG2 (by omega)
  have HF4 := Lib.hid (hF3.alloc (.cells #[.int .i64 a.area, .int .i64 a.job, .int .i64 a.sex] TRc))
  have hQ4 := heap_alloc_new w3 (.cells #[.int .i64 a.area, .int .i64 a.job, .int .i64 a.sex] TRc)
  have hG4 := keep1 (o := .cells #[.int .i64 a.area, .int .i64 a.job, .int .i64 a.sex] TRc) hG3
  have hz3 : w2.heap.size ≤ w3.heap.size := hF3.1
  have hz2 : w1.heap.size ≤ w2.heap.size := hg2.size
  have HO := Lib.hid ho
  clear ho hF2 hF3 hg2 hg3 hG1 hG2 hG3 hr1 hr2
  go_wp2_with fail
  refine (pick_any 8 (by omega) (by omega) (w.heap.size + 1) _ (by omega) _ (hr3.alloc _)).mono ?_
  rintro e w5 ⟨y, rfl, y0, y1, hr5, hg5⟩
  have HF5 := Lib.hid (HF4.out.grown hg5 (by omega) hR)
  have hQ5 := grown_blk hg5 hQ4 (by omega)
  have hG5 := grown_blk hg5 hG4 (by omega)
  obtain ⟨c0, c1, c2, f0, f1, f2⟩ := blk3 hQ5
  obtain ⟨d0, d1, d2, e0, e1, e2⟩ := blk3 hG5
  have hn1 : ¬ w3.heap.size = w.heap.size := by omega
  have hn2 : ¬ w.heap.size = w3.heap.size := by omega
  have hz5 : w3.heap.size < w5.heap.size := (Array.getElem?_eq_some_iff.1 hQ5).1
  clear hQ5 hG5 hQ4 hG4 hg5 hr3 hr5 hia
  by_cases hy : y = 0
  · subst hy
    go_wp2
    go_region
    all_goals
      go_wp2
      refine bodyPost_ret (v := .tuple #[.slice Al ll.length cl, Rc.val ⟨a.area, a.job, -1⟩]) (by simp [results, Try.results21, go_sem, *]) rfl ?_
      exact end1 (a := ⟨a.area, a.job, -1⟩) (FM.drew ((((HF5.out.set ⟨w3.heap.size, 2, none⟩ (by simp; omega) (.inr hz3) _).set ⟨w.heap.size, 0, none⟩ (Nat.le_refl _) (.inl (by simp; omega)) _).set ⟨w.heap.size, 1, none⟩ (Nat.le_refl _) (.inl (by simp; omega)) _).set ⟨w.heap.size, 2, none⟩ (Nat.le_refl _) (.inl (by simp; omega)) _)) HO.out hl
  · have hyb : (y == 0) = false := by rw [beq_eq_false_iff_ne]; exact hy
    clear hy
    go_wp2
    go_region
    all_goals
      go_wp2
      refine bodyPost_ret (v := .tuple #[.slice Al ll.length cl, Rc.val a]) (by simp [results, Try.results21, go_sem, *]) rfl ?_
      exact end1 (FM.drew (((HF5.out.set ⟨w.heap.size, 0, none⟩ (Nat.le_refl _) (.inl (by simp; omega)) _).set ⟨w.heap.size, 1, none⟩ (Nat.le_refl _) (.inl (by simp; omega)) _).set ⟨w.heap.size, 2, none⟩ (Nat.le_refl _) (.inl (by simp; omega)) _)) HO.out hl
set_option maxHeartbeats 8000000 in
theorem dRcFiner_any (A : Option Addr) (n c : Nat) (hnc : n ≤ c) (hn : n ≤ maxLen) (w : World) (hb : Bytes w w.heap.size A n) :
    Calls Try.prog 24 #[.slice A n c] w (DrawnR2 w) := by
  have hB := ((Below.refl w.heap.size w).alloc (Nat.le_refl _) (.cells #[.int .i64 0, .int .i64 0, .int .i64 0] TRc)).alloc (by simp) (.cells #[.int .i64 0, .int .i64 0, .int .i64 0] TRc)
  have hG := keep1 (o := .cells #[.int .i64 0, .int .i64 0, .int .i64 0] TRc) (heap_alloc_new w (.cells #[.int .i64 0, .int .i64 0, .int .i64 0] TRc))
  have hH := alloc_at (w.alloc (.cells #[.int .i64 0, .int .i64 0, .int .i64 0] TRc)) (.cells #[.int .i64 0, .int .i64 0, .int .i64 0] TRc) (w.heap.size + 1) (by simp)
  have hS : ((w.alloc (.cells #[.int .i64 0, .int .i64 0, .int .i64 0] TRc)).alloc (.cells #[.int .i64 0, .int .i64 0, .int .i64 0] TRc)).heap.size = w.heap.size + 2 := by simp
  go_enter Try.func24, Try.ntmps24
  go_wp2_with fail
  refine (l6Open_any A n c hnc hn _ ((hb.below hB (Nat.le_refl _)).more hB.size)).mono ?_
  rintro e w1 ⟨rfl, ⟨n', c', hr⟩, hb1⟩
  rw [hS] at hr hb1 ⊢
  have hr1 : RdN w1 (w.heap.size + 2) 0 := ⟨_, _, _, _, hr, Nat.le_refl _⟩
  have hR := hr1.lt
  have hG1 := (hb1.block w.heap.size (by omega)).trans hG
  have hH1 := (hb1.block (w.heap.size + 1) (by omega)).trans hH
  have HB1 := Lib.hid (hB.trans (hb1.mono (by omega)))
  clear hr hb hb1 hB hG hH hS
  go_wp2_with fail
  refine (ladder_any (w.heap.size + 2) 0 (by omega) _ hr1).mono ?_
  rintro e w2 ⟨u, ll, rfl, ho, hl, hr2, hg2⟩
  obtain ⟨Al, cl, hv, hc1, hc2, _⟩ := ho.form
  subst hv
  have hF2 : FM w w1 w2 w2 := ⟨Nat.le_refl _, fun _ _ _ => rfl, HB1.out.trans (grown_old hg2 (by omega) HB1.out.size)⟩
  have hG2 := grown_blk hg2 hG1 (by omega)
  have hH2 := grown_blk hg2 hH1 (by omega)
  go_wp2_with fail
  refine (recode_any (w.heap.size + 2) _ (by omega) Al ll.length cl (by omega) _ hr2).mono ?_
  rintro e w3 ⟨a, rfl, hia, hr3, hg3⟩
  have hF4 := (hF2.grown hg3 (by omega) hR).alloc (.cells #[.int .i64 a.area, .int .i64 a.job, .int .i64 a.sex] TRc)
  have hz3 : w2.heap.size ≤ w3.heap.size := (hF2.grown hg3 (by omega) hR).1
  have hQ4 := heap_alloc_new w3 (.cells #[.int .i64 a.area, .int .i64 a.job, .int .i64 a.sex] TRc)
  have hG4 := keep1 (o := .cells #[.int .i64 a.area, .int .i64 a.job, .int .i64 a.sex] TRc) (grown_blk hg3 hG2 (by omega))
  have hH4 := keep1 (o := .cells #[.int .i64 a.area, .int .i64 a.job, .int .i64 a.sex] TRc) (grown_blk hg3 hH2 (by omega))
  have hz2 : w1.heap.size ≤ w2.heap.size := hg2.size
  have HO := Lib.hid ho
  have hr4 : RdN (w3.alloc (.cells #[.int .i64 a.area, .int .i64 a.job, .int .i64 a.sex] TRc)) (w.heap.size + 2) _ := hr3.alloc _
  have hs4 : (w3.alloc (.cells #[.int .i64 a.area, .int .i64 a.job, .int .i64 a.sex] TRc)).heap.size = w3.heap.size + 1 := by simp
  clear ho hF2 hg2 hg3 hG1 hG2 hH1 hH2 hr1 hr2 hr3
  go_wp2_with fail
  refine (recode_any (w.heap.size + 2) _ (by omega) Al ll.length cl (by omega) _ hr4).mono ?_
  rintro e w5 ⟨b, rfl, hib, hr5, hg5⟩
  have hF6 := (hF4.grown hg5 (by omega) hR).alloc (.cells #[.int .i64 b.area, .int .i64 b.job, .int .i64 b.sex] TRc)
  have hz5 : w3.heap.size < w5.heap.size := by have := hg5.size; omega
  have hP6 := heap_alloc_new w5 (.cells #[.int .i64 b.area, .int .i64 b.job, .int .i64 b.sex] TRc)
  have hQ6 := keep1 (o := .cells #[.int .i64 b.area, .int .i64 b.job, .int .i64 b.sex] TRc) (grown_blk hg5 hQ4 (by omega))
  have hG6 := keep1 (o := .cells #[.int .i64 b.area, .int .i64 b.job, .int .i64 b.sex] TRc) (grown_blk hg5 hG4 (by omega))
  have hH6 := keep1 (o := .cells #[.int .i64 b.area, .int .i64 b.job, .int .i64 b.sex] TRc) (grown_blk hg5 hH4 (by omega))
  have hr6 := hr5.alloc (.cells #[.int .i64 b.area, .int .i64 b.job, .int .i64 b.sex] TRc)
  have HF6 := Lib.hid hF6
  clear hF4 hQ4 hG4 hH4 hg5 hr4 hr5 hF6
  go_wp2_with fail
  refine (pick_any 2 (by omega) (by omega) (w.heap.size + 2) _ (by omega) _ hr6).mono ?_
  rintro e w7 ⟨y, rfl, y0, y1, hr7, hg7⟩
  have HF7 := Lib.hid (HF6.out.grown hg7 (by omega) hR)
  obtain ⟨c0, c1, c2, f0, f1, f2⟩ := blk3 (grown_blk hg7 hQ6 (by omega))
  obtain ⟨p0, p1, p2, g0, g1, g2⟩ := blk3 (grown_blk hg7 hP6 (by omega))
  obtain ⟨d0, d1, d2, e0, e1, e2⟩ := blk3 (grown_blk hg7 hG6 (by omega))
  obtain ⟨k0, k1, k2, m0, m1, m2⟩ := blk3 (grown_blk hg7 hH6 (by omega))
  have hn1 : ¬ w3.heap.size = w.heap.size := by omega
  have hn2 : ¬ w.heap.size = w3.heap.size := by omega
  have hn3 : ¬ w3.heap.size = w.heap.size + 1 := by omega
  have hn4 : ¬ w.heap.size + 1 = w3.heap.size := by omega
  have hn5 : ¬ w5.heap.size = w.heap.size := by omega
  have hn6 : ¬ w.heap.size = w5.heap.size := by omega
  have hn7 : ¬ w5.heap.size = w.heap.size + 1 := by omega
  have hn8 : ¬ w.heap.size + 1 = w5.heap.size := by omega
  have hn9 : ¬ w3.heap.size = w5.heap.size := by omega
  have hn10 : ¬ w5.heap.size = w3.heap.size := by omega
  have hz7 : w5.heap.size < w7.heap.size := by have := hg7.size; simp at this; omega
  clear hQ6 hP6 hG6 hH6 hg7 hr6 hr7 hia hib HF6
  have hcase : (y == 0) = true ∨ (y == 0) = false := by cases y == 0 <;> simp
  rcases hcase with hy | hy
  · go_wp2
    all_goals
      go_region
      all_goals
        go_wp2
        refine bodyPost_ret (v := ?_) ?h rfl ?_
        case h => simp [results, Try.results24, go_sem, d0, d1, d2, k0, k1, k2]; rfl
        exact end2x (by repeat (first | with_reducible exact HF7.out | with_reducible refine FM.drew ?_ | with_reducible refine FM.set ?_ _ (by first | (simp; done) | (simp; omega)) (by first | (left; simp; omega) | (right; simp; omega)) _)) HO.out hl
  · go_wp2
    go_region
    all_goals
      go_wp2
      refine bodyPost_ret (v := .tuple #[.slice Al ll.length cl, Rc.val a, Rc.val b]) (by simp [results, Try.results24, go_sem, d0, d1, d2, k0, k1, k2]) rfl ?_
      exact end2x (by repeat (first | with_reducible exact HF7.out | with_reducible refine FM.drew ?_ | with_reducible refine FM.set ?_ _ (by first | (simp; done) | (simp; omega)) (by first | (left; simp; omega) | (right; simp; omega)) _)) HO.out hl
end Go.Proofs.Ytfcbnfemnfnadaa
