/- Drawing people, a ladder, a recoding and an index. -/
import Derived.Test.YtbbgakbobefplaaG9
namespace Go.Proofs.Ytbbgakbobefplaa
open Go.RowKit
def AtDrawn (R q : Nat) (w : World) (e : Ending) (w' : World) : Prop :=
  ∃ l v ll u r, ∃ k : Int, e = .returned (.tuple #[v, u, Rc.val r, .int .i64 k]) ∧ Own w' w.heap.size v l ∧ OwnLL w' w.heap.size w.heap.size u ll ∧ l.length ≤ 10 ∧ ll.length ≤ 4 ∧ (∀ p ∈ l, Bd p) ∧ RcIn ll.length r ∧ -1 ≤ k ∧ k ≤ l.length ∧ RdN w' R (q + 210) ∧ w.grownBy w' (some R)
/-- What is known when the index is drawn. -/
def AtMid (R q : Nat) (l : List Pn) (v : Value) (ll : List (List Int)) (u : Value) (w w3 : World) : Prop :=
  Own w3 (w.heap.size + 1) v l ∧ OwnLL w3 (w.heap.size + 1) (w.heap.size + 1) u ll ∧ RdN w3 R (q + 210) ∧ w.grownBy w3 (some R)
theorem at_end {R q : Nat} {w w3 : World} {l : List Pn} {v u x y z : Value} {ll : List (List Int)} {r : Rc} {k : Int} (h : AtMid R q l v ll u w w3) (hR : R < w.heap.size) (h1 : l.length ≤ 10) (h2 : ll.length ≤ 4) (h3 : ∀ p ∈ l, Bd p) (h4 : RcIn ll.length r) (k0 : -1 ≤ k) (k1 : k ≤ l.length) :
    AtDrawn R q w (.returned (.tuple #[v, u, Rc.val r, .int .i64 k])) (((w3.setCell ⟨w.heap.size, 0, none⟩ x).setCell ⟨w.heap.size, 1, none⟩ y).setCell ⟨w.heap.size, 2, none⟩ z) := by
  obtain ⟨ho, hl, hr, hg⟩ := h
  have hk : ∀ k, v.ownBlock = some k → k ≠ w.heap.size := fun k e => by have := (World.ownsRow.lt ho k e).1; omega
  have hw : w.heap.size < w.heap.size + 1 := by omega
  exact ⟨l, v, ll, u, r, k, rfl, ownP_less (((ho.far hk 0 _).far hk 1 _).far hk 2 _) (by omega), (((hl.far hw hw 0 _).far hw hw 1 _).far hw hw 2 _).less (by omega) (by omega), h1, h2, h3, h4, k0, k1,
    ((hr.setCell (a := ⟨w.heap.size, 0, none⟩) hR _).setCell (a := ⟨w.heap.size, 1, none⟩) hR _).setCell (a := ⟨w.heap.size, 2, none⟩) hR _,
    grown_set (grown_set (grown_set hg (p := ⟨w.heap.size, 0, none⟩) (.inr (Nat.le_refl _)) _) (p := ⟨w.heap.size, 1, none⟩) (.inr (Nat.le_refl _)) _) (p := ⟨w.heap.size, 2, none⟩) (.inr (Nat.le_refl _)) _⟩
theorem AtDrawn.alloc {R q : Nat} {w w' : World} {e : Ending} (h : AtDrawn R q w e w') (o : Obj) : AtDrawn R q w e (w'.alloc o) := by
  obtain ⟨l, v, ll, u, r, k, he, ho, hl, h1, h2, h3, h4, k0, k1, hr, hg⟩ := h
  exact ⟨l, v, ll, u, r, k, he, Own.alloc ho o, hl.alloc o, h1, h2, h3, h4, k0, k1, hr.alloc o, grown_alloc hg o⟩
theorem AtMid.grown {R q : Nat} {w w3 w4 : World} {l : List Pn} {v u : Value} {ll : List (List Int)} (h : AtMid R q l v ll u w w3) (hR : R < w.heap.size) (hg : w3.grownBy w4 (some R)) (hr : RdN w4 R (q + 210)) : AtMid R q l v ll u w w4 :=
  ⟨h.1.kept hg (by omega), h.2.1.krr hg (by omega) (by omega), hr, grown_trans h.2.2.2 hg⟩
theorem AtMid.alloc {R q : Nat} {w w3 : World} {l : List Pn} {v u : Value} {ll : List (List Int)} (h : AtMid R q l v ll u w w3) (o : Obj) : AtMid R q l v ll u w (w3.alloc o) :=
  ⟨Own.alloc h.1 o, h.2.1.alloc o, h.2.2.1.alloc o, grown_alloc h.2.2.2 o⟩
theorem two_any {a b : Int} {t : TypeId} (n y : Nat) (hy : y < 2) : ∃ z, (z = a ∨ z = b) ∧ ∀ W : World, W.heap.size = n → (W.alloc (.cells #[.int .i64 a, .int .i64 b] t)).cell? ⟨n, y, none⟩ = some (.int .i64 z) := by
  rcases (show y = 0 ∨ y = 1 by omega) with rfl | rfl
  · exact ⟨a, .inl rfl, fun W h => by subst h; exact cell_of_row _ _ 0 _ _ _ (heap_alloc_new W _)⟩
  · exact ⟨b, .inr rfl, fun W h => by subst h; exact cell_of_row _ _ 1 _ _ _ (heap_alloc_new W _)⟩
set_option maxHeartbeats 8000000 in
theorem at_any (R q : Nat) (hq : q + 210 < 1000000) (w : World) (hr : RdN w R q) :
    Calls Try.prog 41 #[.pointer (some ⟨R, 0, none⟩)] w (AtDrawn R q w) := by
  have hR := hr.lt
  go_enter Try.func41, Try.ntmps41
  go_wp2_with fail
  refine (all_any R q (by omega) _ (hr.alloc _)).mono ?_
  rintro e w1 ⟨l, v, ll, u, r, rfl, ho, hlo, hl, hll, hbd, hri, hr1, hg1⟩
  have e : (w.alloc (.cells #[.int .i64 0, .int .i64 0, .int .i64 0] TRc)).heap.size = w.heap.size + 1 := by simp
  rw [e] at ho hlo
  have hG1 := grown_blk hg1 (heap_alloc_new w _) (by omega)
  have hz1 : w.heap.size < w1.heap.size := (Array.getElem?_eq_some_iff.1 hG1).1
  obtain ⟨Al, cl, hv, hlc, hcm, _, _⟩ := ho.form
  subst hv
  have HM := Lib.hid (AtMid.alloc (show AtMid R q l _ ll u w w1 from ⟨ho, hlo, hr1.more (by omega), grown_trans (World.grownBy_alloc w _ _) hg1⟩) (.cells #[.int .i64 r.area, .int .i64 r.job, .int .i64 r.sex] TRc))
  have HQ := Lib.hid (heap_alloc_new w1 (.cells #[.int .i64 r.area, .int .i64 r.job, .int .i64 r.sex] TRc))
  have HG := Lib.hid (keep1 (o := .cells #[.int .i64 r.area, .int .i64 r.job, .int .i64 r.sex] TRc) hG1)
  have hr2 : RdN (w1.alloc (.cells #[.int .i64 r.area, .int .i64 r.job, .int .i64 r.sex] TRc)) R (q + 200) := hr1.alloc _
  have HBD := Lib.hid hbd
  have HRI := Lib.hid hri
  have hQz : (w1.alloc (.cells #[.int .i64 r.area, .int .i64 r.job, .int .i64 r.sex] TRc)).heap.size = w1.heap.size + 1 := by simp
  have HQZ := Lib.hid hQz
  clear ho hlo hr1 hg1 hG1 hbd hri e hr hQz
  have HZ := Lib.hid (show R < w1.heap.size by omega)
  by_cases hl0 : l.length = 0
  · have hl0' : ((l.length : Int) == 0) = true := by rw [beq_iff_eq]; omega
    have HRD := Lib.hid (hr2.more (q' := q + 201) (by omega))
    clear hl0
    go_wp2_with fail
    clear hl0' hr2
    obtain ⟨W, hW⟩ : ∃ W, W = (w1.alloc (.cells #[.int .i64 r.area, .int .i64 r.job, .int .i64 r.sex] TRc)) := ⟨_, rfl⟩
    rw [← hW] at HM HQ HG HRD
    rw [← hW]
    clear hW
    have hWQ : w1.heap.size < W.heap.size := (Array.getElem?_eq_some_iff.1 HQ.out).1
    obtain ⟨c0, c1, c2, _, _, _⟩ := blk3 HQ.out
    obtain ⟨d0, d1, d2, e0, e1, e2⟩ := blk3 HG.out
    have hWR : R < W.heap.size := HRD.out.lt
    have hWG : w.heap.size < W.heap.size := (Array.getElem?_eq_some_iff.1 HG.out).1
    have hn7 : ¬ W.heap.size = w1.heap.size := by omega
    have hn8 : ¬ w1.heap.size = W.heap.size := by omega
    have hn1 : ¬ W.heap.size = w.heap.size := by omega
    have hn2 : ¬ w.heap.size = W.heap.size := by omega
    go_wp2
    go_region_with (first
      | (go_at_call 58
         refine (pick_any 2 (by omega) (by omega) R (q + 201) (by omega) _ (show RdN ((W.alloc (.cells #[.int .i64 (-1), .int .i64 l.length] 3)).drew) R (q + 201) from HRD.out.alloc _)).mono ?_
         rintro e w9 ⟨y, rfl, y0, y1, hr9, hg9⟩
         obtain ⟨y, rfl⟩ := Int.eq_ofNat_of_zero_le y0
         obtain ⟨z, hz, hz2⟩ := two_cell (new_block (undrew hg9) hWR) y (by omega)
         have HM9 := Lib.hid ((HM.out.alloc _).grown hR (undrew hg9) (hr9.more (by omega)))
         obtain ⟨c0', c1', c2', _, _, _⟩ := blk3 (grown_blk (undrew hg9) (keep1 HQ.out) (by have := HZ.out; omega))
         obtain ⟨d0', d1', d2', e0', e1', e2'⟩ := blk3 (grown_blk (undrew hg9) (keep1 HG.out) (by omega))
         clear hg9 hr9)
      | (go_at_call 58
         refine (pick_any 2 (by omega) (by omega) R (q + 201) (by omega) _ (show RdN W.drew R (q + 201) from HRD.out)).mono ?_
         rintro e w9 ⟨y, rfl, y0, y1, hr9, hg9⟩
         obtain ⟨y, rfl⟩ := Int.eq_ofNat_of_zero_le y0
         have hn3 : ¬ w9.heap.size = w.heap.size := by have := (undrew hg9).size; omega
         have hn4 : ¬ w.heap.size = w9.heap.size := by omega
         have hlt9 : w.heap.size < w9.heap.size := by have := (undrew hg9).size; omega
         have hlq9 : w1.heap.size < w9.heap.size := by have h5 := (undrew hg9).size; have h6 := (Array.getElem?_eq_some_iff.1 HQ.out).1; omega
         have hn5 : ¬ w1.heap.size = w9.heap.size := by omega
         have hn6 : ¬ w9.heap.size = w1.heap.size := by omega
         obtain ⟨z, hz2, hzA⟩ := two_any (a := -1) (b := l.length) (t := 3) w9.heap.size y (by omega)
         have hz := hzA w9 rfl
         have HM9 := Lib.hid (HM.out.grown hR (undrew hg9) (hr9.more (by omega)))
         obtain ⟨c0', c1', c2', _, _, _⟩ := blk3 (grown_blk (undrew hg9) HQ.out (by have := HZ.out; omega))
         obtain ⟨d0', d1', d2', e0', e1', e2'⟩ := blk3 (grown_blk (undrew hg9) HG.out (by omega))
         clear hg9 hr9))
    all_goals
      go_wp2
      refine bodyPost_ret (v := .tuple #[.slice Al l.length cl, u, r.val, .int .i64 z]) (by simp [results, Try.results41, go_sem, Act.put, *]) rfl ?_
      first
        | with_reducible exact at_end HM9.out hR hl hll HBD.out HRI.out (by omega) (by omega)
        | with_reducible exact (at_end HM9.out hR hl hll HBD.out HRI.out (by omega) (by omega)).alloc _
  · have hl0' : ((l.length : Int) == 0) = false := by rw [beq_eq_false_iff_ne]; omega
    go_wp2_with fail
    refine (pick_any 24 (by omega) (by omega) R (q + 200) (by omega) _ hr2).mono ?_
    rintro e W ⟨x, rfl, x0, x1, hrW, hgW⟩
    have HRD := Lib.hid hrW
    have HM2 := Lib.hid (HM.out.grown hR hgW (hrW.more (by omega)))
    have HQ2 := Lib.hid (grown_blk hgW HQ.out (by omega))
    have HG2 := Lib.hid (grown_blk hgW HG.out (by omega))
    clear HM HQ HG hgW hrW hr2
    have HM := HM2; have HQ := HQ2; have HG := HG2
    clear HM2 HQ2 HG2
    by_cases hx : x = 0
    · subst hx
      have hWQ : w1.heap.size < W.heap.size := (Array.getElem?_eq_some_iff.1 HQ.out).1
      obtain ⟨c0, c1, c2, _, _, _⟩ := blk3 HQ.out
      obtain ⟨d0, d1, d2, e0, e1, e2⟩ := blk3 HG.out
      have hWR : R < W.heap.size := HRD.out.lt
      have hWG : w.heap.size < W.heap.size := (Array.getElem?_eq_some_iff.1 HG.out).1
      have hn7 : ¬ W.heap.size = w1.heap.size := by omega
      have hn8 : ¬ w1.heap.size = W.heap.size := by omega
      have hn1 : ¬ W.heap.size = w.heap.size := by omega
      have hn2 : ¬ w.heap.size = W.heap.size := by omega
      go_wp2
      go_region_with (first
        | (go_at_call 58
           refine (pick_any 2 (by omega) (by omega) R (q + 201) (by omega) _ (show RdN ((W.alloc (.cells #[.int .i64 (-1), .int .i64 l.length] 3)).drew) R (q + 201) from HRD.out.alloc _)).mono ?_
           rintro e w9 ⟨y, rfl, y0, y1, hr9, hg9⟩
           obtain ⟨y, rfl⟩ := Int.eq_ofNat_of_zero_le y0
           obtain ⟨z, hz, hz2⟩ := two_cell (new_block (undrew hg9) hWR) y (by omega)
           have HM9 := Lib.hid ((HM.out.alloc _).grown hR (undrew hg9) (hr9.more (by omega)))
           obtain ⟨c0', c1', c2', _, _, _⟩ := blk3 (grown_blk (undrew hg9) (keep1 HQ.out) (by have := HZ.out; omega))
           obtain ⟨d0', d1', d2', e0', e1', e2'⟩ := blk3 (grown_blk (undrew hg9) (keep1 HG.out) (by omega))
           clear hg9 hr9)
        | (go_at_call 58
           refine (pick_any 2 (by omega) (by omega) R (q + 201) (by omega) _ (show RdN W.drew R (q + 201) from HRD.out)).mono ?_
           rintro e w9 ⟨y, rfl, y0, y1, hr9, hg9⟩
           obtain ⟨y, rfl⟩ := Int.eq_ofNat_of_zero_le y0
           have hn3 : ¬ w9.heap.size = w.heap.size := by have := (undrew hg9).size; omega
           have hn4 : ¬ w.heap.size = w9.heap.size := by omega
           have hlt9 : w.heap.size < w9.heap.size := by have := (undrew hg9).size; omega
           have hlq9 : w1.heap.size < w9.heap.size := by have h5 := (undrew hg9).size; have h6 := (Array.getElem?_eq_some_iff.1 HQ.out).1; omega
           have hn5 : ¬ w1.heap.size = w9.heap.size := by omega
           have hn6 : ¬ w9.heap.size = w1.heap.size := by omega
           obtain ⟨z, hz2, hzA⟩ := two_any (a := -1) (b := l.length) (t := 3) w9.heap.size y (by omega)
           have hz := hzA w9 rfl
           have HM9 := Lib.hid (HM.out.grown hR (undrew hg9) (hr9.more (by omega)))
           obtain ⟨c0', c1', c2', _, _, _⟩ := blk3 (grown_blk (undrew hg9) HQ.out (by have := HZ.out; omega))
           obtain ⟨d0', d1', d2', e0', e1', e2'⟩ := blk3 (grown_blk (undrew hg9) HG.out (by omega))
           clear hg9 hr9))
      all_goals
        go_wp2
        refine bodyPost_ret (v := .tuple #[.slice Al l.length cl, u, r.val, .int .i64 z]) (by simp [results, Try.results41, go_sem, Act.put, *]) rfl ?_
        first
          | with_reducible exact at_end HM9.out hR hl hll HBD.out HRI.out (by omega) (by omega)
          | with_reducible exact (at_end HM9.out hR hl hll HBD.out HRI.out (by omega) (by omega)).alloc _
    · have hxb : (x == 0) = false := by rw [beq_eq_false_iff_ne]; exact hx
      have hWQ : w1.heap.size < W.heap.size := (Array.getElem?_eq_some_iff.1 HQ.out).1
      obtain ⟨c0, c1, c2, _, _, _⟩ := blk3 HQ.out
      obtain ⟨d0, d1, d2, e0, e1, e2⟩ := blk3 HG.out
      have hWR : R < W.heap.size := HRD.out.lt
      have hWG : w.heap.size < W.heap.size := (Array.getElem?_eq_some_iff.1 HG.out).1
      clear hx
      go_wp2
      go_region_with (first
        | (go_at_call 58
           refine (pick_any l.length (by omega) (by omega) R (q + 201) (by omega) _ (show RdN W.drew R (q + 201) from HRD.out)).mono ?_
           rintro e w9 ⟨y, rfl, y0, y1, hr9, hg9⟩
           have hlt9 : w.heap.size < w9.heap.size := by have := (undrew hg9).size; omega
           have HM9 := Lib.hid (HM.out.grown hR (undrew hg9) (hr9.more (by omega)))
           obtain ⟨c0', c1', c2', _, _, _⟩ := blk3 (grown_blk (undrew hg9) HQ.out (by have := HZ.out; omega))
           obtain ⟨d0', d1', d2', e0', e1', e2'⟩ := blk3 (grown_blk (undrew hg9) HG.out (by omega))
           clear hg9 hr9))
      all_goals
        go_wp2
        refine bodyPost_ret (v := .tuple #[.slice Al l.length cl, u, r.val, .int .i64 y]) (by simp [results, Try.results41, go_sem, Act.put, *]) rfl ?_
        with_reducible exact at_end HM9.out hR hl hll HBD.out HRI.out (by omega) (by omega)
end Go.Proofs.Ytbbgakbobefplaa
