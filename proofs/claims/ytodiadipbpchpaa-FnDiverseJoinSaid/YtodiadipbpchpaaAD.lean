/- Drawing people, a ladder, a recoding and a number of people. -/
import Derived.Test.YtodiadipbpchpaaA8
import Derived.Test.YtodiadipbpchpaaA4
namespace Go.Proofs.Ytodiadipbpchpaa
open Go.RowKit
def KDrawn (R q : Nat) (w : World) (e : Ending) (w' : World) : Prop := ∃ k : Int, e = .returned (.int .i64 k) ∧ 0 ≤ k ∧ k ≤ 41 ∧ RdN w' R (q + 2) ∧ w.grownBy w' (some R)
theorem kdraw_any (R q : Nat) (hq : q + 2 < 1000000) (w : World) (hr : RdN w R q) : Calls Try.prog 51 #[.pointer (some ⟨R, 0, none⟩)] w (KDrawn R q w) := by
  go_enter Try.func51, Try.ntmps51
  go_wp2_with fail
  refine (pick_any 20 (by omega) (by omega) R q (by omega) _ hr).mono ?_
  rintro e w1 ⟨v, rfl, v0, v1, hr1, hg1⟩
  have HR := Lib.hid hr1
  clear hr1
  by_cases h0 : v = 0
  · subst h0
    go_wp2_with fail
    refine (pick_any 3 (by omega) (by omega) R (q + 1) (by omega) _ (HR.out.alloc _)).mono ?_
    rintro e w2 ⟨u, rfl, u0, u1, hr2, hg2⟩
    have hb := new_block hg2 HR.out.lt
    have hc0 : w2.cell? ⟨w1.heap.size, 0, none⟩ = some (.int .i64 0) := cell_of_row w2 _ 0 _ _ _ hb
    have hc1 : w2.cell? ⟨w1.heap.size, 1, none⟩ = some (.int .i64 40) := cell_of_row w2 _ 1 _ _ _ hb
    have hc2 : w2.cell? ⟨w1.heap.size, 2, none⟩ = some (.int .i64 41) := cell_of_row w2 _ 2 _ _ _ hb
    clear hb
    have HR2 := Lib.hid hr2; clear hr2
    have hg := Lib.hid (grown_trans (grown_alloc hg1 _) hg2)
    rcases (show u = 0 ∨ u = 1 ∨ u = 2 by omega) with rfl | rfl | rfl
    · go_wp2
      go_ret
      exact ⟨0, rfl, by omega, by omega, HR2.out, hg.out⟩
    · go_wp2
      go_ret
      exact ⟨40, rfl, by omega, by omega, HR2.out, hg.out⟩
    · go_wp2
      go_ret
      exact ⟨41, rfl, by omega, by omega, HR2.out, hg.out⟩
  · have h0b : (v == 0) = false := by rw [beq_eq_false_iff_ne]; exact h0
    clear h0
    go_wp2_with fail
    refine (pick_any 4 (by omega) (by omega) R (q + 1) (by omega) _ HR.out).mono ?_
    rintro e w2 ⟨u, rfl, u0, u1, hr2, hg2⟩
    go_wp2
    go_ret
    exact ⟨1 + u, rfl, by omega, by omega, hr2, grown_trans hg1 hg2⟩
/-- .. in memory made anew. -/
def DrawnKO (w : World) (e : Ending) (w' : World) : Prop :=
  ∃ l v ll u r, ∃ k : Int, e = .returned (.tuple #[v, u, Rc.val r, .int .i64 k]) ∧ Own w' w.heap.size v l ∧ OwnLL w' w.heap.size w.heap.size u ll ∧ l.length ≤ 10 ∧ ll.length ≤ 4 ∧ (∀ p ∈ l, Bd p) ∧ 0 ≤ k ∧ k ≤ 41 ∧ Below w.heap.size w w'
def DrawnK (w : World) (e : Ending) (w' : World) : Prop :=
  ∃ l v ll u r, ∃ k : Int, e = .returned (.tuple #[v, u, Rc.val r, .int .i64 k]) ∧ IsP w' v l ∧ IsR w' u ll ∧ l.length ≤ 10 ∧ ll.length ≤ 4 ∧ (∀ p ∈ l, Bd p) ∧ 0 ≤ k ∧ k ≤ 41 ∧ Below w.heap.size w w'
theorem DrawnKO.byK {w w' : World} {e : Ending} (h : DrawnKO w e w') : DrawnK w e w' := by
  obtain ⟨l, v, ll, u, r, k, he, h1, h2, h3, h4, h5, h6, h7, h8⟩ := h
  exact ⟨l, v, ll, u, r, k, he, h1.isP, h2.isRx, h3, h4, h5, h6, h7, h8⟩
theorem FM.below {w w1 w2 w' w'' : World} (h : FM w w1 w2 w') (hb : Below w'.heap.size w' w'') : FM w w1 w2 w'' :=
  ⟨Nat.le_trans h.1 hb.size, fun k a b => (hb.block k (Nat.lt_of_lt_of_le b h.1)).trans (h.2.1 k a b), h.2.2.trans (hb.mono h.2.2.size)⟩
theorem endK {w w1 w2 w' : World} {v u : Value} {l : List Pn} {ll : List (List Int)} {r : Rc} {k : Int} (h : FM w w1 w2 w') (h1 : w.heap.size ≤ w1.heap.size) (ho : Own w2 w1.heap.size v l) (hlo : OwnLL w2 w1.heap.size w1.heap.size u ll) (hl : l.length ≤ 10) (hll : ll.length ≤ 4) (hbd : ∀ p ∈ l, Bd p) (k0 : 0 ≤ k) (k1 : k ≤ 41) :
    DrawnKO w (.returned (.tuple #[v, u, Rc.val r, .int .i64 k])) w' :=
  ⟨l, v, ll, u, r, k, rfl, ownP_less (ho.same fun b e => h.2.1 b (World.ownsRow.lt ho b e).1 (World.ownsRow.lt ho b e).2) h1, (hlo.same h.1 fun k a b => h.2.1 k (by omega) b).less h1 h1, hl, hll, hbd, k0, k1, h.2.2⟩
/-- A reader does not look at a block of integers. -/
theorem RdN.other {w w' : World} {R q B : Nat} {t : TypeId} {a b c : Int} (h : RdN w R q) (hB : w.heap[B]? = some (.cells #[.int .i64 a, .int .i64 b, .int .i64 c] t (0, 0))) (hne : R ≠ B) (hk : ∀ k, k ≠ B → w'.heap[k]? = w.heap[k]?) : RdN w' R q := by
  obtain ⟨A, n, c', p, h, hp⟩ := h
  refine ⟨A, n, c', p, ⟨(hk R hne).trans h.1, h.2.1, h.2.2.1, ?_⟩, hp⟩
  rcases h.2.2.2 with h0 | ⟨g, o, hA, hg, hc⟩
  · exact .inl h0
  · by_cases hn : n = 0
    · exact .inl hn
    · right
      refine ⟨g, o, hA, hg, fun k hkn => ?_⟩
      obtain ⟨v, v0, v1, v2⟩ := hc k hkn
      refine ⟨v, v0, v1, ?_⟩
      by_cases e : g = B
      · subst e
        rw [cell_of_row w g (o + k) _ _ _ hB] at v2
        rcases (show o + k = 0 ∨ o + k = 1 ∨ o + k = 2 ∨ 3 ≤ o + k by omega) with e | e | e | e
        · rw [e] at v2; simp at v2
        · rw [e] at v2; simp at v2
        · rw [e] at v2; simp at v2
        · rw [Array.getElem?_eq_none (by simpa using e)] at v2; cases v2
      · exact (World.cell?_of_block (w := w) (a := ⟨g, o + k, none⟩) (hk g e)).trans v2
theorem set3 {w : World} {g : Nat} {t : TypeId} {a0 a1 a2 : Value} (h : w.heap[g]? = some (.cells #[a0, a1, a2] t (0, 0))) (b0 b1 b2 : Value) :
    (((w.setCell ⟨g, 0, none⟩ b0).setCell ⟨g, 1, none⟩ b1).setCell ⟨g, 2, none⟩ b2).heap[g]? = some (.cells #[b0, b1, b2] t (0, 0)) := by
  simp [World.setCell, Array.getElem?_modify, h]
theorem set3_far (w : World) (g : Nat) (b0 b1 b2 : Value) (k : Nat) (hk : k ≠ g) : (((w.setCell ⟨g, 0, none⟩ b0).setCell ⟨g, 1, none⟩ b1).setCell ⟨g, 2, none⟩ b2).heap[k]? = w.heap[k]? :=
  ((Below.heap_setCell _ ⟨g, 2, none⟩ b2 k hk).trans (Below.heap_setCell _ ⟨g, 1, none⟩ b1 k hk)).trans (Below.heap_setCell _ ⟨g, 0, none⟩ b0 k hk)
set_option maxHeartbeats 8000000 in
theorem dAnonOk_own (A : Option Addr) (n c : Nat) (hnc : n ≤ c) (hn : n ≤ maxLen) (w : World) (hb : Bytes w w.heap.size A n) :
    Calls Try.prog 28 #[.slice A n c] w (DrawnKO w) := by
  have hB := (Below.refl w.heap.size w).alloc (Nat.le_refl _) (.cells #[.int .i64 0, .int .i64 0, .int .i64 0] TRc)
  have hG := heap_alloc_new w (.cells #[.int .i64 0, .int .i64 0, .int .i64 0] TRc)
  have hS : (w.alloc (.cells #[.int .i64 0, .int .i64 0, .int .i64 0] TRc)).heap.size = w.heap.size + 1 := by simp
  go_enter Try.func28, Try.ntmps28
  go_wp2_with fail
  refine (l6Open_any A n c hnc hn _ ((hb.below hB (Nat.le_refl _)).more hB.size)).mono ?_
  rintro e w1 ⟨rfl, ⟨n', c', hr⟩, hb1⟩
  rw [hS] at hr hb1 ⊢
  have hr1 : RdN w1 (w.heap.size + 1) 0 := ⟨_, _, _, _, hr, Nat.le_refl _⟩
  have hR := hr1.lt
  have hG1 := (hb1.block w.heap.size (by omega)).trans hG
  have HB1 := Lib.hid (hB.trans (hb1.mono (by omega)))
  clear hr hb hb1 hB hG hS
  go_wp2_with fail
  refine (all_any (w.heap.size + 1) 0 (by omega) _ hr1).mono ?_
  rintro e w2 ⟨l, v, ll, u, r, rfl, ho, hlo, hl, hll, hbd, hri, hr2, hg2⟩
  have hG2 := grown_blk hg2 hG1 (by omega)
  have hF2 : FM w w1 w2 w2 := ⟨Nat.le_refl _, fun _ _ _ => rfl, HB1.out.trans (grown_old hg2 (by omega) HB1.out.size)⟩
  have hz12 := hg2.size
  have HP := Lib.hid ho
  have HL := Lib.hid hlo
  have HBD := Lib.hid hbd
  obtain ⟨W, hW⟩ : ∃ W, W = w2.alloc (.cells #[.int .i64 r.area, .int .i64 r.job, .int .i64 r.sex] TRc) := ⟨_, rfl⟩
  have HF := Lib.hid (show FM w w1 w2 W by rw [hW]; exact hF2.alloc _)
  have HQ := Lib.hid (show W.heap[w2.heap.size]? = some (.cells #[.int .i64 r.area, .int .i64 r.job, .int .i64 r.sex] TRc) by rw [hW]; exact heap_alloc_new _ _)
  have HG := Lib.hid (show W.heap[w.heap.size]? = some (.cells #[.int .i64 0, .int .i64 0, .int .i64 0] TRc) by rw [hW]; exact keep1 hG2)
  have HR := Lib.hid (show RdN W (w.heap.size + 1) (0 + 200) by rw [hW]; exact hr2.alloc _)
  have hn1 : ¬ w2.heap.size = w.heap.size := by omega
  have hn2 : ¬ w.heap.size = w2.heap.size := by omega
  clear ho hlo hbd hri hg2 hr2 hG1 hG2 hr1 hF2
  obtain ⟨Al, cl, hv, hlc, hcm, hrow, _⟩ := HP.out.form
  subst hv
  obtain ⟨Au, cu, hu, huc, hum, _⟩ := HL.out.form
  subst hu
  have HRW := Lib.hid hrow; clear hrow
  have hzW2 : w2.heap.size < W.heap.size := (Array.getElem?_eq_some_iff.1 HQ.out).1
  go_wp2_with fail
  rw [← hW]
  clear hW
  refine (pick_any 2 (by omega) (by omega) (w.heap.size + 1) (0 + 200) (by omega) _ HR.out).mono ?_
  rintro e w5 ⟨y, rfl, y0, y1, hr5, hg5⟩
  have HF5 := Lib.hid (HF.out.grown hg5 (by omega) hR)
  have HQ5 := Lib.hid (grown_blk hg5 HQ.out (by omega))
  have HG5 := Lib.hid (grown_blk hg5 HG.out (by omega))
  have HR5 := Lib.hid hr5
  clear hg5 hr5 HF HQ HG HR
  have hll4 : (ll.length : Int) ≤ 4 := by omega
  by_cases hy : y = 0
  · subst hy
    by_cases hl0 : 0 < ll.length
    · have hl0' : (0 : Int) < (ll.length : Int) := by omega
      go_wp2_with fail
      refine (sValid_any l Al cl w5 (((HP.out.same fun b e => HF5.out.2.1 b (World.ownsRow.lt HP.out b e).1 (World.ownsRow.lt HP.out b e).2).row)) (by simp only [maxLen]; omega)).mono ?_
      rintro e w6 ⟨rfl, h6⟩
      have HF := Lib.hid (HF5.out.below h6)
      have HQ := Lib.hid ((h6.block w2.heap.size (Array.getElem?_eq_some_iff.1 HQ5.out).1).trans HQ5.out)
      have HG := Lib.hid ((h6.block w.heap.size (Array.getElem?_eq_some_iff.1 HG5.out).1).trans HG5.out)
      have HR := Lib.hid (HR5.out.keep (h6.mono HR5.out.lt))
      clear h6 HF5 HQ5 HG5 HR5
      cases hokl : okL l
      · clear hokl
        obtain ⟨c0, c1, c2, _, _, _⟩ := blk3 HQ.out
        obtain ⟨d0, d1, d2, e0, e1, e2⟩ := blk3 HG.out
        have hzW : w.heap.size < w6.heap.size := (Array.getElem?_eq_some_iff.1 HG.out).1
        have hzQ : w2.heap.size < w6.heap.size := (Array.getElem?_eq_some_iff.1 HQ.out).1
        have hFX := ((HF.out.set ⟨w.heap.size, 0, none⟩ (Nat.le_refl _) (.inl (by simp; omega)) (.int .i64 r.area)).set ⟨w.heap.size, 1, none⟩ (Nat.le_refl _) (.inl (by simp; omega)) (.int .i64 r.job)).set ⟨w.heap.size, 2, none⟩ (Nat.le_refl _) (.inl (by simp; omega)) (.int .i64 r.sex)
        have hRX := HR.out.other HG.out (by omega) (set3_far w6 w.heap.size (.int .i64 r.area) (.int .i64 r.job) (.int .i64 r.sex))
        have hGX := set3 HG.out (.int .i64 r.area) (.int .i64 r.job) (.int .i64 r.sex)
        have hQX := (set3_far w6 w.heap.size (.int .i64 r.area) (.int .i64 r.job) (.int .i64 r.sex) w2.heap.size (by omega)).trans HQ.out
        obtain ⟨X, hX⟩ : ∃ X, X = ((w6.setCell ⟨w.heap.size, 0, none⟩ (.int .i64 r.area)).setCell ⟨w.heap.size, 1, none⟩ (.int .i64 r.job)).setCell ⟨w.heap.size, 2, none⟩ (.int .i64 r.sex) := ⟨_, rfl⟩
        rw [← hX] at hFX hRX hGX hQX
        have HX := Lib.hid hX
        have HFX := Lib.hid hFX
        have HRX := Lib.hid hRX
        have HGX := Lib.hid hGX
        have HQX := Lib.hid hQX
        clear hFX hRX hGX hQX hX
        go_wp2
        go_region_with (first
          | (go_at_call 51
             refine (kdraw_any (w.heap.size + 1) (0 + 200 + 1) (by omega) _ (show RdN w6.drew (w.heap.size + 1) (0 + 200 + 1) from HR.out)).mono ?_
             rintro e w9 ⟨k, rfl, k0, k1, hr9, hg9⟩
             have HF9 := Lib.hid (HF.out.grown (undrew hg9) (by omega) hR)
             obtain ⟨c0', c1', c2', _, _, _⟩ := blk3 (grown_blk (undrew hg9) HQ.out (by omega))
             obtain ⟨d0', d1', d2', e0', e1', e2'⟩ := blk3 (grown_blk (undrew hg9) HG.out (by omega))
             clear hg9 hr9)
          | (go_at_call 51
             refine (kdraw_any (w.heap.size + 1) (0 + 200 + 1) (by omega) _ (show RdN (((w6.drew.setCell ⟨w.heap.size, 0, none⟩ (.int .i64 r.area)).setCell ⟨w.heap.size, 1, none⟩ (.int .i64 r.job)).setCell ⟨w.heap.size, 2, none⟩ (.int .i64 r.sex)) (w.heap.size + 1) (0 + 200 + 1) by have h := HRX.out; rw [HX.out] at h; exact h)).mono ?_
             rintro e w9 ⟨k, rfl, k0, k1, hr9, hg9⟩
             have HF9 := Lib.hid (HFX.out.grown (show X.grownBy w9 (some (w.heap.size + 1)) by rw [HX.out]; exact hg9) (by omega) hR)
             obtain ⟨c0', c1', c2', _, _, _⟩ := blk3 (grown_blk (show X.grownBy w9 (some (w.heap.size + 1)) by rw [HX.out]; exact hg9) HQX.out (by omega))
             obtain ⟨d0', d1', d2', e0', e1', e2'⟩ := blk3 (grown_blk (show X.grownBy w9 (some (w.heap.size + 1)) by rw [HX.out]; exact hg9) HGX.out (by omega))
             clear hg9 hr9))
        all_goals
          go_wp2
          refine bodyPost_ret (v := .tuple #[.slice Al l.length cl, .slice Au ll.length cu, Rc.val r, .int .i64 k]) (by simp [results, Try.results28, go_sem, *]) rfl ?_
          exact endK (by repeat (first | with_reducible exact HF9.out | with_reducible refine FM.drew ?_ | with_reducible refine FM.set ?_ _ (by first | (simp; done) | (simp; omega)) (by first | (left; simp; omega) | (right; simp; omega)) _)) HB1.out.size HP.out HL.out hl hll HBD.out k0 k1
      · clear hokl
        obtain ⟨d0, d1, d2, e0, e1, e2⟩ := blk3 HG.out
        have hzG : w.heap.size < w6.heap.size := (Array.getElem?_eq_some_iff.1 HG.out).1
        go_wp2_with fail
        refine (pick_any 3 (by omega) (by omega) (w.heap.size + 1) (0 + 200 + 1) (by omega) _ HR.out).mono ?_
        rintro e w9 ⟨k, rfl, k0, k1, hr9, hg9⟩
        have HF9 := Lib.hid (HF.out.grown hg9 (by omega) hR)
        obtain ⟨d0', d1', d2', e0', e1', e2'⟩ := blk3 (grown_blk hg9 HG.out (by omega))
        clear hg9 hr9
        go_wp2
        refine bodyPost_ret (v := .tuple #[.slice Al l.length cl, .slice Au ll.length cu, Rc.val ⟨ll.length, 1, 1⟩, .int .i64 (1 + k)]) (by simp [results, Try.results28, go_sem, *]) rfl ?_
        exact endK (by repeat (first | with_reducible exact HF9.out | with_reducible refine FM.drew ?_ | with_reducible refine FM.set ?_ _ (by first | (simp; done) | (simp; omega)) (by first | (left; simp; omega) | (right; simp; omega)) _)) HB1.out.size HP.out HL.out hl hll HBD.out (by omega) (by omega)
    · have hl0' : ¬ (0 : Int) < (ll.length : Int) := by omega
      have HF := HF5; have HQ := HQ5; have HG := HG5; have HR := HR5
      clear HF5 HQ5 HG5 HR5
      obtain ⟨c0, c1, c2, _, _, _⟩ := blk3 HQ.out
      obtain ⟨d0, d1, d2, e0, e1, e2⟩ := blk3 HG.out
      have hzW : w.heap.size < w5.heap.size := (Array.getElem?_eq_some_iff.1 HG.out).1
      have hzQ : w2.heap.size < w5.heap.size := (Array.getElem?_eq_some_iff.1 HQ.out).1
      have hFX := ((HF.out.set ⟨w.heap.size, 0, none⟩ (Nat.le_refl _) (.inl (by simp; omega)) (.int .i64 r.area)).set ⟨w.heap.size, 1, none⟩ (Nat.le_refl _) (.inl (by simp; omega)) (.int .i64 r.job)).set ⟨w.heap.size, 2, none⟩ (Nat.le_refl _) (.inl (by simp; omega)) (.int .i64 r.sex)
      have hRX := HR.out.other HG.out (by omega) (set3_far w5 w.heap.size (.int .i64 r.area) (.int .i64 r.job) (.int .i64 r.sex))
      have hGX := set3 HG.out (.int .i64 r.area) (.int .i64 r.job) (.int .i64 r.sex)
      have hQX := (set3_far w5 w.heap.size (.int .i64 r.area) (.int .i64 r.job) (.int .i64 r.sex) w2.heap.size (by omega)).trans HQ.out
      obtain ⟨X, hX⟩ : ∃ X, X = ((w5.setCell ⟨w.heap.size, 0, none⟩ (.int .i64 r.area)).setCell ⟨w.heap.size, 1, none⟩ (.int .i64 r.job)).setCell ⟨w.heap.size, 2, none⟩ (.int .i64 r.sex) := ⟨_, rfl⟩
      rw [← hX] at hFX hRX hGX hQX
      have HX := Lib.hid hX
      have HFX := Lib.hid hFX
      have HRX := Lib.hid hRX
      have HGX := Lib.hid hGX
      have HQX := Lib.hid hQX
      clear hFX hRX hGX hQX hX
      go_wp2
      go_region_with (first
        | (go_at_call 51
           refine (kdraw_any (w.heap.size + 1) (0 + 200 + 1) (by omega) _ (show RdN w5.drew (w.heap.size + 1) (0 + 200 + 1) from HR.out)).mono ?_
           rintro e w9 ⟨k, rfl, k0, k1, hr9, hg9⟩
           have HF9 := Lib.hid (HF.out.grown (undrew hg9) (by omega) hR)
           obtain ⟨c0', c1', c2', _, _, _⟩ := blk3 (grown_blk (undrew hg9) HQ.out (by omega))
           obtain ⟨d0', d1', d2', e0', e1', e2'⟩ := blk3 (grown_blk (undrew hg9) HG.out (by omega))
           clear hg9 hr9)
        | (go_at_call 51
           refine (kdraw_any (w.heap.size + 1) (0 + 200 + 1) (by omega) _ (show RdN (((w5.drew.setCell ⟨w.heap.size, 0, none⟩ (.int .i64 r.area)).setCell ⟨w.heap.size, 1, none⟩ (.int .i64 r.job)).setCell ⟨w.heap.size, 2, none⟩ (.int .i64 r.sex)) (w.heap.size + 1) (0 + 200 + 1) by have h := HRX.out; rw [HX.out] at h; exact h)).mono ?_
           rintro e w9 ⟨k, rfl, k0, k1, hr9, hg9⟩
           have HF9 := Lib.hid (HFX.out.grown (show X.grownBy w9 (some (w.heap.size + 1)) by rw [HX.out]; exact hg9) (by omega) hR)
           obtain ⟨c0', c1', c2', _, _, _⟩ := blk3 (grown_blk (show X.grownBy w9 (some (w.heap.size + 1)) by rw [HX.out]; exact hg9) HQX.out (by omega))
           obtain ⟨d0', d1', d2', e0', e1', e2'⟩ := blk3 (grown_blk (show X.grownBy w9 (some (w.heap.size + 1)) by rw [HX.out]; exact hg9) HGX.out (by omega))
           clear hg9 hr9))
      all_goals
        go_wp2
        refine bodyPost_ret (v := .tuple #[.slice Al l.length cl, .slice Au ll.length cu, Rc.val r, .int .i64 k]) (by simp [results, Try.results28, go_sem, *]) rfl ?_
        exact endK (by repeat (first | with_reducible exact HF9.out | with_reducible refine FM.drew ?_ | with_reducible refine FM.set ?_ _ (by first | (simp; done) | (simp; omega)) (by first | (left; simp; omega) | (right; simp; omega)) _)) HB1.out.size HP.out HL.out hl hll HBD.out k0 k1
  · have hyb : (y == 0) = false := by rw [beq_eq_false_iff_ne]; exact hy
    clear hy
    have HF := HF5; have HQ := HQ5; have HG := HG5; have HR := HR5
    clear HF5 HQ5 HG5 HR5
    obtain ⟨c0, c1, c2, _, _, _⟩ := blk3 HQ.out
    obtain ⟨d0, d1, d2, e0, e1, e2⟩ := blk3 HG.out
    have hzW : w.heap.size < w5.heap.size := (Array.getElem?_eq_some_iff.1 HG.out).1
    have hzQ : w2.heap.size < w5.heap.size := (Array.getElem?_eq_some_iff.1 HQ.out).1
    have hFX := ((HF.out.set ⟨w.heap.size, 0, none⟩ (Nat.le_refl _) (.inl (by simp; omega)) (.int .i64 r.area)).set ⟨w.heap.size, 1, none⟩ (Nat.le_refl _) (.inl (by simp; omega)) (.int .i64 r.job)).set ⟨w.heap.size, 2, none⟩ (Nat.le_refl _) (.inl (by simp; omega)) (.int .i64 r.sex)
    have hRX := HR.out.other HG.out (by omega) (set3_far w5 w.heap.size (.int .i64 r.area) (.int .i64 r.job) (.int .i64 r.sex))
    have hGX := set3 HG.out (.int .i64 r.area) (.int .i64 r.job) (.int .i64 r.sex)
    have hQX := (set3_far w5 w.heap.size (.int .i64 r.area) (.int .i64 r.job) (.int .i64 r.sex) w2.heap.size (by omega)).trans HQ.out
    obtain ⟨X, hX⟩ : ∃ X, X = ((w5.setCell ⟨w.heap.size, 0, none⟩ (.int .i64 r.area)).setCell ⟨w.heap.size, 1, none⟩ (.int .i64 r.job)).setCell ⟨w.heap.size, 2, none⟩ (.int .i64 r.sex) := ⟨_, rfl⟩
    rw [← hX] at hFX hRX hGX hQX
    have HX := Lib.hid hX
    have HFX := Lib.hid hFX
    have HRX := Lib.hid hRX
    have HGX := Lib.hid hGX
    have HQX := Lib.hid hQX
    clear hFX hRX hGX hQX hX
    go_wp2
    go_region_with (first
      | (go_at_call 51
         refine (kdraw_any (w.heap.size + 1) (0 + 200 + 1) (by omega) _ (show RdN w5.drew (w.heap.size + 1) (0 + 200 + 1) from HR.out)).mono ?_
         rintro e w9 ⟨k, rfl, k0, k1, hr9, hg9⟩
         have HF9 := Lib.hid (HF.out.grown (undrew hg9) (by omega) hR)
         obtain ⟨c0', c1', c2', _, _, _⟩ := blk3 (grown_blk (undrew hg9) HQ.out (by omega))
         obtain ⟨d0', d1', d2', e0', e1', e2'⟩ := blk3 (grown_blk (undrew hg9) HG.out (by omega))
         clear hg9 hr9)
      | (go_at_call 51
         refine (kdraw_any (w.heap.size + 1) (0 + 200 + 1) (by omega) _ (show RdN (((w5.drew.setCell ⟨w.heap.size, 0, none⟩ (.int .i64 r.area)).setCell ⟨w.heap.size, 1, none⟩ (.int .i64 r.job)).setCell ⟨w.heap.size, 2, none⟩ (.int .i64 r.sex)) (w.heap.size + 1) (0 + 200 + 1) by have h := HRX.out; rw [HX.out] at h; exact h)).mono ?_
         rintro e w9 ⟨k, rfl, k0, k1, hr9, hg9⟩
         have HF9 := Lib.hid (HFX.out.grown (show X.grownBy w9 (some (w.heap.size + 1)) by rw [HX.out]; exact hg9) (by omega) hR)
         obtain ⟨c0', c1', c2', _, _, _⟩ := blk3 (grown_blk (show X.grownBy w9 (some (w.heap.size + 1)) by rw [HX.out]; exact hg9) HQX.out (by omega))
         obtain ⟨d0', d1', d2', e0', e1', e2'⟩ := blk3 (grown_blk (show X.grownBy w9 (some (w.heap.size + 1)) by rw [HX.out]; exact hg9) HGX.out (by omega))
         clear hg9 hr9))
    all_goals
      go_wp2
      refine bodyPost_ret (v := .tuple #[.slice Al l.length cl, .slice Au ll.length cu, Rc.val r, .int .i64 k]) (by simp [results, Try.results28, go_sem, *]) rfl ?_
      exact endK (by repeat (first | with_reducible exact HF9.out | with_reducible refine FM.drew ?_ | with_reducible refine FM.set ?_ _ (by first | (simp; done) | (simp; omega)) (by first | (left; simp; omega) | (right; simp; omega)) _)) HB1.out.size HP.out HL.out hl hll HBD.out k0 k1
theorem dAnonOk_any (A : Option Addr) (n c : Nat) (hnc : n ≤ c) (hn : n ≤ maxLen) (w : World) (hb : Bytes w w.heap.size A n) :
    Calls Try.prog 28 #[.slice A n c] w (DrawnK w) := (dAnonOk_own A n c hnc hn w hb).mono fun _ _ h => h.byK
end Go.Proofs.Ytodiadipbpchpaa
