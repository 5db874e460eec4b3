/- The draws of chapter 5. -/
import Derived.Test.YtodiadipbpchpaaA8
import Derived.Test.YtodiadipbpchpaaAD
set_option maxRecDepth 100000
namespace Go.Proofs.Ytodiadipbpchpaa
open Go.RowKit
/-- People, a ladder, a recoding and two numbers. -/
def DrawnKL (w : World) (e : Ending) (w' : World) : Prop :=
  ∃ l v ll u r, ∃ k m : Int, e = .returned (.tuple #[v, u, Rc.val r, .int .i64 k, .int .i64 m]) ∧ IsP w' v l ∧ IsR w' u ll ∧ l.length ≤ 10 ∧ ll.length ≤ 4 ∧ (∀ p ∈ l, Bd p) ∧ 0 ≤ k ∧ k ≤ 41 ∧ 0 ≤ m ∧ m ≤ 41 ∧ Below w.heap.size w w'
theorem endL {w w1 w2 w' : World} {v u : Value} {l : List Pn} {ll : List (List Int)} {r : Rc} {k m : Int} (h : FM w w1 w2 w') (ho : Own w2 w1.heap.size v l) (hlo : OwnLL w2 w1.heap.size w1.heap.size u ll) (hl : l.length ≤ 10) (hll : ll.length ≤ 4) (hbd : ∀ p ∈ l, Bd p) (k0 : 0 ≤ k) (k1 : k ≤ 41) (m0 : 0 ≤ m) (m1 : m ≤ 41) :
    DrawnKL w (.returned (.tuple #[v, u, Rc.val r, .int .i64 k, .int .i64 m])) w' :=
  ⟨l, v, ll, u, r, k, m, rfl, Own.isP (ho.same fun b e => h.2.1 b (World.ownsRow.lt ho b e).1 (World.ownsRow.lt ho b e).2), OwnLL.isRx (hlo.same h.1 fun k a b => h.2.1 k (by omega) b), hl, hll, hbd, k0, k1, m0, m1, h.2.2⟩
set_option maxHeartbeats 8000000 in
theorem dDivOk_any (A : Option Addr) (n c : Nat) (hnc : n ≤ c) (hn : n ≤ maxLen) (w : World) (hb : Bytes w w.heap.size A n) :
    Calls Try.prog 10 #[.slice A n c] w (DrawnKL w) := by
  have hB := (Below.refl w.heap.size w).alloc (Nat.le_refl _) (.cells #[.int .i64 0, .int .i64 0, .int .i64 0] TRc)
  have hG := heap_alloc_new w (.cells #[.int .i64 0, .int .i64 0, .int .i64 0] TRc)
  have hS : (w.alloc (.cells #[.int .i64 0, .int .i64 0, .int .i64 0] TRc)).heap.size = w.heap.size + 1 := by simp
  go_enter Try.func10, Try.ntmps10
  go_wp2_with fail
  have hby := (hb.below hB (Nat.le_refl _)).more hB.size
  refine (l6Open_any A n c hnc hn _ hby).mono ?_
  rintro e w1 ⟨rfl, ⟨n', c', hr⟩, hb1⟩
  have hby1 := (hby.below hb1 (Nat.le_refl _)).more hb1.size
  rw [hS] at hr hb1 ⊢
  have hr1 : RdN w1 (w.heap.size + 1) 0 := ⟨_, _, _, _, hr, Nat.le_refl _⟩
  have hR := hr1.lt
  have hG1 := (hb1.block w.heap.size (by omega)).trans hG
  have HB1 := Lib.hid (hB.trans (hb1.mono (by omega)))
  clear hr hb hby hb1 hB hG hS
  go_wp2_with fail
  refine (dAnonOk_own A n c hnc hn _ hby1).mono ?_
  rintro e w2 ⟨l, v, ll, u, r, k, rfl, ho, hlo, hl, hll, hbd, k0, k1, h2⟩
  have hG2 := (h2.block w.heap.size (by omega)).trans hG1
  have hF2 : FM w w1 w2 w2 := ⟨Nat.le_refl _, fun _ _ _ => rfl, HB1.out.trans (h2.mono HB1.out.size)⟩
  have hz12 := h2.size
  have hr2 := hr1.keep (h2.mono hR)
  obtain ⟨Al, cl, hv, _, _, _, _⟩ := ho.form
  subst hv
  obtain ⟨Au, cu, hu, _, _, _⟩ := hlo.form
  subst hu
  have HP := Lib.hid ho
  have HL := Lib.hid hlo
  have HBD := Lib.hid hbd
  obtain ⟨W, hW⟩ : ∃ W, W = w2.alloc (.cells #[.int .i64 r.area, .int .i64 r.job, .int .i64 r.sex] TRc) := ⟨_, rfl⟩
  have HF := Lib.hid (show FM w w1 w2 W by rw [hW]; exact hF2.alloc _)
  have HQ := Lib.hid (show W.heap[w2.heap.size]? = some (.cells #[.int .i64 r.area, .int .i64 r.job, .int .i64 r.sex] TRc) by rw [hW]; exact heap_alloc_new _ _)
  have HG := Lib.hid (show W.heap[w.heap.size]? = some (.cells #[.int .i64 0, .int .i64 0, .int .i64 0] TRc) by rw [hW]; exact keep1 hG2)
  have HR := Lib.hid (show RdN W (w.heap.size + 1) 0 by rw [hW]; exact hr2.alloc _)
  have hn1 : ¬ w2.heap.size = w.heap.size := by omega
  have hn2 : ¬ w.heap.size = w2.heap.size := by omega
  have hzW2 : w2.heap.size < W.heap.size := (Array.getElem?_eq_some_iff.1 HQ.out).1
  clear ho hlo hbd h2 hr2 hG1 hG2 hr1 hF2 hby1
  go_wp2_with fail
  rw [← hW]
  clear hW
  refine (pick_any 16 (by omega) (by omega) (w.heap.size + 1) 0 (by omega) _ HR.out).mono ?_
  rintro e w5 ⟨y, rfl, y0, y1, hr5, hg5⟩
  have HF5 := Lib.hid (HF.out.grown hg5 (by omega) hR)
  have HQ5 := Lib.hid (grown_blk hg5 HQ.out (by omega))
  have HG5 := Lib.hid (grown_blk hg5 HG.out (by omega))
  have HR5 := Lib.hid hr5
  clear hg5 hr5 HF HQ HG HR
  have HF := HF5; have HQ := HQ5; have HG := HG5; have HR := HR5
  clear HF5 HQ5 HG5 HR5
  by_cases hy : y = 0
  · subst hy
    obtain ⟨c0, c1, c2, _, _, _⟩ := blk3 HQ.out
    obtain ⟨d0, d1, d2, e0, e1, e2⟩ := blk3 HG.out
    have hWR : w.heap.size + 1 < w5.heap.size := HR.out.lt
    have hWQ : w2.heap.size < w5.heap.size := (Array.getElem?_eq_some_iff.1 HQ.out).1
    have hWG : w.heap.size < w5.heap.size := (Array.getElem?_eq_some_iff.1 HG.out).1
    have hn7 : ¬ w5.heap.size = w2.heap.size := by omega
    have hn8 : ¬ w2.heap.size = w5.heap.size := by omega
    have hn5 : ¬ w5.heap.size = w.heap.size := by omega
    have hn6 : ¬ w.heap.size = w5.heap.size := by omega
    go_wp2
    go_region_with (first
      | (go_at_call 29
         refine (pick_any 2 (by omega) (by omega) (w.heap.size + 1) (0 + 1) (by omega) _ (show RdN ((w5.alloc (.cells #[.int .i64 0, .int .i64 41] 3)).drew) (w.heap.size + 1) (0 + 1) from HR.out.alloc _)).mono ?_
         rintro e w9 ⟨y, rfl, y0, y1, hr9, hg9⟩
         obtain ⟨y, rfl⟩ := Int.eq_ofNat_of_zero_le y0
         obtain ⟨z, hz, hz2⟩ := two_cell (new_block (undrew hg9) hWR) y (by omega)
         have HF9 := Lib.hid ((HF.out.alloc _).grown (undrew hg9) (by omega) hR)
         obtain ⟨c0', c1', c2', _, _, _⟩ := blk3 (grown_blk (undrew hg9) (keep1 HQ.out) (by omega))
         obtain ⟨d0', d1', d2', e0', e1', e2'⟩ := blk3 (grown_blk (undrew hg9) (keep1 HG.out) (by omega))
         clear hg9 hr9)
      | (go_at_call 29
         refine (pick_any 2 (by omega) (by omega) (w.heap.size + 1) (0 + 1) (by omega) _ (show RdN w5.drew (w.heap.size + 1) (0 + 1) from HR.out)).mono ?_
         rintro e w9 ⟨y, rfl, y0, y1, hr9, hg9⟩
         obtain ⟨y, rfl⟩ := Int.eq_ofNat_of_zero_le y0
         have hz9 := (undrew hg9).size
         have hn3 : ¬ w9.heap.size = w.heap.size := by omega
         have hn4 : ¬ w.heap.size = w9.heap.size := by omega
         have hlt9 : w.heap.size < w9.heap.size := by omega
         have hlq9 : w2.heap.size < w9.heap.size := by omega
         have hn9 : ¬ w2.heap.size = w9.heap.size := by omega
         have hn10 : ¬ w9.heap.size = w2.heap.size := by omega
         obtain ⟨z, hz2, hzA⟩ := two_any (a := 0) (b := 41) (t := 3) w9.heap.size y (by omega)
         have hz := hzA w9 rfl
         have HF9 := Lib.hid (HF.out.grown (undrew hg9) (by omega) hR)
         obtain ⟨c0', c1', c2', _, _, _⟩ := blk3 (grown_blk (undrew hg9) HQ.out (by omega))
         obtain ⟨d0', d1', d2', e0', e1', e2'⟩ := blk3 (grown_blk (undrew hg9) HG.out (by omega))
         clear hg9 hr9))
    all_goals
      go_wp2
      refine bodyPost_ret (v := .tuple #[.slice Al l.length cl, .slice Au ll.length cu, Rc.val r, .int .i64 k, .int .i64 z]) (by simp [results, Try.results10, go_sem, Act.put, *]) rfl ?_
      exact endL (by repeat (first | with_reducible exact HF9.out | with_reducible refine FM.drew ?_ | with_reducible refine FM.alloc ?_ _ | with_reducible refine FM.set ?_ _ (by first | (simp; done) | (simp; omega)) (by first | (left; simp; omega) | (right; simp; omega)) _)) HP.out HL.out hl hll HBD.out k0 k1 (by omega) (by omega)
  · have hyb : (y == 0) = false := by rw [beq_eq_false_iff_ne]; exact hy
    clear hy
    obtain ⟨c0, c1, c2, _, _, _⟩ := blk3 HQ.out
    obtain ⟨d0, d1, d2, e0, e1, e2⟩ := blk3 HG.out
    have hzW : w.heap.size < w5.heap.size := (Array.getElem?_eq_some_iff.1 HG.out).1
    have hzQ : w2.heap.size < w5.heap.size := (Array.getElem?_eq_some_iff.1 HQ.out).1
    have hFX := ((HF.out.set ⟨w.heap.size, 0, none⟩ (Nat.le_refl _) (.inl (by simp; omega)) (.int .i64 r.area)).set ⟨w.heap.size, 1, none⟩ (Nat.le_refl _) (.inl (by simp; omega)) (.int .i64 r.job)).set ⟨w.heap.size, 2, none⟩ (Nat.le_refl _) (.inl (by simp; omega)) (.int .i64 r.sex)
    have hRX := HR.out.other HG.out (by omega) (set3_far w5 w.heap.size (.int .i64 r.area) (.int .i64 r.job) (.int .i64 r.sex))
    have hGX := set3 HG.out (.int .i64 r.area) (.int .i64 r.job) (.int .i64 r.sex)
    have hQX := (set3_far w5 w.heap.size (.int .i64 r.area) (.int .i64 r.job) (.int .i64 r.sex) w2.heap.size (by omega)).trans HQ.out
    obtain ⟨X, hX⟩ : ∃ X, X = ((w5.setCell ⟨w.heap.size, 0, none⟩ (.int .i64 r.area)).setCell ⟨w.heap.size, 1, none⟩ (.int .i64 r.job)).setCell ⟨w.heap.size, 2, none⟩ (.int .i64 r.sex) := ⟨_, rfl⟩
    rw [← hX] at hFX hRX hGX hQX
    have HX := Lib.hid hX
    have HFX := Lib.hid hFX
    have HRX := Lib.hid hRX
    have HGX := Lib.hid hGX
    have HQX := Lib.hid hQX
    clear hFX hRX hGX hQX hX
    go_wp2
    go_region_with (first
      | (go_at_call 29
         refine (pick_any 3 (by omega) (by omega) (w.heap.size + 1) (0 + 1) (by omega) _ (show RdN w5.drew (w.heap.size + 1) (0 + 1) from HR.out)).mono ?_
         rintro e w9 ⟨m, rfl, m0, m1, hr9, hg9⟩
         have hwm : IntKind.i64.wrap (1 + m) = 1 + m := by rw [IntKind.wrap_i64]; omega
         have HF9 := Lib.hid (HF.out.grown (undrew hg9) (by omega) hR)
         obtain ⟨c0', c1', c2', _, _, _⟩ := blk3 (grown_blk (undrew hg9) HQ.out (by omega))
         obtain ⟨d0', d1', d2', e0', e1', e2'⟩ := blk3 (grown_blk (undrew hg9) HG.out (by omega))
         clear hg9 hr9)
      | (go_at_call 29
         refine (pick_any 3 (by omega) (by omega) (w.heap.size + 1) (0 + 1) (by omega) _ (show RdN (((w5.drew.setCell ⟨w.heap.size, 0, none⟩ (.int .i64 r.area)).setCell ⟨w.heap.size, 1, none⟩ (.int .i64 r.job)).setCell ⟨w.heap.size, 2, none⟩ (.int .i64 r.sex)) (w.heap.size + 1) (0 + 1) by have h := HRX.out; rw [HX.out] at h; exact h)).mono ?_
         rintro e w9 ⟨m, rfl, m0, m1, hr9, hg9⟩
         have hwm : IntKind.i64.wrap (1 + m) = 1 + m := by rw [IntKind.wrap_i64]; omega
         have HF9 := Lib.hid (HFX.out.grown (show X.grownBy w9 (some (w.heap.size + 1)) by rw [HX.out]; exact hg9) (by omega) hR)
         obtain ⟨c0', c1', c2', _, _, _⟩ := blk3 (grown_blk (show X.grownBy w9 (some (w.heap.size + 1)) by rw [HX.out]; exact hg9) HQX.out (by omega))
         obtain ⟨d0', d1', d2', e0', e1', e2'⟩ := blk3 (grown_blk (show X.grownBy w9 (some (w.heap.size + 1)) by rw [HX.out]; exact hg9) HGX.out (by omega))
         clear hg9 hr9))
    all_goals
      go_wp2
      refine bodyPost_ret (v := .tuple #[.slice Al l.length cl, .slice Au ll.length cu, Rc.val r, .int .i64 k, .int .i64 (1 + m)]) (by simp [results, Try.results10, go_sem, *]) rfl ?_
      exact endL (by repeat (first | with_reducible exact HF9.out | with_reducible refine FM.drew ?_ | with_reducible refine FM.set ?_ _ (by first | (simp; done) | (simp; omega)) (by first | (left; simp; omega) | (right; simp; omega)) _)) HP.out HL.out hl hll HBD.out k0 k1 (by omega) (by omega)
end Go.Proofs.Ytodiadipbpchpaa
