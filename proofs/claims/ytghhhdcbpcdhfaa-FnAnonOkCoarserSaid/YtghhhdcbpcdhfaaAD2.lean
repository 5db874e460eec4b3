/- Drawing people, a ladder and two numbers; a ladder and a recoding. -/
import Derived.Test.YtghhhdcbpcdhfaaAD
import Derived.Test.YtghhhdcbpcdhfaaA7
namespace Go.Proofs.Ytghhhdcbpcdhfaa
open Go.RowKit
def DrawnB (w : World) (e : Ending) (w' : World) : Prop :=
  ∃ l v ll u, ∃ k d : Int, e = .returned (.tuple #[v, u, .int .i64 k, .int .i64 d]) ∧ IsP w' v l ∧ IsR w' u ll ∧ l.length ≤ 10 ∧ ll.length ≤ 4 ∧ (∀ p ∈ l, Bd p) ∧ 0 ≤ k ∧ k ≤ 41 ∧ -4 ≤ d ∧ d ≤ 3 ∧ Below w.heap.size w w'
set_option maxHeartbeats 2000000 in
theorem dAnonBest_any (A : Option Addr) (n c : Nat) (hnc : n ≤ c) (hn : n ≤ maxLen) (w : World) (hb : Bytes w w.heap.size A n) :
    Calls Try.prog 11 #[.slice A n c] w (DrawnB w) := by
  go_enter Try.func11, Try.ntmps11
  go_wp2_with fail
  refine (l6Open_any A n c hnc hn _ hb).mono ?_
  rintro e w1 ⟨rfl, ⟨n', c', hr⟩, hb1⟩
  have hr1 : RdN w1 w.heap.size 0 := ⟨_, _, _, _, hr, Nat.le_refl _⟩
  have hR := hr1.lt
  clear hr hb
  go_wp2_with fail
  refine (people_any 8 (by omega) w.heap.size 0 (by omega) _ hr1).mono ?_
  rintro e w2 ⟨l, v, rfl, ho, hl, hbd, hr2, hg2⟩
  have hz2 := hg2.size
  go_wp2_with fail
  refine (ladder_any w.heap.size _ (by omega) _ hr2).mono ?_
  rintro e w3 ⟨u, ll, rfl, ho3, hll, hr3, hg3⟩
  have hz3 := hg3.size
  have ho3' := Own.kept ho hg3 (by omega)
  go_wp2_with fail
  refine (kdraw_any w.heap.size _ (by omega) _ hr3).mono ?_
  rintro e w4 ⟨k, rfl, k0, k1, hr4, hg4⟩
  have hz4 := hg4.size
  have hl4 := ho3.krr hg4 (by omega) (by omega)
  have ho4 := Own.kept ho3' hg4 (by omega)
  go_wp2_with fail
  refine (pick_any 4 (by omega) (by omega) w.heap.size _ (by omega) _ hr4).mono ?_
  rintro e w5 ⟨y, rfl, y0, y1, hr5, hg5⟩
  have hl5 := hl4.krr hg5 (by omega) (by omega)
  have ho5 := Own.kept ho4 hg5 (by omega)
  go_wp2_with fail
  refine (pick_any 20 (by omega) (by omega) w.heap.size _ (by omega) _ hr5).mono ?_
  rintro e w6 ⟨z, rfl, z0, z1, hr6, hg6⟩
  have hl6 := (hl5.krr hg6 (by omega) (by omega)).isRx
  have ho6 := (Own.kept ho5 hg6 (by omega)).isP
  have hB : Below w.heap.size w w6 := hb1.trans ((grown_old (grown_trans (grown_trans (grown_trans (grown_trans hg2 hg3) hg4) hg5) hg6) (Nat.le_refl _) hb1.size))
  have hzd : z / 19 = 0 ∨ z / 19 = 1 := by omega
  have HL := Lib.hid hl6
  have HO := Lib.hid ho6
  have HBB := Lib.hid hB
  have HBD := Lib.hid hbd
  obtain ⟨d, hd⟩ : ∃ d, z / 19 = d := ⟨_, rfl⟩
  rw [hd] at hzd
  clear hr1 hr2 hr3 hr4 hr5 hr6 hg2 hg3 hg4 hg5 hg6 hl4 hl5 hl6 ho ho3 ho3' ho4 ho5 ho6 hB hb1 hbd
  rcases hzd with rfl | rfl
  · go_wp2
    refine bodyPost_ret (v := .tuple #[v, u, .int .i64 k, .int .i64 y]) (by simp [results, Try.results11, go_sem, *]) rfl ?_
    exact ⟨l, v, ll, u, k, y, rfl, HO.out, HL.out, by omega, hll, HBD.out, k0, k1, by omega, by omega, HBB.out⟩
  · go_wp2
    refine bodyPost_ret (v := .tuple #[v, u, .int .i64 k, .int .i64 (y - 4)]) (by simp [results, Try.results11, go_sem, *]) rfl ?_
    exact ⟨l, v, ll, u, k, y - 4, rfl, HO.out, HL.out, by omega, hll, HBD.out, k0, k1, by omega, by omega, HBB.out⟩
def DrawnR1O (w : World) (e : Ending) (w' : World) : Prop := ∃ ll u a, e = .returned (.tuple #[u, Rc.val a]) ∧ OwnLL w' w.heap.size w.heap.size u ll ∧ ll.length ≤ 4 ∧ Below w.heap.size w w'
theorem end1O {w w1 w2 w' : World} {u : Value} {ll : List (List Int)} {a : Rc} (h1 : w.heap.size ≤ w1.heap.size) (h : FM w w1 w2 w') (ho : OwnLL w2 w1.heap.size w1.heap.size u ll) (hl : ll.length ≤ 4) : DrawnR1O w (.returned (.tuple #[u, Rc.val a])) w' :=
  ⟨ll, u, a, rfl, (ho.same h.1 fun k a b => h.2.1 k (by omega) b).less h1 h1, hl, h.2.2⟩
set_option maxHeartbeats 2000000 in
theorem dRcValid_own (A : Option Addr) (n c : Nat) (hnc : n ≤ c) (hn : n ≤ maxLen) (w : World) (hb : Bytes w w.heap.size A n) :
    Calls Try.prog 36 #[.slice A n c] w (DrawnR1O w) := by
  have hB := (Below.refl w.heap.size w).alloc (Nat.le_refl _) (.cells #[.int .i64 0, .int .i64 0, .int .i64 0] TRc)
  have hG := heap_alloc_new w (.cells #[.int .i64 0, .int .i64 0, .int .i64 0] TRc)
  have hS : (w.alloc (.cells #[.int .i64 0, .int .i64 0, .int .i64 0] TRc)).heap.size = w.heap.size + 1 := by simp
  go_enter Try.func36, Try.ntmps36
  go_wp2_with fail
  refine (l6Open_any A n c hnc hn _ ((hb.below hB (Nat.le_refl _)).more hB.size)).mono ?_
  rintro e w1 ⟨rfl, ⟨n', c', hr⟩, hb1⟩
  rw [hS] at hr hb1 ⊢
  have hr1 : RdN w1 (w.heap.size + 1) 0 := ⟨_, _, _, _, hr, Nat.le_refl _⟩
  have hR := hr1.lt
  have hG1 := (hb1.block w.heap.size (by omega)).trans hG
  have HB1 := Lib.hid (hB.trans (hb1.mono (by omega)))
  clear hr hb hb1 hB hG hS
  go_wp2_with fail
  refine (ladder_any (w.heap.size + 1) 0 (by omega) _ hr1).mono ?_
  rintro e w2 ⟨u, ll, rfl, ho, hl, hr2, hg2⟩
  obtain ⟨Al, cl, hv, hc1, hc2, _⟩ := ho.form
  subst hv
  have hF2 : FM w w1 w2 w2 := ⟨Nat.le_refl _, fun _ _ _ => rfl, HB1.out.trans (grown_old hg2 (by omega) HB1.out.size)⟩
  have hG2 := grown_blk hg2 hG1 (by omega)
  go_wp2_with fail
  refine (recode_any (w.heap.size + 1) _ (by omega) Al ll.length cl (by omega) _ hr2).mono ?_
  rintro e w3 ⟨a, rfl, hia, hr3, hg3⟩
  have hF3 := hF2.grown hg3 (by omega) hR
  have hG3 := grown_blk hg3 hG2 (by omega)
  have HF4 := Lib.hid (hF3.alloc (.cells #[.int .i64 a.area, .int .i64 a.job, .int .i64 a.sex] TRc))
  have hQ4 := heap_alloc_new w3 (.cells #[.int .i64 a.area, .int .i64 a.job, .int .i64 a.sex] TRc)
  have hG4 := keep1 (o := .cells #[.int .i64 a.area, .int .i64 a.job, .int .i64 a.sex] TRc) hG3
  have hz3 : w2.heap.size ≤ w3.heap.size := hF3.1
  have hz2 : w1.heap.size ≤ w2.heap.size := hg2.size
  have HO := Lib.hid ho
  clear ho hF2 hF3 hg2 hg3 hG1 hG2 hG3 hr1 hr2
  go_wp2_with fail
  refine (pick_any 8 (by omega) (by omega) (w.heap.size + 1) _ (by omega) _ (hr3.alloc _)).mono ?_
  rintro e w5 ⟨y, rfl, y0, y1, hr5, hg5⟩
  have HF5 := Lib.hid (HF4.out.grown hg5 (by omega) hR)
  have hQ5 := grown_blk hg5 hQ4 (by omega)
  have hG5 := grown_blk hg5 hG4 (by omega)
  obtain ⟨c0, c1, c2, f0, f1, f2⟩ := blk3 hQ5
  obtain ⟨d0, d1, d2, e0, e1, e2⟩ := blk3 hG5
  have hn1 : ¬ w3.heap.size = w.heap.size := by omega
  have hn2 : ¬ w.heap.size = w3.heap.size := by omega
  have hz5 : w3.heap.size < w5.heap.size := (Array.getElem?_eq_some_iff.1 hQ5).1
  clear hQ5 hG5 hQ4 hG4 hg5 hr3 hr5 hia
  by_cases hy : y = 0
  · subst hy
    go_wp2
    go_region
    all_goals
      go_wp2
      refine bodyPost_ret (v := .tuple #[.slice Al ll.length cl, Rc.val ⟨a.area, a.job, -1⟩]) (by simp [results, Try.results36, go_sem, *]) rfl ?_
      exact end1O (a := ⟨a.area, a.job, -1⟩) HB1.out.size (FM.drew ((((HF5.out.set ⟨w3.heap.size, 2, none⟩ (by simp; omega) (.inr hz3) _).set ⟨w.heap.size, 0, none⟩ (Nat.le_refl _) (.inl (by simp; omega)) _).set ⟨w.heap.size, 1, none⟩ (Nat.le_refl _) (.inl (by simp; omega)) _).set ⟨w.heap.size, 2, none⟩ (Nat.le_refl _) (.inl (by simp; omega)) _)) HO.out hl
  · have hyb : (y == 0) = false := by rw [beq_eq_false_iff_ne]; exact hy
    clear hy
    go_wp2
    go_region
    all_goals
      go_wp2
      refine bodyPost_ret (v := .tuple #[.slice Al ll.length cl, Rc.val a]) (by simp [results, Try.results36, go_sem, *]) rfl ?_
      exact end1O HB1.out.size (FM.drew (((HF5.out.set ⟨w.heap.size, 0, none⟩ (Nat.le_refl _) (.inl (by simp; omega)) _).set ⟨w.heap.size, 1, none⟩ (Nat.le_refl _) (.inl (by simp; omega)) _).set ⟨w.heap.size, 2, none⟩ (Nat.le_refl _) (.inl (by simp; omega)) _)) HO.out hl
set_option maxHeartbeats 1000000 in
theorem dAnonCost_any (A : Option Addr) (n c : Nat) (hnc : n ≤ c) (hn : n ≤ maxLen) (w : World) (hb : Bytes w w.heap.size A n) :
    Calls Try.prog 19 #[.slice A n c] w (DrawnR1 w) := by
  have hB := (Below.refl w.heap.size w).alloc (Nat.le_refl _) (.cells #[.int .i64 0, .int .i64 0, .int .i64 0] TRc)
  have hG := heap_alloc_new w (.cells #[.int .i64 0, .int .i64 0, .int .i64 0] TRc)
  have hS : (w.alloc (.cells #[.int .i64 0, .int .i64 0, .int .i64 0] TRc)).heap.size = w.heap.size + 1 := by simp
  go_enter Try.func19, Try.ntmps19
  go_wp2_with fail
  refine (dRcValid_own A n c hnc hn _ ((hb.below hB (Nat.le_refl _)).more hB.size)).mono ?_
  rintro e w2 ⟨ll, u, r, rfl, hlo, hll, h2⟩
  rw [hS] at hlo h2
  obtain ⟨c0, c1, c2, f0, f1, f2⟩ := blk3 ((h2.block w.heap.size (by omega)).trans hG)
  have HB := Lib.hid (hB.trans (h2.mono (by omega)))
  have HL := Lib.hid hlo
  have hz : w.heap.size < w2.heap.size := by have := h2.size; omega
  clear hlo h2 hB hG hS hb
  go_wp2
  refine bodyPost_ret (v := .tuple #[u, Rc.val r]) (by simp [results, Try.results19, go_sem, *]) rfl ?_
  have hw1 : w.heap.size < w.heap.size + 1 := by omega
  exact ⟨ll, u, r, rfl, OwnLL.isRx (((HL.out.far hw1 hw1 0 _).far hw1 hw1 1 _).far hw1 hw1 2 _), hll,
    below_set (below_set (below_set HB.out (p := ⟨w.heap.size, 0, none⟩) (Nat.le_refl _) _) (p := ⟨w.heap.size, 1, none⟩) (Nat.le_refl _) _) (p := ⟨w.heap.size, 2, none⟩) (Nat.le_refl _) _⟩
end Go.Proofs.Ytghhhdcbpcdhfaa
