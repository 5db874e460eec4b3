/- The draws of chapter 15: two lists of people. -/
import Derived.Test.YtjgohakiodcjmaaS1
import Derived.Test.YtjgohakiodcjmaaA4
set_option maxRecDepth 100000
namespace Go.Proofs.Ytjgohakiodcjmaa
open Go.RowKit
def DrawnPP (w : World) (e : Ending) (w' : World) : Prop := ∃ v a v2 b, e = .returned (.tuple #[v, v2]) ∧ IsP w' v a ∧ IsP w' v2 b ∧ a.length ≤ 8 ∧ b.length ≤ 9 ∧ Below w.heap.size w w'
theorem own_one (w : World) (p : Pn) (B : Nat) (hB : B ≤ w.heap.size) : Own (w.alloc (lit1 p)) B (.slice (some ⟨w.heap.size, 0, none⟩) 1 1) [p] := by
  unfold Own
  refine ⟨by simp [pcells, Pn.cells], .inr ⟨w.heap.size, 1, #[.int .i64 p.area, .int .i64 p.job, .int .i64 p.sex, .int .i64 p.pay], by simp, hB, heap_alloc_new w _, by simp, by simp [maxLen], by simp, by simp [pcells, Pn.cells]⟩⟩
theorem own_keep {w w' : World} {B N : Nat} {v : Value} {l : List Pn} {row : Option Nat} (h : Own w B v l) (hg : w.grownBy w' row) (hv : ∀ k, v.ownBlock = some k → k < N) (hr : ∀ g, row = some g → N ≤ g) : Own w' B v l := by
  refine World.ownsRow.kept h hg ?_
  rcases hb : v.ownBlock with _ | k
  · exact .inl rfl
  · right; intro e; have := hv k hb; have := hr k e.symm; omega
set_option maxRecDepth 100000 in
set_option maxHeartbeats 4000000 in
theorem dDiffPeople_any (A : Option Addr) (n c : Nat) (hnc : n ≤ c) (hn : n ≤ maxLen) (w : World) (hb : Bytes w w.heap.size A n) :
    Calls Try.prog 12 #[.slice A n c] w (DrawnPP w) := by
  go_enter Try.func12, Try.ntmps12
  go_wp2_with fail
  refine (l6Open_any A n c hnc hn _ hb).mono ?_
  rintro e w1 ⟨rfl, ⟨n', c', hr⟩, hb1⟩
  have hr1 : RdN w1 w.heap.size 0 := ⟨_, _, _, _, hr, Nat.le_refl _⟩
  clear hr hb
  have hR := hr1.lt
  have HB1 := Lib.hid hb1; clear hb1
  go_wp2_with fail
  refine (people_any 8 (by omega) w.heap.size 0 (by omega) _ hr1).mono ?_
  rintro e w2 ⟨l, v, rfl, ho2, hl, hbd, hr2, hg2⟩
  clear hbd hr1
  obtain ⟨A2, c2, rfl, hc1, hc2, _, _⟩ := ho2.form
  have hw12 : w1.heap.size ≤ w2.heap.size := hg2.size
  obtain ⟨q, hq, hr2⟩ : ∃ q, q < 1000 ∧ RdN w2 w.heap.size q := ⟨_, by omega, hr2⟩
  obtain ⟨y, hy⟩ : ∃ y, y = l.length := ⟨_, rfl⟩
  have HY := Lib.hid hy
  rw [← hy] at ho2 hc1 hl ⊢
  have hW2 : Below w2.heap.size w2 (w2.alloc (.cells #[] TP)) := (Below.refl _ _).alloc (Nat.le_refl _) _
  have HREL := Lib.hid (show Own (w2.alloc (.cells #[] TP)) w2.heap.size (.slice (some ⟨w2.heap.size, 0, none⟩) 0 0) [] ∧ Own (w2.alloc (.cells #[] TP)) w1.heap.size (.slice A2 y c2) l ∧ RdN (w2.alloc (.cells #[] TP)) w.heap.size (q + 0) ∧ w1.grownBy (w2.alloc (.cells #[] TP)) (some w.heap.size) from
    ⟨World.ownsRow_made w2 #[] 0 (Nat.le_refl _) (by simp [maxLen]) rfl, ho2.alloc _, hr2.alloc _, grown_alloc hg2 _⟩)
  have HAB := Lib.hid (show ∀ k, (Value.slice A2 y c2).ownBlock = some k → k < w2.heap.size from fun k e => (World.ownsRow.lt ho2 k e).2)
  have hR2 : w.heap.size < w2.heap.size := by omega
  clear hr2 hg2 ho2 hW2 hy
  go_wp2
  go_loopw [6, 7] (fun b i wr => ∃ (k : Nat) (m : List Pn), k ≤ y ∧ i = .int .i64 k ∧ m.length ≤ k ∧ Own wr w2.heap.size b m ∧ Own wr w1.heap.size (.slice A2 y c2) l ∧ RdN wr w.heap.size (q + k) ∧ w1.grownBy wr (some w.heap.size) ∧ w2.heap.size ≤ wr.heap.size) (fun _ i _ => y - (intOf i).toNat)
  case atStart => exact ⟨0, [], Nat.zero_le _, rfl, Nat.le_refl _, HREL.out.1, HREL.out.2.1, HREL.out.2.2.1, HREL.out.2.2.2, by simp⟩
  case round =>
    obtain ⟨k, m, hk, rfl, hmk, ho, hot, hrd, hgr, hzr⟩ := hrel
    clear HREL
    by_cases hlt : k < y
    · have hki : (k : Int) < (y : Int) := by omega
      have HO := Lib.hid ho
      have HOT := Lib.hid hot
      have HG := Lib.hid hgr
      clear ho hot hgr
      go_wp2_with fail
      refine (pick_any 3 (by omega) (by omega) w.heap.size (q + k) (by omega) _ hrd).mono ?_
      rintro e w3 ⟨x, rfl, x0, x1, hr3, hg3⟩
      have HO3 := Lib.hid (HO.out.kept hg3 hR2)
      have hz23 : w2.heap.size ≤ w3.heap.size := Nat.le_trans hzr hg3.size
      have HT3 := Lib.hid (HOT.out.kept hg3 hR)
      have HG3 := Lib.hid (grown_trans HG.out hg3)
      have HR3 := Lib.hid (hr3.more (q' := q + (k + 1)) (by omega))
      clear hrd hr3 hg3 HO HOT HG
      by_cases hx : 0 < x
      · obtain ⟨bq, o, hA, hbw, p0, p1, p2, p3⟩ := HT3.out.row.at_ k (by rw [← HY.out]; exact hlt)
        subst hA
        obtain ⟨p, hp⟩ : ∃ p, l[k]'(by rw [← HY.out]; exact hlt) = p := ⟨_, rfl⟩
        rw [hp] at p0 p1 p2 p3
        obtain ⟨A4, c4, hv4, hd1, hd2, hrow4, _⟩ := HO3.out.form
        subst hv4
        have hz3 := HG3.out.size
        have HLEN := Lib.hid (show [p].length + m.length ≤ 1000000 by simp; omega)
        have HM := Lib.hid (own_one w3 p w2.heap.size hz23)
        have HROW := Lib.hid (hrow4.below ((Below.refl w3.heap.size w3).alloc (Nat.le_refl _) (lit1 p)) (Nat.le_refl _))
        have HGA := Lib.hid (grown_alloc HG3.out (lit1 p))
        have HTA := Lib.hid (HT3.out.alloc (lit1 p))
        have HRA := Lib.hid (HR3.out.alloc (lit1 p))
        clear hp hrow4 hd1 hd2
        go_wp2_with (at_builtin
                     go_loud (refine app_people rfl (.tmp 26) (.tmp 27) rfl w2.heap.size (.slice (some ⟨w3.heap.size, 0, none⟩) 1 1) [p] rfl HM.out w3.heap.size A4 m.length c4 m rfl rfl HROW.out HLEN.out (by simp; omega) ?_)
                     intro v5 w5 ho5 hg5
                     have hne : ∀ g, (Value.slice (some ⟨w3.heap.size, 0, none⟩) 1 1).ownBlock = some g → w3.heap.size ≤ g := fun g e => by
                       have e2 : some w3.heap.size = some g := e
                       injection e2 with e2; omega
                     have HO5 := Lib.hid ho5
                     have HT5 := Lib.hid (own_keep HTA.out hg5 HAB.out fun g e => Nat.le_trans hz23 (hne g e))
                     have HG5 := Lib.hid (grown_new HGA.out hg5 (fun g e => by have := hne g e; omega))
                     have HR5 := Lib.hid (HRA.out.grown hg5 (fun g e => by have := hne g e; omega))
                     have hz5 : w2.heap.size ≤ w5.heap.size := Nat.le_trans (Nat.le_trans hz23 (by simp)) hg5.size
                     clear ho5 hg5 hne)
        go_roundw
        case rel => exact ⟨k + 1, [p] ++ m, by omega, by go_num, by simp; omega, HO5.out, HT5.out, HR5.out, HG5.out, hz5⟩
        case measure => simp [intOf]; omega
      · clear x0 x1
        go_wp2
        go_roundw
        case rel => exact ⟨k + 1, m, by omega, by go_num, by omega, HO3.out, HT3.out, HR3.out, HG3.out, hz23⟩
        case measure => simp [intOf]; omega
    · have hki : ¬ (k : Int) < (y : Int) := by omega
      have HO := Lib.hid ho
      have HOT := Lib.hid hot
      have HG := Lib.hid hgr
      clear ho hot hgr
      go_wp2_with fail
      refine (pick_any 4 (by omega) (by omega) w.heap.size (q + k) (by omega) _ hrd).mono ?_
      rintro e w3 ⟨x, rfl, x0, x1, hr3, hg3⟩
      have HO3 := Lib.hid (HO.out.kept hg3 hR2)
      have hz23 : w2.heap.size ≤ w3.heap.size := Nat.le_trans hzr hg3.size
      have HT3 := Lib.hid (HOT.out.kept hg3 hR)
      have HG3 := Lib.hid (grown_trans HG.out hg3)
      clear hrd hg3 HO HOT HG
      by_cases hx : x = 0
      · subst hx
        go_wp2_with fail
        refine (person_any w.heap.size (q + k + 1) (by omega) _ hr3).mono ?_
        rintro e w4 ⟨p, rfl, hp, hr4, hg4⟩
        have HO4 := Lib.hid (HO3.out.kept hg4 hR2)
        have HT4 := Lib.hid (HT3.out.kept hg4 hR)
        have HG4 := Lib.hid (grown_trans HG3.out hg4)
        have hz4 := HG4.out.size
        have hz24 : w2.heap.size ≤ w4.heap.size := Nat.le_trans hz23 hg4.size
        clear hr4 hg4 hr3 hp
        obtain ⟨A4, c4, hv4, _, _, _, _⟩ := HO4.out.form
        subst hv4
        have HLEN := Lib.hid (show m.length + [p].length ≤ 1000000 by simp; omega)
        have HOB := Lib.hid (HO4.out.ob)
        go_wp2_with (at_builtin
                     go_loud (refine app_people rfl (.tmp 32) (.tmp 35) rfl w2.heap.size (.slice A4 m.length c4) m rfl (HO4.out.alloc _) (w4.heap.size + 1) (some ⟨w4.heap.size, 0, none⟩) 1 1 [p] rfl rfl (row_new _ _ _) HLEN.out (by simp; omega) ?_)
                     intro v5 w5 ho5 hg5
                     have HO5 := Lib.hid ho5
                     have HT5 := Lib.hid (own_keep (HT4.out.alloc _) hg5 HAB.out fun g e => HOB.out g e)
                     have HG5 := Lib.hid (grown_new (grown_alloc HG4.out (lit1 p)) hg5 (fun g e => by have := HOB.out g e; omega))
                     clear ho5 hg5)
        go_ret2
        exact ⟨_, l, _, m ++ [p], rfl, HT5.out.isP', HO5.out.isP', by rw [← HY.out]; exact hl, by simp; omega, HB1.out.trans (grown_old HG5.out (Nat.le_refl _) (by omega))⟩
      · clear hr3
        go_wp2
        go_ret2
        exact ⟨_, l, _, m, rfl, HT3.out.isP', HO3.out.isP', by rw [← HY.out]; exact hl, by omega, HB1.out.trans (grown_old HG3.out (Nat.le_refl _) (by omega))⟩
end Go.Proofs.Ytjgohakiodcjmaa
