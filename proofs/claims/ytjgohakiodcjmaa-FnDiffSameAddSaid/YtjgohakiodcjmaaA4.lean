/- People in memory, by their value. Words for 'append(append([]Person{}, list...), p)' in a drawn region. samePeople, by values. -/
import Derived.Test.YtjgohakiodcjmaaA2
import Derived.Deep.RegionLaw
import Derived.Test.YtjgohakiodcjmaaA1
set_option maxRecDepth 100000
namespace Go.Proofs.Ytjgohakiodcjmaa
open Go.RowKit
def Drawn (R q : Nat) (w : World) (e : Ending) (w' : World) : Prop :=
  ∃ p : Pn, e = .returned p.val ∧ okP p = true ∧ RdN w' R (q + 5) ∧ w.grownBy w' (some R)
theorem person_any (R q : Nat) (hq : q + 5 < 1000000) (w : World) (hr : RdN w R q) :
    Calls Try.prog 38 #[.pointer (some ⟨R, 0, none⟩)] w (Drawn R q w) := by
  have hR := hr.lt
  go_enter Try.func38, Try.ntmps38
  go_wp2_with fail
  refine (pick_any 4 (by omega) (by omega) R q (by omega) _ (hr.alloc _)).mono ?_
  rintro e w1 ⟨v1, rfl, a1, b1, hr1, hg1⟩
  go_wp2_with fail
  refine (pick_any 3 (by omega) (by omega) R (q + 1) (by omega) _ hr1).mono ?_
  rintro e w2 ⟨v2, rfl, a2, b2, hr2, hg2⟩
  go_wp2_with fail
  refine (pick_any 2 (by omega) (by omega) R (q + 2) (by omega) _ hr2).mono ?_
  rintro e w3 ⟨v3, rfl, a3, b3, hr3, hg3⟩
  go_wp2_with fail
  refine (pick_any 10 (by omega) (by omega) R (q + 3) (by omega) _ hr3).mono ?_
  rintro e w4 ⟨v4, rfl, a4, b4, hr4, hg4⟩
  go_wp2_with fail
  refine (pick_any 100 (by omega) (by omega) R (q + 4) (by omega) _ hr4).mono ?_
  rintro e w5 ⟨v5, rfl, a5, b5, hr5, hg5⟩
  have hg := grown_trans (grown_trans (grown_trans (grown_trans hg1 hg2) hg3) hg4) hg5
  have hblk := new_block hg hR
  have HB := Lib.hid hblk; clear hblk
  have HG := Lib.hid hg; clear hg
  have HR5 := Lib.hid hr5; clear hr5
  clear hr1 hr2 hr3 hr4 hg1 hg2 hg3 hg4 hg5
  have c0 := cell_of_row w5 w.heap.size 0 _ _ _ HB.out
  have c1 := cell_of_row w5 w.heap.size 1 _ _ _ HB.out
  have c2 := cell_of_row w5 w.heap.size 2 _ _ _ HB.out
  have c3 := cell_of_row w5 w.heap.size 3 _ _ _ HB.out
  have f0 := frozen_of_row w5 w.heap.size 0 _ _ HB.out
  have f1 := frozen_of_row w5 w.heap.size 1 _ _ HB.out
  have f2 := frozen_of_row w5 w.heap.size 2 _ _ HB.out
  have f3 := frozen_of_row w5 w.heap.size 3 _ _ HB.out
  go_wp2
  refine bodyPost_ret (v := Pn.val ⟨v1, v2, v3, v4 * 100 + v5⟩) (by simp [results, Try.results38, go_sem, c0, c1, c2, c3]) rfl ?_
  refine ⟨⟨v1, v2, v3, v4 * 100 + v5⟩, rfl, ?_, ?_, ?_⟩
  · simp [okP, inC]; omega
  · have h4 := (((HR5.out.setCell (a := ⟨w.heap.size, 0, none⟩) hR (.int .i64 v1)).setCell (a := ⟨w.heap.size, 1, none⟩) hR (.int .i64 v2)).setCell (a := ⟨w.heap.size, 2, none⟩) hR (.int .i64 v3)).setCell (a := ⟨w.heap.size, 3, none⟩) hR (.int .i64 (v4 * 100 + v5))
    exact h4
  · have g := grown_trans (World.grownBy_alloc w (.cells #[.int .i64 0, .int .i64 0, .int .i64 0, .int .i64 0] 43) (some R)) HG.out
    exact grown_set (grown_set (grown_set (grown_set g (p := ⟨w.heap.size, 0, none⟩) (.inr (Nat.le_refl _)) _) (p := ⟨w.heap.size, 1, none⟩) (.inr (Nat.le_refl _)) _) (p := ⟨w.heap.size, 2, none⟩) (.inr (Nat.le_refl _)) _) (p := ⟨w.heap.size, 3, none⟩) (.inr (Nat.le_refl _)) _
end Go.Proofs.Ytjgohakiodcjmaa
namespace Go.Proofs.Ytjgohakiodcjmaa
open Go.RowKit
abbrev TP : TypeId := 43
abbrev TPS : TypeId := 23
theorem info_P : (Try.prog.info? TP).map (fun i => (i.zero, i.size, i.bytes)) = some (some (.agg #[.int .i64 0, .int .i64 0, .int .i64 0, .int .i64 0]), 4, 32) := by kernel_rfl
def Own (w : World) (B : Nat) (v : Value) (l : List Pn) : Prop := w.ownsRow B TP 4 v l.length (pcells l)
theorem Own.form {w : World} {B : Nat} {v : Value} {l : List Pn} (h : Own w B v l) : ∃ A c, v = .slice A l.length c ∧ l.length ≤ c ∧ c ≤ maxLen ∧ Row w w.heap.size A (pcells l) ∧ (∀ a, A = some a → B ≤ a.block) := by
  obtain ⟨h1, h2⟩ := h
  rcases h2 with ⟨rfl, h0⟩ | ⟨g, cap, cur, rfl, hg, hh, hnc, hc, hsz, ht⟩
  · have : l = [] := List.eq_nil_of_length_eq_zero h0
    subst this
    exact ⟨none, 0, rfl, Nat.le_refl _, by simp [maxLen], .inl rfl, fun a h => by cases h⟩
  · refine ⟨some ⟨g, 0, none⟩, cap, rfl, hnc, hc, .inr ⟨g, 0, rfl, (Array.getElem?_eq_some_iff.1 hh).1, fun j u hu => ?_⟩, fun a h => by injection h with h; subst h; exact hg⟩
    rw [Nat.zero_add, cell_of_row w g j cur TP (0, 0) hh]
    rw [← ht, List.getElem?_take] at hu
    split at hu
    · simpa using hu
    · cases hu
theorem Own.kept {w w' : World} {B : Nat} {v : Value} {l : List Pn} {R : Nat} (h : Own w B v l) (hg : w.grownBy w' (some R)) (hR : R < B) : Own w' B v l := by
  refine World.ownsRow.kept h hg ?_
  rcases hb : v.ownBlock with _ | k
  · exact .inl rfl
  · right; intro e; injection e with e; have := (World.ownsRow.lt h k hb).1; omega
theorem Own.row {w : World} {B : Nat} {A : Option Addr} {n c : Nat} {l : List Pn} (h : Own w B (.slice A n c) l) : Row w w.heap.size A (pcells l) := by
  obtain ⟨A', c', hv, _, _, hr, _⟩ := h.form
  injection hv with h1 h2 h3
  subst h1
  exact hr
theorem Own.alloc {w : World} {B : Nat} {v : Value} {l : List Pn} (h : Own w B v l) (o : Obj) : Own (w.alloc o) B v l := World.ownsRow.alloc h o
theorem Own.far {w : World} {B : Nat} {v : Value} {l : List Pn} (h : Own w B v l) {Q : Nat} (hQ : ∀ k, v.ownBlock = some k → k ≠ Q) (o : Nat) (x : Value) : Own (w.setCell ⟨Q, o, none⟩ x) B v l := by
  obtain ⟨h1, h2⟩ := h
  refine ⟨h1, ?_⟩
  rcases h2 with h2 | ⟨g, cap, cur, rfl, hg, hh, r⟩
  · exact .inl h2
  · exact .inr ⟨g, cap, cur, rfl, hg, (Below.heap_setCell w ⟨Q, o, none⟩ x g (hQ g rfl)).trans hh, r⟩
theorem pcells_one (p : Pn) : pcells [p] = p.cells := by simp [pcells]
theorem pcells_snoc (l : List Pn) (p : Pn) : pcells l ++ p.cells = pcells (l ++ [p]) := by simp [pcells]
theorem cells_one (p : Pn) : ∀ u ∈ p.cells, u.oneCell' = true := by
  intro u hu; simp only [Pn.cells, List.mem_cons, List.not_mem_nil, or_false] at hu; rcases hu with rfl | rfl | rfl | rfl <;> rfl

theorem append_rel {w W w' : World} {R q k : Nat} {l : List Pn} {p : Pn} {v v' : Value} (hR : R < w.heap.size) (ho : Own W w.heap.size v l) (hown : w'.ownsRow w.heap.size TP 4 v' (l.length + 1) (pcells l ++ p.cells)) (hg : W.grownBy w' v.ownBlock)
    (hlk : l.length = k) (hall : l.all okP = true) (hp : okP p = true) (hr : RdN W R (q + 1 + 8 * k + 8)) (hw : w.grownBy W (some R)) :
    Own w' w.heap.size v' (l ++ [p]) ∧ (l ++ [p]).length = k + 1 ∧ (l ++ [p]).all okP = true ∧ RdN w' R (q + 1 + 8 * (k + 1)) ∧ w.grownBy w' (some R) := by
  have hrow : ∀ g, v.ownBlock = some g → w.heap.size ≤ g := fun g hgb => (World.ownsRow.lt ho g hgb).1
  refine ⟨?_, by simp [hlk], by simp [hall, hp], (hr.grown hg fun g hgb => by have := hrow g hgb; omega).more (by omega), grown_new hw hg hrow⟩
  unfold Own
  rw [← pcells_snoc, List.length_append]
  exact hown
theorem cells_at {W : World} {g : Nat} {p : Pn} {t : TypeId} (h : W.heap[g]? = some (.cells #[.int .i64 p.area, .int .i64 p.job, .int .i64 p.sex, .int .i64 p.pay] t (0, 0))) :
    ∀ j u, p.cells[j]? = some u → W.cell? ((⟨g, 0, none⟩ : Addr).add j) = some u := by
  intro j u hu
  rw [Addr.add_lit, Nat.zero_add, cell_of_row W g j _ _ _ h, ← hu]
  simp [Pn.cells]
theorem set4 {w : World} {g : Nat} {t : TypeId} {a0 a1 a2 a3 : Value} (h : w.heap[g]? = some (.cells #[a0, a1, a2, a3] t (0, 0))) (b0 b1 b2 b3 : Value) :
    ((((w.setCell ⟨g, 0, none⟩ b0).setCell ⟨g, 1, none⟩ b1).setCell ⟨g, 2, none⟩ b2).setCell ⟨g, 3, none⟩ b3).heap[g]? = some (.cells #[b0, b1, b2, b3] t (0, 0)) := by
  simp [World.setCell, Array.getElem?_modify, h]
theorem block_keep {w w' : World} {R g : Nat} {t : TypeId} {a0 a1 a2 a3 : Value} (hg : w.drew.grownBy w' (some R)) (h : Hid (w.heap[g]? = some (.cells #[a0, a1, a2, a3] t (0, 0)))) (hR : R < g) :
    Hid (w'.heap[g]? = some (.cells #[a0, a1, a2, a3] t (0, 0))) ∧ w'.cell? ⟨g, 3, none⟩ = some a3 ∧ w'.frozen? ⟨g, 3, none⟩ = false := by
  have h2 := (hg.block g (Array.getElem?_eq_some_iff.1 h.out).1 (fun e => by injection e; omega)).trans h.out
  exact ⟨h2, cell_of_row w' g 3 _ _ _ h2, frozen_of_row w' g 3 _ _ h2⟩
theorem last_rel {w w6 w7 : World} {R Q q : Nat} {p : Pn} {m : Int} {v : Value} {l : List Pn} (h : w7 = w6.setCell ⟨Q, 3, none⟩ (.int .i64 m)) (hb : Hid (w6.heap[Q]? = some (.cells #[.int .i64 p.area, .int .i64 p.job, .int .i64 p.sex, .int .i64 p.pay] TP (0, 0))))
    (hr : RdN w6 R q) (ho : Own w6 w.heap.size v l) (hg : w.grownBy w6 (some R)) (hRQ : R < Q) (hw : w.heap.size ≤ Q) (hf : ∀ g, v.ownBlock = some g → g ≠ Q) :
    Hid (w7.heap[Q]? = some (.cells #[.int .i64 p.area, .int .i64 p.job, .int .i64 p.sex, .int .i64 m] TP (0, 0))) ∧ RdN w7 R q ∧ Hid (Own w7 w.heap.size v l) ∧ Hid (w.grownBy w7 (some R)) ∧ w.heap.size ≤ w7.heap.size := by
  subst h
  have hg7 := grown_set hg (p := ⟨Q, 3, none⟩) (.inr hw) (.int .i64 m)
  refine ⟨?_, hr.setCell (a := ⟨Q, 3, none⟩) hRQ _, ho.far hf _ _, hg7, hg7.size⟩
  have h2 := hb.out
  show (w6.setCell ⟨Q, 3, none⟩ (.int .i64 m)).heap[Q]? = _
  simp [World.setCell, Array.getElem?_modify, h2]
theorem pay_ok {p : Pn} {m : Int} (h : okP p = true) (hm : 0 ≤ m ∧ m ≤ 999) : okP ⟨p.area, p.job, p.sex, m⟩ = true := by
  simp only [okP, Bool.and_eq_true, decide_eq_true_eq] at *
  exact ⟨⟨h.1.1, hm.1⟩, hm.2⟩
theorem Own.head {w : World} {B : Nat} {v : Value} {p : Pn} {l : List Pn} (h : Own w B v (p :: l)) :
    ∃ g c, v = .slice (some ⟨g, 0, none⟩) (l.length + 1) c ∧ B ≤ g ∧ g < w.heap.size ∧ (∀ j u, p.cells[j]? = some u → w.cell? ⟨g, j, none⟩ = some u ∧ w.frozen? ⟨g, j, none⟩ = false) ∧
      ∀ j x p', j < 4 → p'.cells = p.cells.set j x → Own (w.setCell ⟨g, j, none⟩ x) B v (p' :: l) := by
  obtain ⟨h1, h2⟩ := h
  rcases h2 with ⟨_, h0⟩ | ⟨g, cap, cur, rfl, hg, hh, hnc, hc, hsz, ht⟩
  · simp at h0
  · refine ⟨g, cap, rfl, hg, (Array.getElem?_eq_some_iff.1 hh).1, fun j u hu => ⟨?_, frozen_of_row w g j _ _ hh⟩, fun j x p' hj hp' => ⟨by simp [pcells_length], .inr ⟨g, cap, cur.setIfInBounds j x, rfl, hg, ?_, hnc, hc, by simpa using hsz, ?_⟩⟩⟩
    · rw [cell_of_row w g j cur TP (0, 0) hh]
      have hj : j < 4 := by have := (List.getElem?_eq_some_iff.1 hu).1; simpa [Pn.cells] using this
      have e : (pcells (p :: l))[j]? = some u := by
        have e2 : pcells (p :: l) = p.cells ++ pcells l := by simp [pcells]
        rw [e2, List.getElem?_append_left (by simp [Pn.cells]; omega)]; exact hu
      rw [← ht, List.getElem?_take] at e
      split at e
      · simpa using e
      · cases e
    · simp [World.setCell, Array.getElem?_modify, hh]
    · have e2 : pcells (p :: l) = p.cells ++ pcells l := by simp [pcells]
      have e3 : pcells (p' :: l) = p'.cells ++ pcells l := by simp [pcells]
      have ht' : cur.toList.take ((l.length + 1) * 4) = p.cells ++ pcells l := by rw [← e2]; exact ht
      have e4 : (cur.setIfInBounds j x).toList.take ((l.length + 1) * 4) = (cur.toList.take ((l.length + 1) * 4)).set j x := by
        rw [Array.toList_setIfInBounds, List.take_set]
      show (cur.setIfInBounds j x).toList.take ((l.length + 1) * 4) = _
      rw [e4, ht', e3, hp', List.set_append_left _ _ (by simp [Pn.cells]; omega)]
def Bd (p : Pn) : Prop := -10 ≤ p.area ∧ p.area ≤ 1000 ∧ -10 ≤ p.job ∧ p.job ≤ 1000 ∧ -10 ≤ p.sex ∧ p.sex ≤ 1000 ∧ -10 ≤ p.pay ∧ p.pay ≤ 1000
theorem okP_bd {p : Pn} (h : okP p = true) : Bd p := by
  simp [okP, inC] at h; unfold Bd; omega
theorem end_rel {w w8 : World} {R q most g : Nat} {p p' : Pn} {l : List Pn} {v x : Value} {j : Nat} (hs : Own (w8.setCell ⟨g, j, none⟩ x) w.heap.size v (p' :: l)) (hl : (p :: l).length ≤ most)
    (hall : (p :: l).all okP = true) (hp : Bd p') (hr : RdN w8 R q) (hg : w.grownBy w8 (some R)) (hR : R < g) (hgb : w.heap.size ≤ g) :
    ∃ l v', Ending.returned v = Ending.returned v' ∧ Own (w8.setCell ⟨g, j, none⟩ x) w.heap.size v' l ∧ l.length ≤ most ∧ (∀ p ∈ l, Bd p) ∧ RdN (w8.setCell ⟨g, j, none⟩ x) R q ∧ w.grownBy (w8.setCell ⟨g, j, none⟩ x) (some R) :=
  ⟨p' :: l, v, rfl, hs, by simpa using hl, fun y hy => by
    simp only [List.all_cons, Bool.and_eq_true] at hall
    rcases List.mem_cons.1 hy with rfl | hy
    · exact hp
    · exact okP_bd (List.all_eq_true.1 hall.2 y hy), hr.setCell (a := ⟨g, j, none⟩) hR _, grown_set hg (p := ⟨g, j, none⟩) (.inr hgb) _⟩
def PeopleDrawn (most R q : Nat) (w : World) (e : Ending) (w' : World) : Prop :=
  ∃ l v, e = .returned v ∧ Own w' w.heap.size v l ∧ l.length ≤ most ∧ (∀ p ∈ l, Bd p) ∧ RdN w' R (q + 3 + 8 * most) ∧ w.grownBy w' (some R)

set_option maxHeartbeats 1000000 in
theorem people_any (most : Nat) (hm : most ≤ 100) (R q : Nat) (hq : q + 3 + 8 * most < 1000000) (w : World) (hr : RdN w R q) :
    Calls Try.prog 36 #[.pointer (some ⟨R, 0, none⟩), .int .i64 most] w (PeopleDrawn most R q w) := by
  obtain ⟨i0, hi0, hz0, hz1, hz2⟩ := info_parts info_P
  have hR := hr.lt
  go_enter Try.func36, Try.ntmps36
  go_wp2_with fail
  refine (pick_any (most + 1) (by omega) (by omega) R q (by omega) _ (hr.alloc _)).mono ?_
  rintro e w1 ⟨n, rfl, n0, n1, hr1, hg1⟩
  obtain ⟨n, rfl⟩ := Int.eq_ofNat_of_zero_le n0
  have hg := Lib.hid (grown_trans (World.grownBy_alloc w _ _) hg1)
  have HO := Lib.hid (show Own w1 w.heap.size _ [] from World.ownsRow.kept (World.ownsRow_made w #[] 0 (Nat.le_refl _) (by simp [maxLen]) rfl) hg1 (.inr (by simp [Value.ownBlock]; omega)))
  have HR := Lib.hid hr1
  clear hr1 hg1
  go_wp2_with fail
  go_loopw [5, 7] (fun v i wr => ∃ k : Nat, ∃ l, k ≤ n ∧ i = .int .i64 k ∧ Own wr w.heap.size v l ∧ l.length = k ∧ l.all okP = true ∧ RdN wr R (q + 1 + 8 * k) ∧ w.grownBy wr (some R)) (fun _ i _ => n - (intOf i).toNat)
  case atStart => exact ⟨0, [], Nat.zero_le _, rfl, HO.out, rfl, rfl, HR.out, hg.out⟩
  case round =>
    obtain ⟨k, l, hk, rfl, ho, hlk, hall, hrd, hgr⟩ := hrel
    obtain ⟨A, c, rfl, hc1, hc2, hrow, hA⟩ := ho.form
    have HOw := Lib.hid ho; clear ho
    have HL := Lib.hid hlk
    have HA := Lib.hid hall; clear hall
    have HG := Lib.hid hgr; clear hgr
    have hk1 : l.length ≤ k := by omega
    have hk2 : k ≤ l.length := by omega
    clear hlk HO HR hg
    by_cases hlt : k < n
    · go_wp2_with fail
      refine (person_any R (q + 1 + 8 * k) (by omega) _ hrd).mono ?_
      rintro e w2 ⟨p, rfl, hp, hr2, hg2⟩
      have HP := Lib.hid hp; clear hp
      have HO2 := Lib.hid (HOw.out.kept hg2 hR)
      have HG2 := Lib.hid (grown_trans HG.out hg2)
      clear hg2
      by_cases hpos : 0 < l.length
      rotate_left
      · go_wp2_with (at_builtin; go_loud (refine wpList_append_own _ rfl (.tmp 44) (.tmp 46) TPS rfl w.heap.size TP i0 _ 4 32 Try.underlying23 hi0 hz0 hz1 hz2 rfl (by omega) _ _ _ rfl ((HO2.out.alloc _).alloc _) ⟨w2.heap.size + 1, 0, none⟩ 1 1 p.cells rfl rfl ?c1 (cells_one p) ?c3 ?c4 ?c5 ?_))
        case c1 => exact cells_at (W := (w2.alloc (.cells #[.int .i64 p.area, .int .i64 p.job, .int .i64 p.sex, .int .i64 p.pay] TP)).alloc (.cells #[.int .i64 p.area, .int .i64 p.job, .int .i64 p.sex, .int .i64 p.pay] TP)) (g := w2.heap.size + 1) (by simpa using heap_alloc2_new w2 _ _)
        case c3 => simp only [maxLen]; omega
        case c4 => omega
        case c5 => have := HG2.out.size; simp; omega
        intro v' w' hown hgw _
        have HX := Lib.hid (append_rel (q := q) (k := k) hR ((HO2.out.alloc _).alloc _) hown hgw HL.out HA.out HP.out (((hr2.alloc _).alloc _).more (by omega)) (grown_alloc (grown_alloc HG2.out _) _))
        clear hown hgw hr2
        go_wp2
        go_roundw
        case rel => exact ⟨k + 1, l ++ [p], by omega, by go_num, HX.out⟩
        case measure => simp [intOf]; omega
      · go_wp2_with fail
        refine (pick_any 3 (by omega) (by omega) R (q + 1 + 8 * k + 5) (by omega) _ (hr2.alloc _)).mono ?_
        rintro e w3 ⟨x, rfl, x0, x1, hr3, hg3⟩
        have hR2 : R < w2.heap.size := by have := HG2.out.size; omega
        have HB := Lib.hid (new_block hg3 hR2)
        have HO3 := Lib.hid ((HO2.out.alloc _).kept hg3 hR)
        have HG3 := Lib.hid (grown_trans (grown_alloc HG2.out _) hg3)
        have hw2 := HG2.out.size
        have hz3 := HG3.out.size
        clear hg3
        have hA2 : ∀ a, A = some a → a.block ≠ w2.heap.size := fun a h => by subst h; have := (World.ownsRow.lt HO2.out a.block rfl).2; omega
        generalize w2.heap.size = Q at *
        have hQ3 : Q < w3.heap.size := (Array.getElem?_eq_some_iff.1 HB.out).1
        by_cases hx : x = 0
        · subst hx
          go_wp2_with fail
          refine (pick_any l.length (by omega) (by omega) R (q + 1 + 8 * k + 6) (by omega) _ hr3).mono ?_
          rintro e w4 ⟨y, rfl, y0, y1, hr4, hg4⟩
          obtain ⟨y, rfl⟩ := Int.eq_ofNat_of_zero_le y0
          have hyl : y < l.length := by omega
          have HB4 := Lib.hid ((hg4.block Q hQ3 (fun e => by injection e; omega)).trans HB.out)
          have HO4 := Lib.hid (HO3.out.kept hg4 hR)
          have HG4 := Lib.hid (grown_trans HG3.out hg4)
          have hz4 := hg4.size
          clear hg4 hr3
          obtain ⟨b, o, rfl, hb4, c0, c1, c2, c3⟩ := (Own.row HO4.out).at_ y hyl
          have hbH := hA _ rfl
          have hbQ : b ≠ Q := hA2 _ rfl
          have d0 : w4.cell? ⟨Q, 0, none⟩ = some (.int .i64 p.area) := cell_of_row w4 Q 0 _ _ _ HB4.out
          have d1 : w4.cell? ⟨Q, 1, none⟩ = some (.int .i64 p.job) := cell_of_row w4 Q 1 _ _ _ HB4.out
          have d2 : w4.cell? ⟨Q, 2, none⟩ = some (.int .i64 p.sex) := cell_of_row w4 Q 2 _ _ _ HB4.out
          have d3 : w4.cell? ⟨Q, 3, none⟩ = some (.int .i64 p.pay) := cell_of_row w4 Q 3 _ _ _ HB4.out
          have f0 := frozen_of_row w4 Q 0 _ _ HB4.out
          have f1 := frozen_of_row w4 Q 1 _ _ HB4.out
          have f2 := frozen_of_row w4 Q 2 _ _ HB4.out
          have f3 := frozen_of_row w4 Q 3 _ _ HB4.out
          go_wp2_with fail
          obtain ⟨w5, hw5⟩ : ∃ w5, w5 = (((w4.setCell ⟨Q, 0, none⟩ (.int .i64 l[y].area)).setCell ⟨Q, 1, none⟩ (.int .i64 l[y].job)).setCell ⟨Q, 2, none⟩ (.int .i64 l[y].sex)).setCell ⟨Q, 3, none⟩ (.int .i64 l[y].pay) := ⟨_, rfl⟩
          rw [← hw5]
          have HB5 := Lib.hid (show w5.heap[Q]? = some (.cells #[.int .i64 l[y].area, .int .i64 l[y].job, .int .i64 l[y].sex, .int .i64 l[y].pay] TP (0, 0)) by rw [hw5]; exact set4 HB4.out _ _ _ _)
          have hr5 : RdN w5 R (q + 1 + 8 * k + 6 + 1) := by rw [hw5]; exact (((hr4.setCell (a := ⟨Q, 0, none⟩) hR2 _).setCell (a := ⟨Q, 1, none⟩) hR2 _).setCell (a := ⟨Q, 2, none⟩) hR2 _).setCell (a := ⟨Q, 3, none⟩) hR2 _
          have HO5 := Lib.hid (show Own w5 w.heap.size (.slice (some ⟨b, o, none⟩) l.length c) l by
            rw [hw5]
            have hf : ∀ g, (Value.slice (some (⟨b, o, none⟩ : Addr)) l.length c).ownBlock = some g → g ≠ Q := fun g hg => by simp [Value.ownBlock] at hg; omega
            exact (((HO4.out.far hf _ _).far hf _ _).far hf _ _).far hf _ _)
          have HG5 := Lib.hid (show w.grownBy w5 (some R) by
            rw [hw5]
            exact grown_set (grown_set (grown_set (grown_set HG4.out (p := ⟨Q, 0, none⟩) (.inr hw2) _) (p := ⟨Q, 1, none⟩) (.inr hw2) _) (p := ⟨Q, 2, none⟩) (.inr hw2) _) (p := ⟨Q, 3, none⟩) (.inr hw2) _)
          have hy := okP_pay (p := l[y]) (List.all_eq_true.1 HA.out l[y] (List.getElem_mem hyl))
          have hz5 : Q < w5.heap.size := (Array.getElem?_eq_some_iff.1 HB5.out).1
          clear hw5 hr4 c0 c1 c2 c3 d0 d1 d2 d3 f0 f1 f2 f3
          have d3 : w5.cell? ⟨Q, 3, none⟩ = some (.int .i64 l[y].pay) := cell_of_row w5 Q 3 _ _ _ HB5.out
          have f3 := frozen_of_row w5 Q 3 _ _ HB5.out
          go_region_with (go_at_call 37; refine (pick_any 3 (by omega) (by omega) R (q + 1 + 8 * k + 7) (by omega) _ ?_).mono ?_; exact hr5; rintro e w6 ⟨z, rfl, z0, z1, hr6, hg6⟩; obtain ⟨HB6, d6, f6⟩ := block_keep (w := w5) hg6 HB5 hR2)
          all_goals
            obtain ⟨m, hm1⟩ : ∃ m, m = (IntKind.i64.wrap (l[y].pay + IntKind.i64.wrap (100 * z))).tmod 1000 := ⟨_, rfl⟩
            rw [← hm1]
            rw [IntWalk.i64_in (100 * z) (by omega), IntWalk.i64_in (l[y].pay + 100 * z) (by omega), Int.tmod_eq_emod_of_nonneg (by omega)] at hm1
            have hm0 : 0 ≤ m ∧ m ≤ 999 := by omega
            obtain ⟨w7, hw7⟩ : ∃ w7, w7 = w6.setCell ⟨Q, 3, none⟩ (.int .i64 m) := ⟨_, rfl⟩
            rw [← hw7]
            obtain ⟨HB7, hr7, HO7, HG7, hz7⟩ := last_rel (p := l[y]) hw7 HB6 hr6 (HO5.out.kept (w' := w6) (undrew hg6) hR) (grown_trans HG5.out (undrew hg6)) hR2 hw2 (by
              intro g hg; simp [Value.ownBlock] at hg; omega)
            have HP7 := Lib.hid (pay_ok (p := l[y]) (List.all_eq_true.1 HA.out l[y] (List.getElem_mem hyl)) hm0)
            clear hm1 hw7 hr5 hr6 hg6 d3 f3 d6 f6 HB6 HB5 HO5 HG5 HB4 HO4 HG4
            have c0 : w7.cell? ⟨Q, 0, none⟩ = some (.int .i64 l[y].area) := cell_of_row w7 Q 0 _ _ _ HB7.out
            have c1 : w7.cell? ⟨Q, 1, none⟩ = some (.int .i64 l[y].job) := cell_of_row w7 Q 1 _ _ _ HB7.out
            have c2 : w7.cell? ⟨Q, 2, none⟩ = some (.int .i64 l[y].sex) := cell_of_row w7 Q 2 _ _ _ HB7.out
            have c3 : w7.cell? ⟨Q, 3, none⟩ = some (.int .i64 m) := cell_of_row w7 Q 3 _ _ _ HB7.out
            go_wp2_with (at_builtin; go_loud (refine wpList_append_own _ rfl (.tmp 44) (.tmp 46) TPS rfl w.heap.size TP i0 _ 4 32 Try.underlying23 hi0 hz0 hz1 hz2 rfl (by omega) _ _ _ rfl (HO7.out.alloc _) ⟨w7.heap.size, 0, none⟩ 1 1 (Pn.cells ⟨l[y].area, l[y].job, l[y].sex, m⟩) rfl rfl (cells_at (p := ⟨l[y].area, l[y].job, l[y].sex, m⟩) (heap_alloc_new w7 _)) (cells_one _) (by simp only [maxLen]; omega) (by omega) (by simp; omega) ?_))
            intro v' w' hown hgw _
            have HX := Lib.hid (append_rel (q := q) (k := k) hR (HO7.out.alloc _) hown hgw HL.out HA.out HP7.out ((hr7.alloc _).more (by omega)) (grown_alloc HG7.out _))
            clear hown hgw hr2 hr7
            go_wp2
            go_roundw
            case rel => exact ⟨k + 1, _, by omega, by go_num, HX.out⟩
            case measure => simp [intOf]; omega
        · have c0 : w3.cell? ⟨Q, 0, none⟩ = some (.int .i64 p.area) := cell_of_row w3 Q 0 _ _ _ HB.out
          have c1 : w3.cell? ⟨Q, 1, none⟩ = some (.int .i64 p.job) := cell_of_row w3 Q 1 _ _ _ HB.out
          have c2 : w3.cell? ⟨Q, 2, none⟩ = some (.int .i64 p.sex) := cell_of_row w3 Q 2 _ _ _ HB.out
          have c3 : w3.cell? ⟨Q, 3, none⟩ = some (.int .i64 p.pay) := cell_of_row w3 Q 3 _ _ _ HB.out
          go_wp2_with (at_builtin; go_loud (refine wpList_append_own _ rfl (.tmp 44) (.tmp 46) TPS rfl w.heap.size TP i0 _ 4 32 Try.underlying23 hi0 hz0 hz1 hz2 rfl (by omega) _ _ _ rfl (HO3.out.alloc _) ⟨w3.heap.size, 0, none⟩ 1 1 p.cells rfl rfl ?d1 (cells_one p) ?d3 ?d4 ?d5 ?_))
          case d1 => exact cells_at (heap_alloc_new w3 _)
          case d3 => simp only [maxLen]; omega
          case d4 => omega
          case d5 => simp; omega
          intro v' w' hown hgw _
          have HX := Lib.hid (append_rel (q := q) (k := k) hR (HO3.out.alloc _) hown hgw HL.out HA.out HP.out ((hr3.alloc _).more (by omega)) (grown_alloc HG3.out _))
          clear hown hgw hr2 hr3
          go_wp2
          go_roundw
          case rel => exact ⟨k + 1, l ++ [p], by omega, by go_num, HX.out⟩
          case measure => simp [intOf]; omega
    · by_cases hn : 0 < n
      · have hlpos : 0 < l.length := by omega
        obtain ⟨p, l', rfl⟩ : ∃ p l', l = p :: l' := by cases l with | nil => simp at hlpos | cons p l' => exact ⟨p, l', rfl⟩
        have hR2 : R < wr.heap.size := hrd.lt
        go_wp2_with fail
        refine (pick_any 40 (by omega) (by omega) R (q + 1 + 8 * k) (by omega) _ hrd).mono ?_
        rintro e w2 ⟨x, rfl, x0, x1, hr2, hg2⟩
        have HO2 := Lib.hid (HOw.out.kept hg2 hR)
        have HG2 := Lib.hid (grown_trans HG.out hg2)
        clear hg2 HOw HG hrd hrow
        have hlm : (p :: l').length ≤ most := by omega
        by_cases hx0 : x = 0
        · subst hx0
          have hR3 : R < w2.heap.size := hr2.lt
          go_wp2_with fail
          refine (pick_any 2 (by omega) (by omega) R (q + 1 + 8 * k + 1) (by omega) _ (hr2.alloc _)).mono ?_
          rintro e w3 ⟨y, rfl, y0, y1, hr3, hg3⟩
          have hb := new_block hg3 hR3
          have hc0 : w3.cell? ⟨w2.heap.size, 0, none⟩ = some (.int .i64 (-1)) := cell_of_row w3 _ 0 _ _ _ hb
          have hc1 : w3.cell? ⟨w2.heap.size, 1, none⟩ = some (.int .i64 4) := cell_of_row w3 _ 1 _ _ _ hb
          obtain ⟨g, c', hv, hgB, hgs, hcell, hset⟩ := ((HO2.out.alloc _).kept hg3 hR).head
          have HG3 := Lib.hid (grown_trans (grown_alloc HG2.out _) hg3)
          injection hv with hv1 hv2 hv3
          subst hv1 hv3
          clear hb hg3 HO2 HG2
          obtain ⟨e0, f0⟩ := hcell 0 _ rfl
          have HS := Lib.hid hset; clear hset hcell
          rcases (show y = 0 ∨ y = 1 by omega) with rfl | rfl
          · go_wp2
            go_ret
            exact end_rel (p := p) (p' := ⟨-1, p.job, p.sex, p.pay⟩) (HS.out 0 _ _ (by omega) rfl) hlm HA.out (by have := okP_bd (p := p) (List.all_eq_true.1 HA.out p (by simp)); unfold Bd at *; simp; omega) (hr3.more (by omega)) HG3.out (by omega) hgB
          · go_wp2
            go_ret
            exact end_rel (p := p) (p' := ⟨4, p.job, p.sex, p.pay⟩) (HS.out 0 _ _ (by omega) rfl) hlm HA.out (by have := okP_bd (p := p) (List.all_eq_true.1 HA.out p (by simp)); unfold Bd at *; simp; omega) (hr3.more (by omega)) HG3.out (by omega) hgB
        · obtain ⟨g, c', hv, hgB, hgs, hcell, hset⟩ := HO2.out.head
          injection hv with hv1 hv2 hv3
          subst hv1 hv3
          obtain ⟨e2, f2⟩ := hcell 2 _ rfl
          obtain ⟨e3, f3⟩ := hcell 3 _ rfl
          have HS := Lib.hid hset; clear hset hcell
          by_cases hx1 : x = 1
          · subst hx1
            go_wp2
            go_ret
            exact end_rel (p := p) (p' := ⟨p.area, p.job, p.sex, 1000⟩) (HS.out 3 _ _ (by omega) rfl) hlm HA.out (by have := okP_bd (p := p) (List.all_eq_true.1 HA.out p (by simp)); unfold Bd at *; simp; omega) (hr2.more (by omega)) HG2.out (by omega) hgB
          · by_cases hx2 : x = 2
            · subst hx2
              go_wp2
              go_ret
              exact end_rel (p := p) (p' := ⟨p.area, p.job, 2, p.pay⟩) (HS.out 2 _ _ (by omega) rfl) hlm HA.out (by have := okP_bd (p := p) (List.all_eq_true.1 HA.out p (by simp)); unfold Bd at *; simp; omega) (hr2.more (by omega)) HG2.out (by omega) hgB
            · go_wp2
              go_ret
              exact ⟨p :: l', _, rfl, HO2.out, by omega, fun p hp => okP_bd (List.all_eq_true.1 HA.out p hp), hr2.more (by omega), HG2.out⟩
      · go_wp2
        go_ret
        exact ⟨l, _, rfl, HOw.out, by omega, fun p hp => okP_bd (List.all_eq_true.1 HA.out p hp), hrd.more (by omega), HG.out⟩
end Go.Proofs.Ytjgohakiodcjmaa
namespace Go.Proofs.Ytjgohakiodcjmaa
open Go.RowKit
theorem pcells_one_cell (l : List Pn) : ∀ u ∈ pcells l, u.oneCell' = true := by
  intro u hu
  obtain ⟨p, _, hp⟩ := List.mem_flatMap.1 hu
  exact cells_one p u hp
theorem pcells_app (x y : List Pn) : pcells (x ++ y) = pcells x ++ pcells y := by simp [pcells]
theorem run_append_people (w : World) (ty : TypeId) (base : Nat) (v : Value) (l : List Pn) (hown : Own w base v l) (Bd : Nat) (B : Option Addr) (m d : Nat) (l2 : List Pn) (hm : m = l2.length) (hr : Row w Bd B (pcells l2))
    (hlen : l.length + l2.length ≤ 1000000) (hbase : base ≤ w.heap.size) :
    ∃ v' w', (Builtin.append_ #[TPS, TPS] ty #[v, .slice B m d]).run Try.prog w = .ok v' w' ∧ Own w' base v' (l ++ l2) ∧ w.grownBy w' v.ownBlock := by
  subst hm
  obtain ⟨i0, hi0, hz0, hz1, hz2⟩ := info_parts info_P
  have ht : Try.prog.underlying TPS = some (.slice TP) := Try.underlying23
  have hl : (pcells l2).length = l2.length * 4 := pcells_length l2
  have fin : ∀ (v' : Value) (w' : World), w'.ownsRow base TP 4 v' (l.length + l2.length) (pcells l ++ pcells l2) → Own w' base v' (l ++ l2) := fun v' w' h => by
    unfold Own; rw [pcells_app, List.length_append]; exact h
  rcases B with _ | ad
  · have h0 : l2 = [] := by
      rcases hr with hr | ⟨b, o, hA, _⟩
      · rw [hr] at hl; exact List.eq_nil_of_length_eq_zero (by simp at hl; omega)
      · cases hA
    subst h0
    refine ⟨v, w, ?_, by simpa using hown, World.grownBy.refl w _⟩
    rcases hown.2 with ⟨rfl, h0⟩ | ⟨g, cap, cur, rfl, _, _, hnc, _⟩
    · simp [Builtin.append_, run_underlying ht, sizeOf, typeInfo, hi0, Builtin.lenOf, Builtin.firstCells]
    · simp [Builtin.append_, run_underlying ht, sizeOf, typeInfo, hi0, Builtin.lenOf, Builtin.firstCells, hnc, storeCells]
  · have hcells : ∀ j u, (pcells l2)[j]? = some u → w.cell? (ad.add j) = some u := by
      intro j u hu
      rcases hr with hr | ⟨b, o, hA, hb, hc⟩
      · rw [hr] at hu; simp at hu
      · injection hA with hA
        subst hA
        rw [Addr.add_lit]; exact hc j u hu
    obtain ⟨v', w', hrun, h2, h3, _⟩ := run_append_own (P := Try.prog) w base TPS ty TP i0 _ 4 32 ht hi0 hz0 hz1 hz2 rfl (by omega) v l.length (pcells l) hown ad l2.length d (pcells l2) hl hcells (pcells_one_cell l2) (by simp only [maxLen]; omega) (by omega) hbase
    exact ⟨v', w', hrun, fin v' w' h2, h3⟩
theorem wp_append_people {o : Oper} {a : Act} {w : World} {K : Act → World → Prop} {Q : Exit → Act → World → Prop} (s x : Operand)
    (ho : o.op = .call { callee := .builtin .append, args := #[s, x], argTypes := #[TPS, TPS] }) (base : Nat) (v : Value) (l : List Pn) (hs : a.eval s = v) (hown : Own w base v l)
    (Bd : Nat) (B : Option Addr) (m d : Nat) (l2 : List Pn) (hm : m = l2.length) (hx : a.eval x = .slice B m d) (hr : Row w Bd B (pcells l2)) (hlen : l.length + l2.length ≤ 1000000) (hbase : base ≤ w.heap.size)
    (h : ∀ v' w', Own w' base v' (l ++ l2) → w.grownBy w' v.ownBlock → K (a.put o.dst v') w') : o.wp Try.prog a w K Q := by
  obtain ⟨v', w', hrun, h2, h3⟩ := run_append_people w o.type base v l hown Bd B m d l2 hm hr hlen hbase
  unfold Oper.wp execOp
  simp only [ho, resolve, invoke, builtin, Sem.run_bind, Sem.run_pure, Result.andThen_ok, List.map_toArray, List.map_cons, List.map_nil, hs, hx, hrun]
  exact h v' w' h2 h3
theorem app_people {ops : Array Oper} {rest : List Oper} {o : Oper} {a : Act} {w : World} {Q : Exit → Act → World → Prop} (hgd : o.guard = none) (s x : Operand)
    (ho : o.op = .call { callee := .builtin .append, args := #[s, x], argTypes := #[TPS, TPS] }) (base : Nat) (v : Value) (l : List Pn) (hs : a.eval s = v) (hown : Own w base v l)
    (Bd : Nat) (B : Option Addr) (m d : Nat) (l2 : List Pn) (hm : m = l2.length) (hx : a.eval x = .slice B m d) (hr : Row w Bd B (pcells l2)) (hlen : l.length + l2.length ≤ 1000000) (hbase : base ≤ w.heap.size)
    (h : ∀ v' w', Own w' base v' (l ++ l2) → w.grownBy w' v.ownBlock → wpList Try.prog ops Q rest (a.put o.dst v') w') : wpList Try.prog ops Q (o :: rest) a w :=
  wpList_plain hgd fun _ hK => wp_append_people s x ho base v l hs hown Bd B m d l2 hm hx hr hlen hbase fun v' w' h2 h3 => hK _ _ (h v' w' h2 h3)
theorem step_people {ops : Array Oper} {o : Oper} {a : Act} {w : World} {K : Act → World → Prop} {Q : Exit → Act → World → Prop} {E : Prop} (hgd : o.guard = none) (s x : Operand)
    (ho : o.op = .call { callee := .builtin .append, args := #[s, x], argTypes := #[TPS, TPS] }) (base : Nat) (v : Value) (l : List Pn) (hs : a.eval s = v) (hown : Own w base v l)
    (Bd : Nat) (B : Option Addr) (m d : Nat) (l2 : List Pn) (hm : m = l2.length) (hx : a.eval x = .slice B m d) (hr : Row w Bd B (pcells l2)) (hlen : l.length + l2.length ≤ 1000000) (hbase : base ≤ w.heap.size)
    (h : ∀ v' w', Own w' base v' (l ++ l2) → w.grownBy w' v.ownBlock → K (a.put o.dst v') w') : if Region.wanted o (yielded ops a.tmps) = true then Oper.wp Try.prog o a w K Q else E := by
  have hw : Region.wanted o (yielded ops a.tmps) = true := by simp [Region.wanted, hgd]
  rw [if_pos hw]
  exact wp_append_people s x ho base v l hs hown Bd B m d l2 hm hx hr hlen hbase h
/-- Own memory above W stays out of W's sight. -/
theorem Own.ob {w : World} {B : Nat} {v : Value} {l : List Pn} (h : Own w B v l) : ∀ g, v.ownBlock = some g → B ≤ g := fun g hg => (World.ownsRow.lt h g hg).1
theorem below_own {W w w' : World} {v : Value} {l : List Pn} (hb : Below W.heap.size W w) (ho : Own w W.heap.size v l) (hg : w.grownBy w' v.ownBlock) : Below W.heap.size W w' := hb.grown hg hb.size ho.ob
theorem own_new (W w : World) (hb : Below W.heap.size W w) : Own (w.alloc (.cells #[] TP)) W.heap.size (.slice (some ⟨w.heap.size, 0, none⟩) 0 0) [] :=
  World.ownsRow_made w #[] 0 hb.size (by simp [maxLen]) rfl
end Go.Proofs.Ytjgohakiodcjmaa
namespace Go.Proofs.Ytjgohakiodcjmaa
open Go.RowKit
theorem Own.below {w w' : World} {B : Nat} {v : Value} {l : List Pn} (h : Own w B v l) (hb : Below w.heap.size w w') : Own w' B v l := by
  obtain ⟨h1, h2⟩ := h
  refine ⟨h1, ?_⟩
  rcases h2 with h2 | ⟨g, cap, cur, rfl, hg, hh, r⟩
  · exact .inl h2
  · exact .inr ⟨g, cap, cur, rfl, hg, (hb.block g (Array.getElem?_eq_some_iff.1 hh).1).trans hh, r⟩
def IsP (w : World) (v : Value) (l : List Pn) : Prop := ∃ A c, v = .slice A l.length c ∧ l.length ≤ c ∧ c ≤ maxLen ∧ Row w w.heap.size A (pcells l)
def InP (w : World) (B T : Nat) (v : Value) (l : List Pn) : Prop := T ≤ w.heap.size ∧ Own w B v l ∧ ∀ k, v.ownBlock = some k → k < T
section
variable {w w' : World} {B T : Nat} {v : Value} {l : List Pn}
theorem IsP.below (h : IsP w v l) (hb : Below w.heap.size w w') : IsP w' v l := by
  obtain ⟨A, c, hv, h1, h2, h3⟩ := h
  exact ⟨A, c, hv, h1, h2, h3.moved hb⟩
theorem InP.is (h : InP w B T v l) : IsP w v l := by
  obtain ⟨A, c, hv, h1, h2, h3, _⟩ := h.2.1.form
  exact ⟨A, c, hv, h1, h2, h3⟩
theorem InP.below (h : InP w B T v l) (hb : Below w.heap.size w w') : InP w' B T v l := ⟨Nat.le_trans h.1 hb.size, Own.below h.2.1 hb, h.2.2⟩
theorem Own.same {w w' : World} {B : Nat} {v : Value} {l : List Pn} (h : Own w B v l) (hk : ∀ k, v.ownBlock = some k → w'.heap[k]? = w.heap[k]?) : Own w' B v l := by
  obtain ⟨h1, h2⟩ := h
  refine ⟨h1, ?_⟩
  rcases h2 with h2 | ⟨g, cap, cur, rfl, hg, hh, r⟩
  · exact .inl h2
  · exact .inr ⟨g, cap, cur, rfl, hg, (hk g rfl).trans hh, r⟩
theorem InP.far {B' T' : Nat} (h : InP w B T v l) (hw : Within w w' B' T') (hd : T ≤ B' ∨ T' ≤ B) : InP w' B T v l :=
  ⟨Nat.le_trans h.1 hw.2.2.2.1, h.2.1.same fun k e => hw.2.2.2.2 k (by have := h.2.2 k e; have := h.1; omega) (by have := h.2.2 k e; have := (World.ownsRow.lt h.2.1 k e).1; omega), h.2.2⟩
theorem InP.of {w0 : World} (ho : Own w' w0.heap.size v l) : InP w' w0.heap.size w'.heap.size v l := ⟨Nat.le_refl _, ho, fun k e => (World.ownsRow.lt ho k e).2⟩
theorem InP.sl (h : InP w B T v l) : ∃ A c, v = .slice A l.length c := by obtain ⟨A, c, hv, _⟩ := h.is; exact ⟨A, c, hv⟩
end
end Go.Proofs.Ytjgohakiodcjmaa
namespace Go.Proofs.Ytjgohakiodcjmaa
open Go.RowKit
theorem modCutA (m n : Nat) : ∃ k : Nat, (m : Int) % ((n : Int) + 1) = k ∧ k ≤ n :=
  ⟨m % (n + 1), by simp, by have := Nat.mod_lt m (show 0 < n + 1 by omega); omega⟩
abbrev lit1 (p : Pn) : Obj := .cells #[.int .i64 p.area, .int .i64 p.job, .int .i64 p.sex, .int .i64 p.pay] TP
theorem rowA {w : World} {g Bd : Nat} {p : Pn} (h : w.heap[g]? = some (lit1 p)) (hg : g < Bd) : Row w Bd (some ⟨g, 0, none⟩) (pcells [p]) := by
  right
  refine ⟨g, 0, rfl, hg, fun j u hu => ?_⟩
  rw [Nat.zero_add, cell_of_row w g j _ _ _ h, ← hu]
  simp [pcells, Pn.cells]
theorem ownA {w : World} (p : Pn) : Own ((w.alloc (lit1 p)).alloc (.cells #[] TP)) w.heap.size (.slice (some ⟨w.heap.size + 1, 0, none⟩) 0 0) [] := by
  have h := World.ownsRow_made (base := w.heap.size) (e := TP) (size := 4) (w.alloc (lit1 p)) #[] 0 (by simp) (by simp [maxLen]) rfl
  have e : (w.alloc (lit1 p)).heap.size = w.heap.size + 1 := by simp
  rw [e] at h
  exact h
theorem keepA {w w' : World} {row : Option Nat} {g : Nat} {o : Obj} (h : w.heap[g]? = some o) (hg : w.grownBy w' row) (hne : some g ≠ row) : w'.heap[g]? = some o :=
  (hg.block g (Array.getElem?_eq_some_iff.1 h).1 hne).trans h
theorem Own.isP' {w : World} {B : Nat} {v : Value} {l : List Pn} (h : Own w B v l) : IsP w v l := by
  obtain ⟨A, c, hv, h1, h2, h3, _⟩ := h.form
  exact ⟨A, c, hv, h1, h2, h3⟩
theorem Row.cutA {w : World} {B : Nat} {A : Option Addr} {l : List Pn} {c k : Nat} (h : Row w B A (pcells l)) (hk : k ≤ l.length) (hc : l.length ≤ c) :
    Row w B (if c = k then A else A.map (·.add (k * 4))) (pcells (l.drop k)) := by
  by_cases hkl : k = l.length
  · left; rw [List.drop_eq_nil_of_le (by omega)]; rfl
  · rcases h with h | ⟨b, o, rfl, hb, hcell⟩
    · have := pcells_length l; rw [h] at this; simp at this; omega
    · right
      rw [if_neg (by omega)]
      refine ⟨b, o + k * 4, by simp [Addr.add_lit], hb, fun j u hu => ?_⟩
      rw [Nat.add_assoc]
      refine hcell (k * 4 + j) u ?_
      rw [← hu]
      have e : pcells (l.drop k) = (pcells l).drop (k * 4) := by
        have h1 : pcells l = pcells (l.take k) ++ pcells (l.drop k) := by simp only [pcells, ← List.flatMap_append, List.take_append_drop]
        rw [h1, List.drop_left' (by rw [pcells_length, List.length_take]; omega)]
      rw [e, List.getElem?_drop]
theorem Row.frontA {w : World} {B : Nat} {A : Option Addr} {l : List Pn} {k : Nat} (h : Row w B A (pcells l)) : Row w B A (pcells (l.take k)) := by
  rcases h with h | ⟨b, o, rfl, hb, hcell⟩
  · left
    have := pcells_length l; rw [h] at this; simp at this
    have hn : l = [] := List.eq_nil_of_length_eq_zero (by omega)
    rw [hn]; simp [pcells]
  · right
    refine ⟨b, o, rfl, hb, fun j u hu => hcell j u ?_⟩
    have h1 : pcells l = pcells (l.take k) ++ pcells (l.drop k) := by simp only [pcells, ← List.flatMap_append, List.take_append_drop]
    rw [h1, List.getElem?_append_left (List.getElem?_eq_some_iff.1 hu).1]; exact hu
/-- The cut list[k:], its address under one name. -/
theorem sliceTailA (B : Option Addr) (n d k : Nat) (hk : k ≤ n) (hn : n ≤ d) : ∃ B2, (∀ w, (Instr.sliceAt TPS (.slice B n d) (some (.int .i64 k)) none none).run Try.prog w = .ok (.slice B2 (n - k) (d - k)) w) ∧
    ∀ W Bd l, l.length = n → Row W Bd B (pcells l) → Row W Bd B2 (pcells (l.drop k)) := by
  refine ⟨if d = k then B else B.map (·.add (k * 4)), fun w => ?_, fun W Bd l hl hr => hr.cutA (by omega) (by omega)⟩
  obtain ⟨i0, hi0, _, hz1, _⟩ := info_parts info_P
  have hu : Try.prog.underlying TPS = some (.slice TP) := Try.underlying23
  have he : Try.prog.elem TPS = TP := by simp [Program.elem, hu]
  rw [run_sliceAt_slice w TPS _ _ _ _ (by rw [he]; exact hu), run_slice_l w TPS B n d (by rw [he]; exact hu) .i64 (k : Int) (by omega) (by omega)]
  rw [he]
  simp [sizeOf, typeInfo, hi0, hz1, sliced, Result.andThen]
theorem appP {ops : Array Oper} {rest : List Oper} {o : Oper} {a : Act} {w : World} {Q : Exit → Act → World → Prop} (hw : Region.wanted o (yielded ops a.tmps) = true) (s x : Operand)
    (ho : o.op = .call { callee := .builtin .append, args := #[s, x], argTypes := #[TPS, TPS] }) (base : Nat) (v : Value) (l : List Pn) (hs : a.eval s = v) (hown : Own w base v l)
    (Bd : Nat) (B : Option Addr) (m d : Nat) (l2 : List Pn) (hm : m = l2.length) (hx : a.eval x = .slice B m d) (hr : Row w Bd B (pcells l2)) (hlen : l.length + l2.length ≤ 1000000) (hbase : base ≤ w.heap.size)
    (h : ∀ v' w', Own w' base v' (l ++ l2) → w.grownBy w' v.ownBlock → wpList Try.prog ops Q rest (a.put o.dst v') w') : wpList Try.prog ops Q (o :: rest) a w :=
  BigFrame.wpList_want hw fun _ hK => wp_append_people s x ho base v l hs hown Bd B m d l2 hm hx hr hlen hbase fun v' w' h2 h3 => hK _ _ (h v' w' h2 h3)
end Go.Proofs.Ytjgohakiodcjmaa
namespace Go.Proofs.Ytjgohakiodcjmaa
open Go.RowKit
theorem samePA (l : List Pn) (A B : Option Addr) (c d : Nat) (hl : l.length ≤ 1000000) (w : World) (ha : Row w w.heap.size A (pcells l)) (hb : Row w w.heap.size B (pcells l)) :
    Calls Try.prog 21 #[.slice A l.length c, .slice B l.length d] w fun e w' => e = .returned (.bool true) ∧ Below w.heap.size w w' := by
  go_enter Try.func21, Try.ntmps21
  go_wp2
  go_loopw [5] (fun i wr => ∃ k : Nat, k ≤ l.length ∧ i = .int .i64 k ∧ Below w.heap.size w wr) (fun i _ => l.length - (intOf i).toNat)
  case atStart => exact ⟨0, Nat.zero_le _, rfl, Below.refl _ _⟩
  case round =>
    obtain ⟨k, hk, rfl, h1⟩ := hrel
    by_cases hlt : k < l.length
    · obtain ⟨x, o, rfl, hx, c0, c1, c2, c3⟩ := (ha.below h1 (Nat.le_refl _)).at_ k hlt
      obtain ⟨y, u, rfl, hy, d0, d1, d2, d3⟩ := (hb.below h1 (Nat.le_refl _)).at_ k hlt
      have hki : (k : Int) < (l.length : Int) := by omega
      go_wp2
      go_quiet (fail)
      go_wp2
      go_roundw
      case rel => exact ⟨k + 1, by omega, by go_num, below_draws h1 _⟩
      case measure => simp [intOf]; omega
    · go_wp2
      go_ret
      exact ⟨rfl, h1⟩
theorem sameP_is (W : World) (l : List Pn) (v u : Value) (hl : l.length ≤ 1000000) (hv : IsP W v l) (hu : IsP W u l) (w : World) (hb : Below W.heap.size W w) :
    Calls Try.prog 21 #[v, u] w (Back (.bool true) W) := by
  obtain ⟨A, c, rfl, _, _, h3⟩ := hv
  obtain ⟨A2, c2, rfl, _, _, h4⟩ := hu
  exact (samePA l A A2 c c2 hl w (h3.moved hb) (h4.moved hb)).mono fun _ _ h => ⟨h.1, hb.trans (h.2.mono hb.size)⟩
end Go.Proofs.Ytjgohakiodcjmaa
