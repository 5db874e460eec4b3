/- Bounds of hidden cells: what the laws ask. Bounds of hidden cells: what the laws ask, the rest. -/
import Derived.Test.YtobgceebolmfcaaDoorBMA
namespace Go.Proofs.YtobgceebolmfcaaDoor
open Go.RowKit
section
variable {t x : Tb} {m m' : Mk} {i j k l : Nat}
theorem mk_tab (h : mkOk t m = true) : Tab t := (mk_parts.1 h).1
theorem mk_len (h : mkOk t m = true) : m.length = t.length := (mk_parts.1 h).2.1
theorem mk_row (h : mkOk t m = true) (hk : k < t.length) : (m.getD k []).length = wd t := by
  have hk2 : k < m.length := by rw [mk_len h]; exact hk
  exact (mk_parts.1 h).2.2 _ (by rw [getD_of _ _ hk2]; exact List.getElem_mem _)
/-- A table fits itself. -/
theorem fitP_self (h : mkOk t m = true) : FitP t m t := ⟨h, rfl, (mk_tab h).len, FitF.refl (mk_tab h).posF⟩
theorem FitP.wd_eq (f : FitP t m x) : wd x = wd t := by
  have h1 := (mk_tab f.1).h1
  exact wd_of (by rw [f.2.1]; exact h1) f.2.2.1
/-- P119. -/
theorem m_fitBounds (f : FitP t m x) (hi : i < t.length) (hj : j < wd t) : cF x i j ≤ hiI t m i j ∧ loI t m i j ≤ cF x i j := ⟨(hiI_is f.1 hi hj).2 _ f.2.2.2, (loI_is f.1 hi hj).2 _ f.2.2.2⟩
theorem mk_same (h : mkOk t m = true) (hx : tabOk x = true) (hl : x.length = t.length) (hw : wd x = wd t) : mkOk x m = true :=
  mk_parts.2 ⟨tab_iff.1 hx, by rw [hl]; exact mk_len h, fun r hr => by rw [hw]; exact (mk_parts.1 h).2.2 r hr⟩
/-- P120. -/
theorem m_fitSame (f : FitP t m x) (hx : tabOk x = true) (hi : i < t.length) (hj : j < wd t) : hiI t m i j = hiI x m i j ∧ loI t m i j = loI x m i j := by
  have ht := mk_tab f.1
  have hk := mk_same f.1 hx f.2.1 f.wd_eq
  constructor
  · refine (hiI_eq hk (by rw [f.2.1]; exact hi) (by rw [f.wd_eq]; exact hj) ?_).symm
    rw [f.2.1, f.wd_eq]; exact (hiI_is f.1 hi hj).same f.2.2.2 ht.posF
  · refine (loI_eq hk (by rw [f.2.1]; exact hi) (by rw [f.wd_eq]; exact hj) ?_).symm
    rw [f.2.1, f.wd_eq]; exact (loI_is f.1 hi hj).same f.2.2.2 ht.posF
/-- The mask of a table, all of it b. -/
def allM (t : Tb) (b : Bool) : Mk := List.replicate t.length (List.replicate (wd t) b)
theorem allM_ok (ht : Tab t) (b : Bool) : mkOk t (allM t b) = true :=
  mk_parts.2 ⟨ht, by simp [allM], fun r hr => by rw [allM] at hr; rw [List.eq_of_mem_replicate hr]; simp⟩
theorem allM_at (b : Bool) (hk : k < t.length) (hl : l < wd t) : hF (allM t b) k l = b := by
  have h1 : (allM t b).getD k [] = List.replicate (wd t) b := by rw [allM, getD_of _ _ (by simpa using hk)]; simp
  unfold hF
  rw [h1, getD_of _ _ (by simpa using hl)]; simp
theorem rs_at (ht : Tab t) (hi : i < t.length) : sm (wd t) (cF t i) = (rsum t).getD i 0 := by
  rw [cF_row (ht.rlen hi), getD_of _ _ hi, getD_of _ _ (by rw [rsum_len]; exact hi)]; simp [rsum]
theorem cs_at (hj : j < wd t) : sm t.length (fun k => cF t k j) = (csum t).getD j 0 := by
  rw [cF_col, getD_of _ _ (by rw [csum_len]; exact hj)]; simp [csum]
theorem all_sum (ht : Tab t) : sm t.length (fun k => sm (wd t) (cF t k)) = tsum t := by
  rw [sm_congr fun k hk => rs_at ht hk]
  show sm t.length (fun k => (rsum t).getD k 0) = (rsum t).sum
  rw [← sm_list, rsum_len]
/-- P121, P122. -/
theorem m_highAll (ht : Tab t) (hi : i < t.length) (hj : j < wd t) : hiI t (allM t true) i j = min ((rsum t).getD i 0) ((csum t).getD j 0) := by
  rw [← rs_at ht hi, ← cs_at hj]
  exact (hiI_is (allM_ok ht true) hi hj).all hi hj fun k l hk hl => allM_at true hk hl
theorem m_lowAll (ht : Tab t) (hi : i < t.length) (hj : j < wd t) : loI t (allM t true) i j = max 0 ((rsum t).getD i 0 + (csum t).getD j 0 - tsum t) := by
  rw [← rs_at ht hi, ← cs_at hj, ← all_sum ht]
  exact (loI_is (allM_ok ht true) hi hj).all hi hj fun k l hk hl => allM_at true hk hl
/-- P123. -/
theorem m_highMore (h : mkOk t m = true) (h' : mkOk t m' = true) (hm : ∀ k l, k < t.length → l < wd t → hF m k l = true → hF m' k l = true) (hi : i < t.length) (hj : j < wd t) : hiI t m i j ≤ hiI t m' i j ∧ loI t m' i j ≤ loI t m i j := by
  have hh : ∀ k l, k < t.length → l < wd t → hF m' k l = false → hF m k l = false := fun k l hk hl e => by
    cases e2 : hF m k l
    · rfl
    · rw [hm k l hk hl e2] at e; cases e
  exact ⟨(hiI_is h hi hj).more (hiI_is h' hi hj) hh, (loI_is h hi hj).more (loI_is h' hi hj) hh⟩
/-- P126, P130, P131, P137, P138. -/
theorem m_alone (h : mkOk t m = true) (hi : i < t.length) (hj : j < wd t) (hs : (∀ l, l < wd t → l ≠ j → hF m i l = false) ∨ (∀ k, k < t.length → k ≠ i → hF m k j = false) ∨ hF m i j = false) : hiI t m i j = cF t i j ∧ loI t m i j = cF t i j := by
  have hall : ∀ y, FitF t.length (wd t) (hF m) (cF t) y → y i j = cF t i j := fun y f => by
    rcases hs with hs | hs | hs
    · exact row_alone f hi hj hs
    · exact col_alone f hi hj hs
    · exact f.off i j hi hj hs
  exact ⟨(hiI_is h hi hj).alone hall, (loI_is h hi hj).alone hall⟩
theorem m_pair (h : mkOk t m = true) (hi : i < t.length) (hj : j < wd t) {o : Nat} (ho : o < wd t) (hoj : o ≠ j) (hs : ∀ l, l < wd t → l ≠ j → l ≠ o → hF m i l = false) : hiI t m i j + loI t m i o = cF t i j + cF t i o :=
  (hiI_is h hi hj).pair (loI_is h hi ho) hi hj ho hoj hs
theorem m_room (h : mkOk t m = true) (hi : i < t.length) (hj : j < wd t) : hiI t m i j ≤ (rsum t).getD i 0 - (sm (wd t) fun b => if b = j then 0 else loI t m i b) ∧ (rsum t).getD i 0 - (sm (wd t) fun b => if b = j then 0 else hiI t m i b) ≤ loI t m i j := by
  rw [← rs_at (mk_tab h) hi]
  exact ⟨(hiI_is h hi hj).room (fun l hl _ => loI_is h hi hl) hi hj, (loI_is h hi hj).room (fun l hl _ => hiI_is h hi hl) hi hj⟩
theorem m_zero (h : mkOk t m = true) (hi : i < t.length) (hj : j < wd t) (h0 : (rsum t).getD i 0 ≤ 0) : hiI t m i j = 0 := by
  rw [← rs_at (mk_tab h) hi] at h0
  exact (hiI_is h hi hj).zero hi hj h0
theorem m_rest (h : mkOk t m = true) (hi : i < t.length) (hj : j < wd t) (h0 : (sm (wd t) fun l => if hF m i l = true ∧ l ≠ j then cF t i l else 0) ≤ 0) : hiI t m i j = cF t i j := (hiI_is h hi hj).rest (mk_tab h).posF hi hj h0
theorem m_step (h : mkOk t m = true) (hi : i < t.length) (hj : j < wd t) (hk : k < t.length) (hl : l < wd t) (hki : k ≠ i) (hlj : l ≠ j) (m1 : hF m i j = true) (m2 : hF m i l = true) (m3 : hF m k j = true) (m4 : hF m k l = true) :
    cF t i j + min (cF t i l) (cF t k j) ≤ hiI t m i j := (hiI_is h hi hj).step (mk_tab h).posF hi hj hk hl hki hlj m1 m2 m3 m4
/-- P124. -/
theorem mk_head (h : mkOk t m = true) : (m.headD []).length = wd t := by
  obtain ⟨ht, hl, hr⟩ := mk_parts.1 h
  cases m with
  | nil => have := ht.h1; simp at hl; omega
  | cons r m => exact hr r (by simp)
theorem hF_turn (h : mkOk t m = true) (hk : k < t.length) (hl : l < wd t) : hF (mturn m) l k = hF m k l := by
  have hw := mk_head h
  have hk2 : k < m.length := by rw [mk_len h]; exact hk
  have h1 : (mturn m).getD l [] = m.map fun r => r.getD l false := by
    rw [getD_of _ _ (by rw [mturn, List.length_map, List.length_range, hw]; exact hl)]; simp [mturn]
  unfold hF
  rw [h1, getD_of _ _ (by rw [List.length_map]; exact hk2), List.getElem_map, getD_of m _ hk2]
theorem mk_turn (h : mkOk t m = true) : mkOk (turn t) (mturn m) = true := by
  have ht := mk_tab h
  have hw := mk_head h
  refine mk_parts.2 ⟨tab_turn ht, by rw [turn_len, mturn, List.length_map, List.length_range, hw], fun r hr => ?_⟩
  rw [wd_turn ht.w1]
  obtain ⟨j, _, rfl⟩ := List.mem_map.1 hr
  rw [List.length_map]; exact mk_len h
theorem m_highTurn (h : mkOk t m = true) (hi : i < t.length) (hj : j < wd t) : hiI (turn t) (mturn m) j i = hiI t m i j ∧ loI (turn t) (mturn m) j i = loI t m i j := by
  have ht := mk_tab h
  have ht' := mk_turn h
  have hi' : j < (turn t).length := by rw [turn_len]; exact hj
  have hj' : i < wd (turn t) := by rw [wd_turn ht.w1]; exact hi
  constructor
  · refine hiI_eq ht' hi' hj' ?_
    rw [turn_len, wd_turn ht.w1]
    exact (hiI_is h hi hj).turn.congr (fun l k hl hk => hF_turn h hk hl) fun l k hl hk => cF_turn hk hl
  · refine loI_eq ht' hi' hj' ?_
    rw [turn_len, wd_turn ht.w1]
    exact (loI_is h hi hj).turn.congr (fun l k hl hk => hF_turn h hk hl) fun l k hl hk => cF_turn hk hl
/-- P132. -/
theorem m_fitTurn (f : FitP t m x) : FitP (turn t) (mturn m) (turn x) ∧ FitP t (allM t true) x := by
  have ht := mk_tab f.1
  refine ⟨⟨mk_turn f.1, by rw [turn_len, turn_len, f.wd_eq], fun r hr => ?_, ?_⟩, ⟨allM_ok ht true, f.2.1, f.2.2.1, f.2.2.2.more fun k l hk hl e => by rw [allM_at true hk hl] at e; cases e⟩⟩
  · rw [wd_turn ht.w1, ← f.2.1]; exact turn_rect x r hr
  · rw [turn_len, wd_turn ht.w1]
    exact f.2.2.2.turn.congr (fun l k hl hk => hF_turn f.1 hk hl) (fun l k hl hk => cF_turn hk hl) fun l k hl hk => cF_turn (by rw [f.2.1]; exact hk) (by rw [f.wd_eq]; exact hl)
/-- P133. -/
theorem m_fitSwap (f : FitP t m x) (hx : tabOk x = true) : FitP x m t := by
  have ht := mk_tab f.1
  refine ⟨mk_same f.1 hx f.2.1 f.wd_eq, f.2.1.symm, fun r hr => by rw [f.wd_eq]; exact ht.len r hr, ?_⟩
  rw [f.2.1, f.wd_eq]; exact f.2.2.2.symm ht.posF
theorem m_fitHalf (f : FitP t m x) {y : Tb} (hl : y.length = t.length) (hr : ∀ r ∈ y, r.length = wd t) (hy : ∀ k l, k < t.length → l < wd t → 2 * cF y k l = cF t k l + cF x k l) : FitP t m y :=
  ⟨f.1, hl, hr, fit_half f.2.2.2 (mk_tab f.1).posF hy⟩
/-- P134. -/
theorem rows_ext {y : Tb} {q d : Nat} (h1 : x.length = q) (h2 : y.length = q) (r1 : ∀ r ∈ x, r.length = d) (r2 : ∀ r ∈ y, r.length = d) (hc : ∀ k l, k < q → l < d → cF x k l = cF y k l) : x = y := by
  refine List.ext_getElem (by omega) fun k a b => ?_
  refine List.ext_getElem (by rw [r1 _ (List.getElem_mem _), r2 _ (List.getElem_mem _)]) fun l c e => ?_
  have := hc k l (by omega) (by rw [← r1 _ (List.getElem_mem a)]; exact c)
  unfold cF at this
  rw [getD_of x _ a, getD_of y _ b, getD_of _ _ c, getD_of _ _ e] at this
  exact this
theorem m_fitOnly (f : FitP t m x) : fitB t (allM t false) x = decide (t = x) := by
  have ht := mk_tab f.1
  by_cases e : t = x
  · subst e
    rw [fitB_iff.2 (fitP_self (allM_ok ht false))]; simp
  · rw [fitB_no fun f2 => e (rows_ext rfl f2.2.1 ht.len f2.2.2.1 fun k l hk hl => (f2.2.2.2.off k l hk hl (allM_at false hk hl)).symm)]
    simp [e]
end
end Go.Proofs.YtobgceebolmfcaaDoor
namespace Go.Proofs.YtobgceebolmfcaaDoor
open Go.RowKit
section
variable {t x : Tb} {m m' : Mk} {i j k l : Nat}
/-- P128. -/
theorem m_twice (h : mkOk t m = true) (hx : x.length = t.length) (hw : wd x = wd t) (hok : tabOk x = true) (hc : ∀ k l, k < t.length → l < wd t → cF x k l = 2 * cF t k l) (hi : i < t.length) (hj : j < wd t) :
    hiI x m i j = 2 * hiI t m i j ∧ loI x m i j = 2 * loI t m i j := by
  have hm := mk_same h hok hx hw
  have hp := (mk_tab h).posF
  constructor
  · refine hiI_eq hm (by omega) (by omega) ?_
    rw [hx, hw]
    exact ((hiI_is h hi hj).twice hp hi hj).congr (fun _ _ _ _ => rfl) fun k l hk hl => hc k l hk hl
  · refine loI_eq hm (by omega) (by omega) ?_
    rw [hx, hw]
    exact ((loI_is h hi hj).twice hp hi hj).congr (fun _ _ _ _ => rfl) fun k l hk hl => hc k l hk hl
/-- P129. -/
theorem m_order (h : mkOk t m = true) (h' : mkOk x m' = true) (hx : x.length = t.length) (hw : wd x = wd t) (hc : ∀ k l, k < t.length → l < wd t → cF x k l = cF t (rotR t.length k) l)
    (hm : ∀ k l, k < t.length → l < wd t → hF m' k l = hF m (rotR t.length k) l) (hi : i < t.length) (hj : j < wd t) :
    hiI x m' (rotS t.length i : Nat) j = hiI t m i j ∧ loI x m' (rotS t.length i : Nat) j = loI t m i j := by
  have hs : rotS t.length i < x.length := by rw [hx]; unfold rotS; split <;> omega
  constructor
  · refine hiI_eq h' hs (by omega) ?_
    rw [hx, hw]
    exact ((hiI_is h hi hj).rot hi).congr (fun k l hk hl => hm k l hk hl) fun k l hk hl => hc k l hk hl
  · refine loI_eq h' hs (by omega) ?_
    rw [hx, hw]
    exact ((loI_is h hi hj).rot hi).congr (fun k l hk hl => hm k l hk hl) fun k l hk hl => hc k l hk hl
/-- P136. -/
theorem m_shown (h : mkOk t m = true) (hx : x.length = t.length) (hw : wd x = wd t) (hok : tabOk x = true) (hc : ∀ a b, a < t.length → b < wd t → cF x a b = up1 (cF t) k l 1 a b) (hk : k < t.length) (hl : l < wd t) (hs : hF m k l = false) (hh : hF m i j = true)
    (hi : i < t.length) (hj : j < wd t) : hiI x m i j = hiI t m i j ∧ loI x m i j = loI t m i j := by
  have hm := mk_same h hok hx hw
  have hp := (mk_tab h).posF
  have hn : i ≠ k ∨ j ≠ l := by
    by_cases e : i = k
    · by_cases e2 : j = l
      · subst e e2; rw [hh] at hs; cases hs
      · exact .inr e2
    · exact .inl e
  have h0 : 0 ≤ cF t k l + 1 := by have := hp k l hk hl; omega
  constructor
  · refine hiI_eq hm (by omega) (by omega) ?_
    rw [hx, hw]
    exact ((hiI_is h hi hj).up hp hk hl hs h0 hn).congr (fun _ _ _ _ => rfl) hc
  · refine loI_eq hm (by omega) (by omega) ?_
    rw [hx, hw]
    exact ((loI_is h hi hj).up hp hk hl hs h0 hn).congr (fun _ _ _ _ => rfl) hc
/-- A told cell. -/
theorem told_iff (h : mkOk t m = true) (hi : i < t.length) (hj : j < wd t) : toldB t m i j = true ↔ hF m i j = true ∧ loI t m i j = hiI t m i j := by
  have e : bOk t m i j = true := bOk_iff.2 ⟨h, by omega, by omega, by omega, by omega⟩
  unfold toldB
  rw [e, Bool.true_and, Bool.and_eq_true, decide_eq_true_eq]; rfl
/-- P135: what is told turns. -/
theorem m_toldTurn (h : mkOk t m = true) (hi : i < t.length) (hj : j < wd t) : toldB (turn t) (mturn m) j i = toldB t m i j := by
  have ht := mk_tab h
  have e := m_highTurn h hi hj
  have h1 := told_iff h hi hj
  have h2 := told_iff (mk_turn h) (i := j) (j := i) (by rw [turn_len]; exact hj) (by rw [wd_turn ht.w1]; exact hi)
  rw [hF_turn h hi hj, e.1, e.2] at h2
  cases e1 : toldB t m i j <;> cases e2 : toldB (turn t) (mturn m) j i <;> simp [e1, e2] at h1 h2 ⊢
  · exact h1 h2.1 h2.2
  · exact h2 h1.1 h1.2
theorem toldN_turn (h : mkOk t m = true) : toldN (turn t) (mturn m) = toldN t m := by
  have ht := mk_tab h
  unfold toldN
  rw [if_pos h, if_pos (mk_turn h), turn_len, wd_turn ht.w1]
  unfold cnt2
  rw [sm_swap t.length (wd t) fun k l => if toldB t m k l = true then 1 else 0]
  exact sm_congr fun l hl => sm_congr fun k hk => by
    show (if toldB (turn t) (mturn m) l k = true then (1 : Int) else 0) = _
    rw [m_toldTurn h hk hl]
/-- P135: nothing is told where what is told is shown. -/
theorem m_toldNone (h : mkOk t m = true) (h' : mkOk t m' = true) (hm : ∀ k l, k < t.length → l < wd t → hF m' k l = (hF m k l && !toldB t m k l)) (hi : i < t.length) (hj : j < wd t) : toldB t m' i j = false := by
  have hp := (mk_tab h).posF
  have hs : ∀ k l, k < t.length → l < wd t → hF m k l = false → hF m' k l = false := fun k l hk hl e => by rw [hm k l hk hl, e]; rfl
  have htold : ∀ y, FitF t.length (wd t) (hF m) (cF t) y → ∀ k l, k < t.length → l < wd t → hF m k l = true → hF m' k l = false → y k l = cF t k l := fun y f k l hk hl e1 e2 => by
    rw [hm k l hk hl, e1, Bool.true_and] at e2
    have e3 : toldB t m k l = true := by simpa using e2
    have e4 := ((told_iff h hk hl).1 e3).2
    have a := hiI_is h hk hl
    have b := loI_is h hk hl
    rw [e4] at b
    exact told_one a b hp f
  have e1 : hiI t m' i j = hiI t m i j := hiI_eq h' hi hj ((hiI_is h hi hj).told htold hs)
  have e2 : loI t m' i j = loI t m i j := loI_eq h' hi hj ((loI_is h hi hj).told htold hs)
  cases e : toldB t m' i j
  · rfl
  · obtain ⟨a, b⟩ := (told_iff h' hi hj).1 e
    rw [hm i j hi hj, Bool.and_eq_true] at a
    rw [e1, e2] at b
    have := (told_iff h hi hj).2 ⟨a.1, b⟩
    rw [this] at a; simp at a
theorem toldN_none (h : mkOk t m = true) (hn : ∀ i j, i < t.length → j < wd t → toldB t m i j = false) : toldN t m = 0 := by
  unfold toldN
  rw [if_pos h]
  unfold cnt2
  rw [sm_congr (g := fun _ => 0) fun k hk => (sm_congr (g := fun _ => 0) fun l hl => by
    show (if toldB t m k l = true then (1 : Int) else 0) = 0
    rw [hn k l hk hl]; rfl).trans (sm_zero _), sm_zero]
/-- P127: nothing is hidden. -/
theorem toldN_shown (ht : Tab t) : toldN t (allM t false) = 0 := toldN_none (allM_ok ht false) fun i j hi hj => by
  cases e : toldB t (allM t false) i j
  · rfl
  · have := ((told_iff (allM_ok ht false) hi hj).1 e).1
    rw [allM_at false hi hj] at this; cases this
/-- The number of flags, by places. -/
theorem cntB_sm : ∀ r : List Bool, ((cntB r : Nat) : Int) = sm r.length (fun l => if r.getD l false = true then 1 else 0)
  | [] => rfl
  | b :: r => by
    rw [List.length_cons, sm_shift]
    have h := cntB_sm r
    have e : sm r.length (fun k => if (b :: r).getD (k + 1) false = true then (1 : Int) else 0) = sm r.length (fun l => if r.getD l false = true then 1 else 0) := rfl
    rw [e, ← h]
    cases b <;> simp [cntB] <;> omega
theorem mmany_sm : ∀ m : Mk, ((mmany m : Nat) : Int) = sm m.length (fun k => ((cntB (m.getD k []) : Nat) : Int))
  | [] => rfl
  | r :: m => by
    rw [List.length_cons, sm_shift]
    have h := mmany_sm m
    have e : sm m.length (fun k => ((cntB ((r :: m).getD (k + 1) []) : Nat) : Int)) = sm m.length (fun k => ((cntB (m.getD k []) : Nat) : Int)) := rfl
    rw [e, ← h]
    simp [mmany]
theorem m_boundMany (h : mkOk t m = true) : toldN t m ≤ (mmany m : Nat) := by
  unfold toldN
  rw [if_pos h, mmany_sm, mk_len h]
  unfold cnt2
  refine sm_le fun k hk => ?_
  rw [cntB_sm, mk_row h hk]
  refine sm_le fun l hl => ?_
  by_cases e : toldB t m k l = true
  · have := ((told_iff h hk hl).1 e).1
    have e2 : (m.getD k []).getD l false = true := this
    rw [if_pos e, if_pos e2]; exact Int.le_refl _
  · rw [if_neg e]; split <;> omega
/-- P125. -/
theorem m_highTwo (ht : Tab t) (h2 : t.length = 2) (w2 : wd t = 2) (hi : i < 2) (hj : j < 2) :
    hiI t (allM t true) i j = cF t i j + min (cF t i (1 - j)) (cF t (1 - i) j) ∧ loI t (allM t true) i j = cF t i j - min (cF t i j) (cF t (1 - i) (1 - j)) := by
  have a := (hiI_is (allM_ok ht true) (by omega : i < t.length) (by omega : j < wd t)).all (by omega) (by omega) fun k l hk hl => allM_at true hk hl
  have b := (loI_is (allM_ok ht true) (by omega : i < t.length) (by omega : j < wd t)).all (by omega) (by omega) fun k l hk hl => allM_at true hk hl
  rw [h2, w2] at a b
  have p : ∀ k l, k < 2 → l < 2 → 0 ≤ cF t k l := fun k l hk hl => (ht.cell (by omega) (by omega)).1
  have p00 := p 0 0 (by omega) (by omega)
  have p01 := p 0 1 (by omega) (by omega)
  have p10 := p 1 0 (by omega) (by omega)
  have p11 := p 1 1 (by omega) (by omega)
  simp only [sm] at a b
  have hi' : i = 0 ∨ i = 1 := by omega
  have hj' : j = 0 ∨ j = 1 := by omega
  rcases hi' with rfl | rfl <;> rcases hj' with rfl | rfl <;> refine ⟨a.trans ?_, b.trans ?_⟩ <;> simp only [Nat.sub_zero, Nat.sub_self] <;> omega
end
end Go.Proofs.YtobgceebolmfcaaDoor
