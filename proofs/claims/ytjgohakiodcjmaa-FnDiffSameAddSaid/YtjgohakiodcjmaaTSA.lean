/- Contracts of the model: tables. Contracts of the model: tables filled cell by cell. -/
import Derived.Test.YtjgohakiodcjmaaTM2
import Derived.Test.YtjgohakiodcjmaaTW
import Derived.Lib.SliceRun
import Derived.StillTailTactics
namespace Go.Proofs.Ytjgohakiodcjmaa
open Go.RowKit
/-- Rows are handed back, the call's own. -/
def OutR1 (m : Tb) (w : World) (e : Ending) (w' : World) : Prop := ∃ v, e = .returned v ∧ InR w' w.heap.size w'.heap.size v m ∧ Below w.heap.size w w'
def OutRT (m : Tb) (t : Bool) (w : World) (e : Ending) (w' : World) : Prop := ∃ v, e = .returned (.tuple #[v, .bool t]) ∧ InR w' w.heap.size w'.heap.size v m ∧ Below w.heap.size w w'
def zrow (n : Nat) : List Int := List.replicate n 0
def zeros (h n : Nat) : Tb := List.replicate h (zrow n)
theorem zrow_cells (n : Nat) : icells (zrow n) = List.replicate n (.int .i64 0) := by simp [icells, zrow]
theorem zeros_succ (h n : Nat) : zeros (h + 1) n = zeros h n ++ [zrow n] := by unfold zeros; rw [List.replicate_succ']
set_option maxHeartbeats 1000000 in
theorem sBlank_any (m n : Nat) (hm : m ≤ 1000) (hn : n ≤ 1000) (w : World) : Calls Try.prog 52 #[.int .i64 m, .int .i64 n] w (OutR1 (zeros m n) w) := by
  obtain ⟨i0, hi0, hz0, hs0, hs1⟩ := info_parts (P := Try.prog) (e := TN) (z := .int .i64 0) (size := 1) (bytes := 8) (by kernel_rfl)
  go_enter Try.func52, Try.ntmps52
  go_wp2
  go_loopw [5, 6] (fun v i wr => ∃ k : Nat, k ≤ m ∧ i = .int .i64 k ∧ Mine wr w.heap.size wr.heap.size v (zeros k n) ∧ Below w.heap.size w wr) (fun _ i _ => m - (intOf i).toNat)
  case atStart => exact ⟨0, Nat.zero_le _, rfl, (mine_new (Nat.le_refl _)).up, (Below.refl _ _).alloc (Nat.le_refl _) _⟩
  case round =>
    obtain ⟨k, hk, rfl, ho, hb⟩ := hrel
    have HO := Lib.hid ho
    have HB := Lib.hid hb
    have hz := hb.size
    clear ho hb
    by_cases hlt : k < m
    · have hki : (k : Int) < (m : Int) := by omega
      have HS := Lib.hid (zeros_succ k n)
      have HL := Lib.hid (show (zeros k n).length + 1 ≤ 1000000 by simp [zeros]; omega)
      go_wp2_with (first
        | (at_make
           go_loud (refine wpList_make_full _ rfl _ _ 59 rfl wr.heap.size TN i0 (.int .i64 0) 1 Try.underlying59 hi0 hz0 hs0 _ _ _ _ n rfl rfl rfl rfl (by rw [hs1]; omega) (by simp only [maxLen]; omega) (Nat.le_refl _) ?_)
           intro w1 ho hg
           have ho1 : Own1 TN w1 wr.heap.size (.slice (some ⟨wr.heap.size, 0, none⟩) n n) (icells (zrow n)) := by
             have h := ho
             have e : (Value.int IntKind.i64 0).cells = #[.int .i64 0] := rfl
             rw [e, made_one] at h
             unfold Own1
             rw [zrow_cells, List.length_replicate]; exact h
           have hB1 : Below wr.heap.size wr w1 := (Below.refl _ _).grown hg (Nat.le_refl _) (fun k hk => by cases hk)
           have hz1 := hB1.size
           have HRW := Lib.hid ((ho1.alloc (.cells #[.slice (some ⟨wr.heap.size, 0, none⟩) n n] TI)).less hz)
           have HFR := Lib.hid (show ∀ k, (Value.slice (some ⟨wr.heap.size, 0, none⟩) n n).ownBlock = some k → some k ≠ u5.ownBlock ∧ (wr.heap.size ≤ k ∨ k < w.heap.size) from fun k e => by
             have e2 : some wr.heap.size = some k := e
             injection e2 with e2
             exact ⟨fun e3 => by have := (HO.out.ob k e3.symm).2; omega, .inl (by omega)⟩)
           have HO2 := Lib.hid (HO.out.below hB1)
           have HB2 := Lib.hid (HB.out.trans (hB1.mono hz))
           clear ho ho1 hg hB1)
        | (at_builtin
           refine appMine rfl (.tmp 13) (.tmp 16) rfl w.heap.size wr.heap.size u5 (zeros k n) rfl (HO2.out.alloc _) (w1.heap.size + 1) (some ⟨w1.heap.size, 0, none⟩) 1 (.slice (some ⟨wr.heap.size, 0, none⟩) n n) (zrow n) rfl (row_lit w1 #[.slice (some ⟨wr.heap.size, 0, none⟩) n n] TI) w.heap.size (Nat.le_refl _) HRW.out HFR.out HL.out (by simp; omega) ?_
           intro v7 w7 ho7 hg7 _
           have HB7 := Lib.hid (below_ownLL (HB2.out.alloc HB2.out.size _) (HO2.out.own.alloc _) hg7)
           have HO7 := Lib.hid ho7
           clear ho7 hg7))
      go_roundw
      case rel => exact ⟨k + 1, by omega, by go_num, by rw [HS.out]; exact HO7.out, HB7.out⟩
      case measure => simp [intOf]; omega
    · have hki : ¬ (k : Int) < (m : Int) := by omega
      have hkm : k = m := by omega
      rw [hkm] at HO
      go_wp2
      go_ret
      exact ⟨_, rfl, HO.out, HB.out⟩
theorem wd_zero (t : Tb) : wd t = (t.getD 0 []).length := by cases t <;> rfl
theorem tab_row {t : Tb} (h : tabOk t = true) {i : Nat} (hi : i < t.length) : rowOk (wd t) (t.getD i []) = true := by
  simp only [tabOk, Bool.and_eq_true, List.all_eq_true] at h
  rw [getD_of _ _ hi]; exact h.2 _ (List.getElem_mem hi)
theorem tab_bad {t : Tb} {i : Nat} (hi : i < t.length) (h : rowOk (wd t) (t.getD i []) = false) : tabOk t = false := by
  cases hk : tabOk t
  · rfl
  · rw [tab_row hk hi] at h; cases h
theorem tab_all {t : Tb} (h1 : in3 t.length 1 4 = true) (h2 : in3 (wd t) 1 4 = true) (h : ∀ i, i < t.length → rowOk (wd t) (t.getD i []) = true) : tabOk t = true := by
  simp only [tabOk, h1, h2, Bool.true_and, List.all_eq_true]
  intro r hr
  obtain ⟨i, hi, rfl⟩ := List.getElem_of_mem hr
  have := h i hi
  rwa [getD_of _ _ hi] at this
theorem row_len_bad {n : Nat} {r : List Int} (h : r.length ≠ n) : rowOk n r = false := by simp [rowOk, h]
theorem row_cell_bad {n : Nat} {r : List Int} {j : Nat} (hj : j < r.length) (h : in3 (r.getD j 0) 0 99 = false) : rowOk n r = false := by
  cases hk : rowOk n r
  · rfl
  · simp only [rowOk, Bool.and_eq_true, List.all_eq_true] at hk
    have := hk.2 r[j] (List.getElem_mem hj)
    rw [getD_of _ _ hj, this] at h; cases h
theorem row_all {n : Nat} {r : List Int} (h : r.length = n) (h2 : ∀ j, j < r.length → in3 (r.getD j 0) 0 99 = true) : rowOk n r = true := by
  simp only [rowOk, h, decide_true, Bool.true_and, List.all_eq_true]
  intro x hx
  obtain ⟨j, hj, rfl⟩ := List.getElem_of_mem hx
  have := h2 j hj
  rwa [getD_of _ _ hj] at this
end Go.Proofs.Ytjgohakiodcjmaa
namespace Go.Proofs.Ytjgohakiodcjmaa
open Go.RowKit
/-- A table by its cells. -/
def mat (h n : Nat) (f : Nat → Nat → Int) : Tb := (List.range h).map fun i => (List.range n).map (f i)
theorem mat_len (h n : Nat) (f : Nat → Nat → Int) : (mat h n f).length = h := by simp [mat]
theorem mat_row (h n : Nat) (f : Nat → Nat → Int) {i : Nat} (hi : i < h) : (mat h n f).getD i [] = (List.range n).map (f i) := by
  rw [getD_of _ _ (by rw [mat_len]; exact hi)]; simp [mat]
theorem mat_rlen (h n : Nat) (f : Nat → Nat → Int) {i : Nat} (hi : i < h) : ((mat h n f).getD i []).length = n := by rw [mat_row h n f hi]; simp
theorem mat_cell (h n : Nat) (f : Nat → Nat → Int) {i j : Nat} (hi : i < h) (hj : j < n) : ((mat h n f).getD i []).getD j 0 = f i j := by
  rw [mat_row h n f hi, getD_of _ _ (by simpa using hj)]; simp
theorem mat_ext {h n : Nat} {f g : Nat → Nat → Int} (e : ∀ i j, i < h → j < n → f i j = g i j) : mat h n f = mat h n g :=
  List.map_congr_left fun i hi => List.map_congr_left fun j hj => e i j (List.mem_range.1 hi) (List.mem_range.1 hj)
theorem mat_set (h n : Nat) (f : Nat → Nat → Int) {i j : Nat} (hi : i < h) (_hj : j < n) (x : Int) :
    (mat h n f).set i (((mat h n f).getD i []).set j x) = mat h n fun a b => if a = i ∧ b = j then x else f a b := by
  refine List.ext_getElem (by rw [List.length_set, mat_len, mat_len]) fun a ha _ => ?_
  rw [List.length_set, mat_len] at ha
  have e : (mat h n fun a b => if a = i ∧ b = j then x else f a b)[a]'(by rw [mat_len]; exact ha) = (List.range n).map fun b => if a = i ∧ b = j then x else f a b := by simp [mat]
  rw [e, List.getElem_set]
  by_cases hai : i = a
  · subst hai
    rw [if_pos rfl, mat_row h n f hi]
    refine List.ext_getElem (by simp) fun b hb _ => ?_
    rw [List.getElem_set]
    by_cases hbj : j = b
    · subst hbj; simp
    · rw [if_neg hbj]; simp; intro h; exact absurd h.symm hbj
  · rw [if_neg hai]
    have : ¬ a = i := fun h => hai h.symm
    simp [mat, this]
theorem zeros_mat (h n : Nat) : zeros h n = mat h n fun _ _ => 0 := by
  unfold zeros zrow mat
  rw [List.map_const', List.map_const', List.length_range, List.length_range]
theorem turn_mat (t : Tb) : turn t = mat (wd t) t.length fun j i => (t.getD i []).getD j 0 := by
  unfold turn mat
  refine List.map_congr_left fun j _ => List.ext_getElem (by rw [col_len]; simp) fun i h1 h2 => ?_
  rw [col_len] at h1
  rw [← getD_of (col t j) 0 (by rw [col_len]; exact h1), col_get t j h1]; simp
theorem tabOf_mat (l : List Pn) : tabOf l = mat 4 4 fun i j => cel l i j := rfl
theorem Own1.lower {T : TypeId} {w : World} {B B' : Nat} {v : Value} {cs : List Value} (h : Own1 T w B v cs) (hB : B' ≤ B) : Own1 T w B' v cs := h.less hB
theorem Mine.lower {w : World} {B B' T : Nat} {v : Value} {ll : List (List Int)} (h : Mine w B T v ll) (hB : B' ≤ B) : Mine w B' T v ll := by
  obtain ⟨hT, hv, hs, ho, hr⟩ := h
  exact ⟨hT, hv, hs, ho.less hB, hr.1, fun i hi => ⟨(hr.2.1 i hi).1.less hB, (hr.2.1 i hi).2⟩, hr.2.2⟩
theorem Mine.drewN {w : World} {B T : Nat} {v : Value} {ll : List (List Int)} (h : Mine w B T v ll) (n : Nat) : Mine (w.drewN n) B T v ll := h
/-- The cells of a table that came in. -/
theorem IsR.head {W : World} {q c : Nat} {A : Option Addr} {t : Tb} (h : IsR W (.slice A q c) t) : q = t.length ∧ t.length ≤ c ∧ c ≤ maxLen ∧ LL W W.heap.size A t := by
  obtain ⟨A', c', hv, h1, h2, h3⟩ := h
  injection hv with e1 e2 e3
  subst e1 e3
  exact ⟨e2, h1, h2, h3⟩
theorem LL.cell2 {W : World} {A : Option Addr} {t : Tb} (h : LL W W.heap.size A t) {i j : Nat} (hi : i < t.length) (hj : j < (t.getD i []).length) :
    ∃ b o b2 o2 c2, A = some ⟨b, o, none⟩ ∧ b < W.heap.size ∧ W.cell? ⟨b, o + i, none⟩ = some (.slice (some ⟨b2, o2, none⟩) (t.getD i []).length c2) ∧ (t.getD i []).length ≤ c2 ∧ b2 < W.heap.size ∧ W.cell? ⟨b2, o2 + j, none⟩ = some (.int .i64 ((t.getD i []).getD j 0)) := by
  obtain ⟨b, o, A1, c1, hA, hb, hc, hl, _, hr⟩ := h.at_ i hi
  obtain ⟨b2, o2, hA2, hb2, hc2⟩ := hr.int_ j hj
  subst hA2
  exact ⟨b, o, b2, o2, c1, hA, hb, hc, hl, hb2, hc2⟩
theorem tab_lens {t : Tb} (h : tabOk t = true) {i : Nat} (hi : i < t.length) : (t.getD i []).length = wd t := by
  rw [getD_of _ _ hi]; exact (tab_iff.1 h).len _ (List.getElem_mem hi)
/-- What has been turned when the cell (i, j) is next. -/
def turnTo (t : Tb) (i j : Nat) : Tb := mat (wd t) t.length fun a b => if b < i ∨ (b = i ∧ a < j) then (t.getD b []).getD a 0 else 0
theorem turnTo_start (t : Tb) : turnTo t 0 0 = zeros (wd t) t.length := by
  rw [zeros_mat, turnTo]
  exact mat_ext fun a b _ _ => by rw [if_neg (by omega)]
theorem turnTo_step (t : Tb) {i j : Nat} (hi : i < t.length) (hj : j < wd t) : (turnTo t i j).set j (((turnTo t i j).getD j []).set i ((t.getD i []).getD j 0)) = turnTo t i (j + 1) := by
  rw [turnTo, mat_set _ _ _ hj hi, turnTo]
  refine mat_ext fun a b _ _ => ?_
  by_cases h : a = j ∧ b = i
  · rw [if_pos h, if_pos (by omega), h.1, h.2]
  · rw [if_neg h]
    by_cases h2 : b < i ∨ (b = i ∧ a < j)
    · rw [if_pos h2, if_pos (by omega)]
    · rw [if_neg h2, if_neg (by omega)]
theorem turnTo_next (t : Tb) (i : Nat) : turnTo t i (wd t) = turnTo t (i + 1) 0 := by
  unfold turnTo
  exact mat_ext fun a b ha _ => by
    by_cases h : b < i + 1
    · rw [if_pos (by omega), if_pos (by omega)]
    · rw [if_neg (by omega), if_neg (by omega)]
theorem turnTo_end (t : Tb) : turnTo t t.length 0 = turn t := by
  rw [turn_mat, turnTo]
  exact mat_ext fun a b _ hb => by rw [if_pos (by omega)]
def turnI (t : Tb) : Tb := if tabOk t = true then turn t else []
end Go.Proofs.Ytjgohakiodcjmaa
