/- Contracts of the model: tables. Contracts of the model: tables filled cell by cell. -/
import Derived.Test.YtobgceebolmfcaaDoorTM2
import Derived.Test.YtobgceebolmfcaaDoorTW
import Derived.Lib.SliceRun
import Derived.StillTailTactics
namespace Go.Proofs.YtobgceebolmfcaaDoor
open Go.RowKit
/-- Rows are handed back, the call's own. -/
def OutR1 (m : Tb) (w : World) (e : Ending) (w' : World) : Prop := ∃ v, e = .returned v ∧ InR w' w.heap.size w'.heap.size v m ∧ Below w.heap.size w w'
def OutRT (m : Tb) (t : Bool) (w : World) (e : Ending) (w' : World) : Prop := ∃ v, e = .returned (.tuple #[v, .bool t]) ∧ InR w' w.heap.size w'.heap.size v m ∧ Below w.heap.size w w'
def zrow (n : Nat) : List Int := List.replicate n 0
def zeros (h n : Nat) : Tb := List.replicate h (zrow n)
theorem zrow_cells (n : Nat) : icells (zrow n) = List.replicate n (.int .i64 0) := by simp [icells, zrow]
theorem zeros_succ (h n : Nat) : zeros (h + 1) n = zeros h n ++ [zrow n] := by unfold zeros; rw [List.replicate_succ']
set_option maxHeartbeats 1000000 in
theorem sBlank_any (m n : Nat) (hm : m ≤ 1000) (hn : n ≤ 1000) (w : World) : Calls Tryd.prog 81 #[.int .i64 m, .int .i64 n] w (OutR1 (zeros m n) w) := by
  obtain ⟨i0, hi0, hz0, hs0, hs1⟩ := info_parts (P := Tryd.prog) (e := TN) (z := .int .i64 0) (size := 1) (bytes := 8) (by kernel_rfl)
  go_enter Tryd.func81, Tryd.ntmps81
  go_wp2
  go_loopw [5, 6] (fun v i wr => ∃ k : Nat, k ≤ m ∧ i = .int .i64 k ∧ Mine wr w.heap.size wr.heap.size v (zeros k n) ∧ Below w.heap.size w wr) (fun _ i _ => m - (intOf i).toNat)
  case atStart => exact ⟨0, Nat.zero_le _, rfl, (mine_new (Nat.le_refl _)).up, (Below.refl _ _).alloc (Nat.le_refl _) _⟩
  case round =>
    obtain ⟨k, hk, rfl, ho, hb⟩ := hrel
    have HO := Lib.hid ho
    have HB := Lib.hid hb
    have hz := hb.size
    clear ho hb
    by_cases hlt : k < m
    · have hki : (k : Int) < (m : Int) := by omega
      have HS := Lib.hid (zeros_succ k n)
      have HL := Lib.hid (show (zeros k n).length + 1 ≤ 1000000 by simp [zeros]; omega)
      go_wp2_with (first
        | (at_make
           go_loud (refine wpList_make_full _ rfl _ _ 30 rfl wr.heap.size TN i0 (.int .i64 0) 1 Tryd.underlying30 hi0 hz0 hs0 _ _ _ _ n rfl rfl rfl rfl (by rw [hs1]; omega) (by simp only [maxLen]; omega) (Nat.le_refl _) ?_)
           intro w1 ho hg
           have ho1 : Own1 TN w1 wr.heap.size (.slice (some ⟨wr.heap.size, 0, none⟩) n n) (icells (zrow n)) := by
             have h := ho
             have e : (Value.int IntKind.i64 0).cells = #[.int .i64 0] := rfl
             rw [e, made_one] at h
             unfold Own1
             rw [zrow_cells, List.length_replicate]; exact h
           have hB1 : Below wr.heap.size wr w1 := (Below.refl _ _).grown hg (Nat.le_refl _) (fun k hk => by cases hk)
           have hz1 := hB1.size
           have HRW := Lib.hid ((ho1.alloc (.cells #[.slice (some ⟨wr.heap.size, 0, none⟩) n n] TI)).less hz)
           have HFR := Lib.hid (show ∀ k, (Value.slice (some ⟨wr.heap.size, 0, none⟩) n n).ownBlock = some k → some k ≠ u5.ownBlock ∧ (wr.heap.size ≤ k ∨ k < w.heap.size) from fun k e => by
             have e2 : some wr.heap.size = some k := e
             injection e2 with e2
             exact ⟨fun e3 => by have := (HO.out.ob k e3.symm).2; omega, .inl (by omega)⟩)
           have HO2 := Lib.hid (HO.out.below hB1)
           have HB2 := Lib.hid (HB.out.trans (hB1.mono hz))
           clear ho ho1 hg hB1)
        | (at_builtin
           refine appMine rfl (.tmp 13) (.tmp 16) rfl w.heap.size wr.heap.size u5 (zeros k n) rfl (HO2.out.alloc _) (w1.heap.size + 1) (some ⟨w1.heap.size, 0, none⟩) 1 (.slice (some ⟨wr.heap.size, 0, none⟩) n n) (zrow n) rfl (row_lit w1 #[.slice (some ⟨wr.heap.size, 0, none⟩) n n] TI) w.heap.size (Nat.le_refl _) HRW.out HFR.out HL.out (by simp; omega) ?_
           intro v7 w7 ho7 hg7 _
           have HB7 := Lib.hid (below_ownLL (HB2.out.alloc HB2.out.size _) (HO2.out.own.alloc _) hg7)
           have HO7 := Lib.hid ho7
           clear ho7 hg7))
      go_roundw
      case rel => exact ⟨k + 1, by omega, by go_num, by rw [HS.out]; exact HO7.out, HB7.out⟩
      case measure => simp [intOf]; omega
    · have hki : ¬ (k : Int) < (m : Int) := by omega
      have hkm : k = m := by omega
      rw [hkm] at HO
      go_wp2
      go_ret
      exact ⟨_, rfl, HO.out, HB.out⟩
theorem wd_zero (t : Tb) : wd t = (t.getD 0 []).length := by cases t <;> rfl
theorem tab_row {t : Tb} (h : tabOk t = true) {i : Nat} (hi : i < t.length) : rowOk (wd t) (t.getD i []) = true := by
  simp only [tabOk, Bool.and_eq_true, List.all_eq_true] at h
  rw [getD_of _ _ hi]; exact h.2 _ (List.getElem_mem hi)
theorem tab_bad {t : Tb} {i : Nat} (hi : i < t.length) (h : rowOk (wd t) (t.getD i []) = false) : tabOk t = false := by
  cases hk : tabOk t
  · rfl
  · rw [tab_row hk hi] at h; cases h
theorem tab_all {t : Tb} (h1 : in3 t.length 1 4 = true) (h2 : in3 (wd t) 1 4 = true) (h : ∀ i, i < t.length → rowOk (wd t) (t.getD i []) = true) : tabOk t = true := by
  simp only [tabOk, h1, h2, Bool.true_and, List.all_eq_true]
  intro r hr
  obtain ⟨i, hi, rfl⟩ := List.getElem_of_mem hr
  have := h i hi
  rwa [getD_of _ _ hi] at this
theorem row_len_bad {n : Nat} {r : List Int} (h : r.length ≠ n) : rowOk n r = false := by simp [rowOk, h]
theorem row_cell_bad {n : Nat} {r : List Int} {j : Nat} (hj : j < r.length) (h : in3 (r.getD j 0) 0 99 = false) : rowOk n r = false := by
  cases hk : rowOk n r
  · rfl
  · simp only [rowOk, Bool.and_eq_true, List.all_eq_true] at hk
    have := hk.2 r[j] (List.getElem_mem hj)
    rw [getD_of _ _ hj, this] at h; cases h
theorem row_all {n : Nat} {r : List Int} (h : r.length = n) (h2 : ∀ j, j < r.length → in3 (r.getD j 0) 0 99 = true) : rowOk n r = true := by
  simp only [rowOk, h, decide_true, Bool.true_and, List.all_eq_true]
  intro x hx
  obtain ⟨j, hj, rfl⟩ := List.getElem_of_mem hx
  have := h2 j hj
  rwa [getD_of _ _ hj] at this
set_option maxHeartbeats 2000000 in
theorem sTab_is (W : World) (t : Tb) (v : Value) (hv : IsR W v t) (g : Bool) (hg : tabOk t = g) (w : World) (hb : Below W.heap.size W w) :
    Calls Tryd.prog 82 #[v] w (Back (.bool g) W) := by
  obtain ⟨A, c, rfl, a1, a2, a3⟩ := hv
  obtain ⟨q, hq⟩ : ∃ q, q = t.length := ⟨_, rfl⟩
  have HQ := Lib.hid hq
  have HR := Lib.hid a3
  have HG := Lib.hid hg
  have HB := Lib.hid hb
  have hqm : q ≤ maxLen := by omega
  rw [← hq]
  clear a1 a2 a3 hg hq hb
  cases h1 : in3 (q : Int) 1 4
  · have HE := Lib.hid (show g = false by rw [← HG.out, tabOk, ← HQ.out, h1]; rfl)
    have H1 := Lib.hid h1
    clear h1
    go_enter Tryd.func82, Tryd.ntmps82
    go_wp2_with fail
    refine (l6In_any q 1 4 _).mono ?_
    rintro e w' ⟨rfl, rfl⟩
    rw [H1.out]
    go_wp2
    go_ret
    exact ⟨retb HE.out.symm, HB.out⟩
  have hq4 : 1 ≤ q ∧ q ≤ 4 := by have := in3_parts.1 h1; omega
  have H1 := Lib.hid h1
  clear h1
  obtain ⟨b, o, A0, c0, rfl, hbW, hc, hl0, hm0, hr0⟩ := HR.out.at_ 0 (by rw [← HQ.out]; omega)
  rw [← wd_zero] at hc hl0
  obtain ⟨d, hd⟩ : ∃ d, d = wd t := ⟨_, rfl⟩
  have HD := Lib.hid hd
  rw [← hd] at hc hl0
  rw [Nat.add_zero] at hc
  have HC0 := Lib.hid hc
  clear hc hd hl0 hm0 hr0
  cases h2 : in3 (d : Int) 1 4
  · have HE := Lib.hid (show g = false by rw [← HG.out, tabOk, ← HQ.out, H1.out, ← HD.out, h2]; rfl)
    have H2 := Lib.hid h2
    clear h2
    go_enter Tryd.func82, Tryd.ntmps82
    go_wp2_with fail
    refine (l6In_any q 1 4 _).mono ?_
    rintro e w' ⟨rfl, rfl⟩
    rw [H1.out]
    have e0 := (HB.out.cell (p := ⟨b, o, none⟩) hbW).trans HC0.out
    go_wp2_with fail
    refine (l6In_any d 1 4 _).mono ?_
    rintro e w' ⟨rfl, rfl⟩
    rw [H2.out]
    go_wp2
    go_ret
    exact ⟨retb HE.out.symm, HB.out⟩
  have hd4 : 1 ≤ d ∧ d ≤ 4 := by have := in3_parts.1 h2; omega
  have H2 := Lib.hid h2
  clear h2
  go_enter Tryd.func82, Tryd.ntmps82
  go_wp2_with fail
  refine (l6In_any q 1 4 _).mono ?_
  rintro e w' ⟨rfl, rfl⟩
  rw [H1.out]
  have e0 := (HB.out.cell (p := ⟨b, o, none⟩) hbW).trans HC0.out
  go_wp2_with fail
  refine (l6In_any d 1 4 _).mono ?_
  rintro e w' ⟨rfl, rfl⟩
  rw [H2.out]
  clear e0
  go_wp2
  go_loopw [3] (fun i wr => ∃ k : Nat, k ≤ q ∧ i = .int .i64 k ∧ (∀ j, j < k → rowOk d (t.getD j []) = true) ∧ Below W.heap.size W wr) (fun i _ => q - (intOf i).toNat)
  case atStart => exact ⟨0, Nat.zero_le _, rfl, fun j hj => absurd hj (by omega), HB.out⟩
  case round =>
    obtain ⟨k, hk, rfl, hall, hb⟩ := hrel
    have HA := Lib.hid hall
    clear hall
    by_cases hlt : k < q
    · have hki : (k : Int) < (q : Int) := by omega
      have hkt : k < t.length := by rw [← HQ.out]; exact hlt
      have HKT := Lib.hid hkt
      obtain ⟨b', o', A1, c1, hA, hb1, hc1, hl1, hm1, hr1⟩ := HR.out.at_ k hkt
      injection hA with hA
      injection hA with g1 g2 _
      subst g1 g2
      have e0 := (hb.cell (p := ⟨b, o, none⟩) hbW).trans HC0.out
      have e1 := (hb.cell (p := ⟨b, o + k, none⟩) hbW).trans hc1
      obtain ⟨row, hrow⟩ : ∃ row, t.getD k [] = row := ⟨_, rfl⟩
      have HROW := Lib.hid hrow
      rw [hrow] at e1 hl1 hr1
      obtain ⟨n, hn⟩ : ∃ n, n = row.length := ⟨_, rfl⟩
      have HN := Lib.hid hn
      rw [← hn] at e1 hl1
      have HR1 := Lib.hid hr1
      have HC1 := Lib.hid (show W.cell? ⟨b, o + k, none⟩ = some (.slice A1 n c1) by rw [hc1, hrow, hn])
      have hnm : n ≤ maxLen := by omega
      clear hc1 hrow hn hr1 hkt
      by_cases hnd : n = d
      · have hbq : ((n : Int) == (d : Int)) = true := by rw [beq_iff_eq]; omega
        have HB2 := Lib.hid hb
        go_wp2
        go_quiet (fail)
        have HB3 := Lib.hid (below_draws HB2.out nq)
        clear e0 e1
        go_wp2
        go_loopw [4] (fun j wr' => ∃ m : Nat, m ≤ n ∧ j = .int .i64 m ∧ (∀ x, x < m → in3 (row.getD x 0) 0 99 = true) ∧ Below W.heap.size W wr') (fun j _ => n - (intOf j).toNat)
        case atStart => exact ⟨0, Nat.zero_le _, rfl, fun x hx => absurd hx (by omega), HB3.out⟩
        case round =>
          obtain ⟨m, hm, rfl, hcells, hb'⟩ := hrel
          have HCE := Lib.hid hcells
          have HB4 := Lib.hid hb'
          have e2 := (hb'.cell (p := ⟨b, o + k, none⟩) hbW).trans HC1.out
          clear hcells
          by_cases hmn : m < n
          · have hmi : (m : Int) < (n : Int) := by omega
            have hmr : m < row.length := by rw [← HN.out]; exact hmn
            obtain ⟨b2, o2, hA2, hb2, hc2⟩ := HR1.out.int_ m hmr
            subst hA2
            have e3 := (hb'.cell (p := ⟨b2, o2 + m, none⟩) hb2).trans hc2
            obtain ⟨x, hx⟩ : ∃ x, row.getD m 0 = x := ⟨_, rfl⟩
            have HX := Lib.hid hx
            have HMR := Lib.hid hmr
            rw [hx] at e3
            clear hx hc2 hmr
            go_wp2_with fail
            refine (l6In_any x 0 99 _).mono ?_
            rintro e w5 ⟨rfl, rfl⟩
            cases hin : in3 x 0 99
            · have HE := Lib.hid (show g = false by rw [← HG.out]; exact tab_bad HKT.out (by rw [HROW.out]; exact row_cell_bad HMR.out (by rw [HX.out]; exact hin)))
              clear hin
              go_wp2
              go_ret
              exact ⟨retb HE.out.symm, HB4.out⟩
            · have HS := Lib.hid (show ∀ y, y < m + 1 → in3 (row.getD y 0) 0 99 = true from fun y hy => by
                rcases Nat.lt_or_ge y m with h | h
                · exact HCE.out y h
                · rw [show y = m by omega, HX.out]; exact hin)
              clear hin
              go_wp2
              go_roundw
              case rel => exact ⟨m + 1, by omega, by go_num, HS.out, HB4.out⟩
              case measure => simp [intOf]; omega
          · have hmi : ¬ (m : Int) < (n : Int) := by omega
            have HS := Lib.hid (show ∀ j, j < k + 1 → rowOk d (t.getD j []) = true from fun j hj => by
              rcases Nat.lt_or_ge j k with h | h
              · exact HA.out j h
              · rw [show j = k by omega, HROW.out]
                exact row_all (by rw [← HN.out]; exact hnd) fun y hy => HCE.out y (by rw [← HN.out] at hy; omega))
            go_wp2
            go_roundw
            case rel => exact ⟨k + 1, by omega, by go_num, HS.out, HB4.out⟩
            case measure => simp [intOf]; omega
      · have hbq : ((n : Int) == (d : Int)) = false := by rw [beq_eq_false_iff_ne]; omega
        have HE := Lib.hid (show g = false by rw [← HG.out]; exact tab_bad HKT.out (by rw [HROW.out]; exact row_len_bad (by rw [← HN.out, ← HD.out]; exact hnd)))
        have HB2 := Lib.hid hb
        go_wp2
        go_quiet (fail)
        go_wp2
        go_ret
        exact ⟨retb HE.out.symm, below_draws HB2.out _⟩
    · have hki : ¬ (k : Int) < (q : Int) := by omega
      have HE := Lib.hid (show g = true by
        rw [← HG.out]
        exact tab_all (by rw [← HQ.out]; exact H1.out) (by rw [← HD.out]; exact H2.out) fun i hi => by rw [← HD.out]; exact HA.out i (by rw [← HQ.out] at hi; omega))
      go_wp2
      go_ret
      exact ⟨retb HE.out.symm, hb⟩
end Go.Proofs.YtobgceebolmfcaaDoor
namespace Go.Proofs.YtobgceebolmfcaaDoor
open Go.RowKit
/-- A table by its cells. -/
def mat (h n : Nat) (f : Nat → Nat → Int) : Tb := (List.range h).map fun i => (List.range n).map (f i)
theorem mat_len (h n : Nat) (f : Nat → Nat → Int) : (mat h n f).length = h := by simp [mat]
theorem mat_row (h n : Nat) (f : Nat → Nat → Int) {i : Nat} (hi : i < h) : (mat h n f).getD i [] = (List.range n).map (f i) := by
  rw [getD_of _ _ (by rw [mat_len]; exact hi)]; simp [mat]
theorem mat_rlen (h n : Nat) (f : Nat → Nat → Int) {i : Nat} (hi : i < h) : ((mat h n f).getD i []).length = n := by rw [mat_row h n f hi]; simp
theorem mat_cell (h n : Nat) (f : Nat → Nat → Int) {i j : Nat} (hi : i < h) (hj : j < n) : ((mat h n f).getD i []).getD j 0 = f i j := by
  rw [mat_row h n f hi, getD_of _ _ (by simpa using hj)]; simp
theorem mat_ext {h n : Nat} {f g : Nat → Nat → Int} (e : ∀ i j, i < h → j < n → f i j = g i j) : mat h n f = mat h n g :=
  List.map_congr_left fun i hi => List.map_congr_left fun j hj => e i j (List.mem_range.1 hi) (List.mem_range.1 hj)
theorem mat_set (h n : Nat) (f : Nat → Nat → Int) {i j : Nat} (hi : i < h) (_hj : j < n) (x : Int) :
    (mat h n f).set i (((mat h n f).getD i []).set j x) = mat h n fun a b => if a = i ∧ b = j then x else f a b := by
  refine List.ext_getElem (by rw [List.length_set, mat_len, mat_len]) fun a ha _ => ?_
  rw [List.length_set, mat_len] at ha
  have e : (mat h n fun a b => if a = i ∧ b = j then x else f a b)[a]'(by rw [mat_len]; exact ha) = (List.range n).map fun b => if a = i ∧ b = j then x else f a b := by simp [mat]
  rw [e, List.getElem_set]
  by_cases hai : i = a
  · subst hai
    rw [if_pos rfl, mat_row h n f hi]
    refine List.ext_getElem (by simp) fun b hb _ => ?_
    rw [List.getElem_set]
    by_cases hbj : j = b
    · subst hbj; simp
    · rw [if_neg hbj]; simp; intro h; exact absurd h.symm hbj
  · rw [if_neg hai]
    have : ¬ a = i := fun h => hai h.symm
    simp [mat, this]
theorem zeros_mat (h n : Nat) : zeros h n = mat h n fun _ _ => 0 := by
  unfold zeros zrow mat
  rw [List.map_const', List.map_const', List.length_range, List.length_range]
theorem turn_mat (t : Tb) : turn t = mat (wd t) t.length fun j i => (t.getD i []).getD j 0 := by
  unfold turn mat
  refine List.map_congr_left fun j _ => List.ext_getElem (by rw [col_len]; simp) fun i h1 h2 => ?_
  rw [col_len] at h1
  rw [← getD_of (col t j) 0 (by rw [col_len]; exact h1), col_get t j h1]; simp
theorem tabOf_mat (l : List Pn) : tabOf l = mat 4 4 fun i j => cel l i j := rfl
theorem Own1.lower {T : TypeId} {w : World} {B B' : Nat} {v : Value} {cs : List Value} (h : Own1 T w B v cs) (hB : B' ≤ B) : Own1 T w B' v cs := h.less hB
theorem Mine.lower {w : World} {B B' T : Nat} {v : Value} {ll : List (List Int)} (h : Mine w B T v ll) (hB : B' ≤ B) : Mine w B' T v ll := by
  obtain ⟨hT, hv, hs, ho, hr⟩ := h
  exact ⟨hT, hv, hs, ho.less hB, hr.1, fun i hi => ⟨(hr.2.1 i hi).1.less hB, (hr.2.1 i hi).2⟩, hr.2.2⟩
theorem Mine.drewN {w : World} {B T : Nat} {v : Value} {ll : List (List Int)} (h : Mine w B T v ll) (n : Nat) : Mine (w.drewN n) B T v ll := h
/-- The cells of a table that came in. -/
theorem IsR.head {W : World} {q c : Nat} {A : Option Addr} {t : Tb} (h : IsR W (.slice A q c) t) : q = t.length ∧ t.length ≤ c ∧ c ≤ maxLen ∧ LL W W.heap.size A t := by
  obtain ⟨A', c', hv, h1, h2, h3⟩ := h
  injection hv with e1 e2 e3
  subst e1 e3
  exact ⟨e2, h1, h2, h3⟩
theorem LL.cell2 {W : World} {A : Option Addr} {t : Tb} (h : LL W W.heap.size A t) {i j : Nat} (hi : i < t.length) (hj : j < (t.getD i []).length) :
    ∃ b o b2 o2 c2, A = some ⟨b, o, none⟩ ∧ b < W.heap.size ∧ W.cell? ⟨b, o + i, none⟩ = some (.slice (some ⟨b2, o2, none⟩) (t.getD i []).length c2) ∧ (t.getD i []).length ≤ c2 ∧ b2 < W.heap.size ∧ W.cell? ⟨b2, o2 + j, none⟩ = some (.int .i64 ((t.getD i []).getD j 0)) := by
  obtain ⟨b, o, A1, c1, hA, hb, hc, hl, _, hr⟩ := h.at_ i hi
  obtain ⟨b2, o2, hA2, hb2, hc2⟩ := hr.int_ j hj
  subst hA2
  exact ⟨b, o, b2, o2, c1, hA, hb, hc, hl, hb2, hc2⟩
theorem tab_lens {t : Tb} (h : tabOk t = true) {i : Nat} (hi : i < t.length) : (t.getD i []).length = wd t := by
  rw [getD_of _ _ hi]; exact (tab_iff.1 h).len _ (List.getElem_mem hi)
/-- What has been turned when the cell (i, j) is next. -/
def turnTo (t : Tb) (i j : Nat) : Tb := mat (wd t) t.length fun a b => if b < i ∨ (b = i ∧ a < j) then (t.getD b []).getD a 0 else 0
theorem turnTo_start (t : Tb) : turnTo t 0 0 = zeros (wd t) t.length := by
  rw [zeros_mat, turnTo]
  exact mat_ext fun a b _ _ => by rw [if_neg (by omega)]
theorem turnTo_step (t : Tb) {i j : Nat} (hi : i < t.length) (hj : j < wd t) : (turnTo t i j).set j (((turnTo t i j).getD j []).set i ((t.getD i []).getD j 0)) = turnTo t i (j + 1) := by
  rw [turnTo, mat_set _ _ _ hj hi, turnTo]
  refine mat_ext fun a b _ _ => ?_
  by_cases h : a = j ∧ b = i
  · rw [if_pos h, if_pos (by omega), h.1, h.2]
  · rw [if_neg h]
    by_cases h2 : b < i ∨ (b = i ∧ a < j)
    · rw [if_pos h2, if_pos (by omega)]
    · rw [if_neg h2, if_neg (by omega)]
theorem turnTo_next (t : Tb) (i : Nat) : turnTo t i (wd t) = turnTo t (i + 1) 0 := by
  unfold turnTo
  exact mat_ext fun a b ha _ => by
    by_cases h : b < i + 1
    · rw [if_pos (by omega), if_pos (by omega)]
    · rw [if_neg (by omega), if_neg (by omega)]
theorem turnTo_end (t : Tb) : turnTo t t.length 0 = turn t := by
  rw [turn_mat, turnTo]
  exact mat_ext fun a b _ hb => by rw [if_pos (by omega)]
def turnI (t : Tb) : Tb := if tabOk t = true then turn t else []
end Go.Proofs.YtobgceebolmfcaaDoor
