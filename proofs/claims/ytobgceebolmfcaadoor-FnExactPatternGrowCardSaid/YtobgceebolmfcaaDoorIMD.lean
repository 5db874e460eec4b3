/- Contracts of the program: tables and masks that are valid, flags counted. Contracts of the program: row and column sums. -/
import Derived.Test.YtobgceebolmfcaaDoorIM4
import Derived.Test.YtobgceebolmfcaaDoorTS7
import Derived.Test.YtobgceebolmfcaaDoorTMK
import Derived.Test.YtobgceebolmfcaaDoorIMC
import Derived.BigQuiet
namespace Go.Proofs.YtobgceebolmfcaaDoor
open Go.RowKit Go.Shelf
theorem mk_rect {t : Tb} {m : Mk} (h : tabOk t = true) : mkOk t m = (rectM m && (decide ((m.length : Int) = t.length) && decide ((wdM m : Int) = wd t))) := by
  have ht := tab_iff.1 h
  rw [Bool.eq_iff_iff]
  simp only [mkOk, rectM, Bool.and_eq_true, decide_eq_true_eq, List.all_eq_true, in3, h]
  constructor
  · rintro ⟨⟨_, h1⟩, h2⟩
    have hw : wdM m = wd t := by
      cases m with
      | nil => have := ht.h1; simp at h1; omega
      | cons r m => exact h2 r (by simp)
    have := ht.h1; have := ht.h4; have := ht.w1; have := ht.w4
    exact ⟨⟨⟨⟨by omega, by omega⟩, by omega, by omega⟩, fun r hr => by rw [hw]; exact h2 r hr⟩, by omega, by omega⟩
  · rintro ⟨⟨_, h2⟩, h3, h4⟩
    exact ⟨⟨trivial, by omega⟩, fun r hr => by rw [h2 r hr]; omega⟩
set_option maxHeartbeats 1000000 in
theorem iMask_is (W : World) (t : Tb) (v : Value) (hv : IsR W v t) (m : Mk) (u : Value) (hu : IsM W u m) (g : Bool) (hg : mkOk t m = g) (w : World) (hb : Below W.heap.size W w) :
    Calls Tryd.prog 24 #[v, u] w (Back (.bool g) W) := by
  have HG := Lib.hid hg
  have HV := Lib.hid hv
  have HU := Lib.hid hu
  obtain ⟨A, c, rfl, _, _, _⟩ := hv
  obtain ⟨B, cu, rfl, _, _, _⟩ := hu
  obtain ⟨tt, htt⟩ : ∃ tt, tabOk t = tt := ⟨_, rfl⟩
  have HT := Lib.hid htt
  obtain ⟨mm, hmm⟩ : ∃ mm, rectM m = mm := ⟨_, rfl⟩
  have HM := Lib.hid hmm
  clear hg htt hmm
  go_enter Tryd.func24, Tryd.ntmps24
  go_wp2_with fail
  refine (iTGrid_is W t _ HV.out tt HT.out _ hb).mono ?_
  rintro e w1 ⟨rfl, b1⟩
  have hz1 := b1.size
  cases tt
  · have HE := Lib.hid (show g = false by rw [← HG.out, mkOk, HT.out]; rfl)
    rw [gridV_no]
    go_wp2
    go_ret
    exact ⟨retb HE.out.symm, b1.alloc hz1 _⟩
  have HE := Lib.hid ((mk_rect HT.out).symm.trans HG.out)
  rw [gridV_yes]
  obtain ⟨q, hq⟩ : ∃ q, t.length = q := ⟨_, rfl⟩
  rw [hq] at HV
  obtain ⟨d, hd⟩ : ∃ d, wd t = d := ⟨_, rfl⟩
  rw [hq, hd] at HE ⊢
  obtain ⟨W2, hW2⟩ : ∃ W2, W2 = w1.alloc (.cells #[.int .i64 q, .int .i64 d, .slice A q c] TGI) := ⟨_, rfl⟩
  have b2 : Below W.heap.size W W2 := by rw [hW2]; exact b1.alloc hz1 _
  have HK := Lib.hid (show ∀ X, Below W2.heap.size W2 X → X.heap[w1.heap.size]? = some (.cells #[.int .i64 q, .int .i64 d, .slice A q c] TGI (0, 0)) from fun X h => (h.block _ (by rw [hW2]; simp)).trans (by rw [hW2]; exact heap_alloc_new _ _))
  have hz2 := b2.size
  have HW := Lib.hid hW2.symm
  clear hW2 hq hd
  go_wp2_with fail
  rw [HW.out]
  refine (iGridM_is W2 m _ (HU.out.below b2) mm HM.out _ (Below.refl _ _)).mono ?_
  rintro e w3 ⟨rfl, b3⟩
  have hz3 := b3.size
  cases mm
  · have HE2 := Lib.hid (show g = false by rw [← HE.out, HM.out]; rfl)
    rw [show gridVM m (.slice B m.length cu) false = grV 0 0 (.slice none 0 0) from rfl]
    go_wp2
    go_ret
    exact ⟨retb HE2.out.symm, b2.trans ((b3.alloc hz3 _).mono hz2)⟩
  · rw [show gridVM m (.slice B m.length cu) true = grV m.length (wdM m) (.slice B m.length cu) from rfl]
    rw [HM.out] at HE
    obtain ⟨n, hn⟩ : ∃ n, m.length = n := ⟨_, rfl⟩
    obtain ⟨y, hy⟩ : ∃ y, wdM m = y := ⟨_, rfl⟩
    rw [hn, hy] at HE ⊢
    obtain ⟨c0, c1, _, _, _, _⟩ := blkG3 (HK.out _ (b3.alloc hz3 (.cells #[.int .i64 n, .int .i64 y, .slice B n cu] 79)))
    clear hn hy
    go_wp2
    all_goals (go_ret; exact ⟨retb (by rw [← HE.out]; simp [*]), b2.trans ((b3.alloc hz3 _).mono hz2)⟩)
set_option maxHeartbeats 1000000 in
theorem iMaskMany_is (W : World) (m : Mk) (u : Value) (hu : IsM W u m) (h9 : mmany m ≤ 1000000000) (g : Int) (hg : (mmany m : Int) = g) (w : World) (hb : Below W.heap.size W w) :
    Calls Tryd.prog 23 #[u] w (Back (.int .i64 g) W) := by
  have HG := Lib.hid hg
  obtain ⟨B, c', rfl, b1, b2, b3⟩ := hu
  obtain ⟨n, hn⟩ : ∃ n, n = m.length := ⟨_, rfl⟩
  have HN := Lib.hid hn
  have HM := Lib.hid b3
  have HB := Lib.hid hb
  have hnm : n ≤ maxLen := by omega
  have H9 := Lib.hid h9
  rw [← hn]
  unfold maxLen at hnm
  clear b1 b2 b3 hg hn hb h9
  go_enter Tryd.func23, Tryd.ntmps23
  go_wp2
  go_loopw [3, 10] (fun v i wr => ∃ k : Nat, k ≤ n ∧ i = .int .i64 k ∧ v = .int .i64 (mmany (m.take k) : Nat) ∧ Below W.heap.size W wr) (fun _ i _ => n - (intOf i).toNat)
  case atStart => exact ⟨0, Nat.zero_le _, rfl, rfl, HB.out⟩
  case round =>
    obtain ⟨k, hk, rfl, rfl, hb⟩ := hrel
    have HB2 := Lib.hid hb
    by_cases hlt : k < n
    · have hki : (k : Int) < (n : Int) := by omega
      have hkm : k < m.length := by rw [← HN.out]; exact hlt
      have HS := Lib.hid (mmany_take m hkm)
      have hle := mmany_tle m (k + 1)
      rw [mmany_take m hkm] at hle
      have h9 := H9.out
      obtain ⟨b', o', A1, c1, hA, hb1, hc1, hl1, hm1, hr1⟩ := HM.out.at_ k hkm
      subst hA
      obtain ⟨row, hrow⟩ : ∃ row, m.getD k [] = row := ⟨_, rfl⟩
      rw [hrow] at HS hle hc1 hl1 hr1
      obtain ⟨x, hx⟩ : ∃ x, x = row.length := ⟨_, rfl⟩
      have HX := Lib.hid hx
      rw [← hx] at hc1 hl1
      have hxm : x ≤ maxLen := by omega
      unfold maxLen at hxm
      have e1 := (hb.cell (p := ⟨b', o' + k, none⟩) hb1).trans hc1
      have HR1 := Lib.hid hr1
      obtain ⟨p, hp⟩ : ∃ p, mmany (m.take k) = p := ⟨_, rfl⟩
      rw [hp] at HS hle ⊢
      clear hc1 hr1 hrow hx hp hm1 hb
      go_wp2
      go_loopw [3, 16] (fun v j wr' => ∃ y : Nat, y ≤ x ∧ j = .int .i64 y ∧ v = .int .i64 (p + cntB (row.take y) : Nat) ∧ Below W.heap.size W wr') (fun _ j _ => x - (intOf j).toNat)
      case atStart => exact ⟨0, Nat.zero_le _, rfl, by simp [cntB], HB2.out⟩
      case round =>
        obtain ⟨y, hy, rfl, rfl, hb⟩ := hrel
        have HB3 := Lib.hid hb
        have hle2 := cntB_tle row y
        by_cases hyx : y < x
        · have hyi : (y : Int) < (x : Int) := by omega
          have hyr : y < row.length := by rw [← HX.out]; exact hyx
          obtain ⟨b2, o2, hA2, hb2, hc2⟩ := HR1.out.bool_ y hyr
          subst hA2
          have e2 := (hb.cell (p := ⟨b2, o2 + y, none⟩) hb2).trans hc2
          have HS2 := Lib.hid (cntB_take row hyr)
          have hle3 := cntB_tle row (y + 1)
          obtain ⟨s, hs⟩ : ∃ s, cntB (row.take y) = s := ⟨_, rfl⟩
          obtain ⟨f, hf⟩ : ∃ f, row.getD y false = f := ⟨_, rfl⟩
          rw [hs, hf] at HS2
          rw [hf] at e2
          rw [hs] at hle2 ⊢
          clear hs hf hyr hc2 hb
          cases f
          · have HS3 := Lib.hid (show cntB (row.take (y + 1)) = s by rw [HS2.out]; rfl)
            go_wp2
            go_roundw
            case rel => exact ⟨y + 1, by omega, by go_num, by rw [HS3.out], HB3.out⟩
            case measure => simp [intOf]; omega
          · have HS3 := Lib.hid (show cntB (row.take (y + 1)) = s + 1 by rw [HS2.out]; rfl)
            go_wp2
            go_roundw
            case rel => exact ⟨y + 1, by omega, by go_num, by rw [HS3.out]; go_num, HB3.out⟩
            case measure => simp [intOf]; omega
        · have hyi : ¬ (y : Int) < (x : Int) := by omega
          have hyr : row.take y = row := List.take_of_length_le (by rw [← HX.out]; omega)
          rw [hyr, ← HS.out]
          clear hyr hb
          go_wp2
          go_roundw
          case rel => exact ⟨k + 1, by omega, by go_num, rfl, HB3.out⟩
          case measure => simp [intOf]; omega
    · have hki : ¬ (k : Int) < (n : Int) := by omega
      have hkn : m.take k = m := List.take_of_length_le (by rw [← HN.out]; omega)
      rw [hkn, HG.out]
      clear hkn hb
      go_wp2
      go_ret
      exact ⟨rfl, HB2.out⟩
end Go.Proofs.YtobgceebolmfcaaDoor
namespace Go.Proofs.YtobgceebolmfcaaDoor
open Go.RowKit Go.Shelf
attribute [local go_sem] Oper.semAt_some
def rsP (t : Tb) {q d : Nat} (pre : List (Pc q d)) (a : Nat) : Int := (pre.map fun x => if x.1.val = a then cellP t x else 0).sum
def csP (t : Tb) {q d : Nat} (pre : List (Pc q d)) (b : Nat) : Int := (pre.map fun x => if x.2.val = b then cellP t x else 0).sum
theorem rsP_snoc (t : Tb) {q d : Nat} (pre : List (Pc q d)) (x : Pc q d) (a : Nat) : rsP t (pre ++ [x]) a = rsP t pre a + if x.1.val = a then cellP t x else 0 := by simp [rsP]
theorem csP_snoc (t : Tb) {q d : Nat} (pre : List (Pc q d)) (x : Pc q d) (a : Nat) : csP t (pre ++ [x]) a = csP t pre a + if x.2.val = a then cellP t x else 0 := by simp [csP]
theorem rsP_step (t : Tb) {q d : Nat} (pre : List (Pc q d)) (x : Pc q d) : (vec q (rsP t pre)).set x.1.val (rsP t pre x.1.val + cellP t x) = vec q (rsP t (pre ++ [x])) := by
  rw [vec_set]
  refine vec_ext fun a _ => ?_
  rw [rsP_snoc]
  by_cases h : a = x.1.val
  · rw [if_pos h, if_pos h.symm, h]
  · rw [if_neg h, if_neg fun e => h e.symm]; omega
theorem csP_step (t : Tb) {q d : Nat} (pre : List (Pc q d)) (x : Pc q d) : (vec d (csP t pre)).set x.2.val (csP t pre x.2.val + cellP t x) = vec d (csP t (pre ++ [x])) := by
  rw [vec_set]
  refine vec_ext fun a _ => ?_
  rw [csP_snoc]
  by_cases h : a = x.2.val
  · rw [if_pos h, if_pos h.symm, h]
  · rw [if_neg h, if_neg fun e => h e.symm]; omega
theorem sum_if : ∀ {n : Nat} (f : Fin n → Int) (a : Nat) (ha : a < n), ((List.finRange n).map fun i => if i.val = a then f i else 0).sum = f ⟨a, ha⟩
  | 0, _, _, ha => by omega
  | n + 1, f, 0, _ => by
    rw [List.finRange_succ, List.map_cons, List.sum_cons, List.map_map]
    have e : ((fun i : Fin (n + 1) => if i.val = 0 then f i else 0) ∘ Fin.succ) = fun _ => 0 := by funext i; simp; intro h; exact absurd h (Fin.succ_ne_zero i)
    rw [e, List.map_const']
    simp
  | n + 1, f, a + 1, ha => by
    rw [List.finRange_succ, List.map_cons, List.sum_cons, List.map_map]
    have e : ((fun i : Fin (n + 1) => if i.val = a + 1 then f i else 0) ∘ Fin.succ) = fun i => if i.val = a then f i.succ else 0 := by funext i; simp
    rw [e, sum_if (fun i => f i.succ) a (by omega)]
    simp
theorem sum_fin0 {n : Nat} : ((List.finRange n).map fun _ => (0 : Int)).sum = 0 := by rw [List.map_const']; simp
theorem rsP_all {t : Tb} (h : ∀ i, i < t.length → (t.getD i []).length = wd t) : vec t.length (rsP t (plc t.length (wd t))) = rsum t := by
  refine List.ext_getElem (by rw [vec_len, rsum_len]) fun a h1 _ => ?_
  rw [vec_len] at h1
  simp only [vec, List.getElem_map, List.getElem_range, rsum, rsP]
  rw [plc_sum]
  have e : (fun i : Fin t.length => ((List.finRange (wd t)).map fun b => if (i, b).1.val = a then cellP t (i, b) else 0).sum) = fun i => if i.val = a then (t.getD i.val []).sum else 0 := by
    funext i
    by_cases hi : i.val = a
    · rw [if_pos hi]
      have h2 := finRange_get (t.getD i.val []) 0
      rw [h i.val i.isLt] at h2
      simp only [hi, if_true]
      rw [← hi]
      exact congrArg List.sum h2
    · rw [if_neg hi]
      simp only [hi, if_false]
      exact sum_fin0
  rw [e, sum_if _ a h1, getD_of _ _ h1]
theorem csP_all {t : Tb} : vec (wd t) (csP t (plc t.length (wd t))) = csum t := by
  unfold vec csum
  refine List.map_congr_left fun b hb => ?_
  have hbw := List.mem_range.1 hb
  simp only [csP]
  rw [plc_sum]
  have e : (fun i : Fin t.length => ((List.finRange (wd t)).map fun b' => if (i, b').2.val = b then cellP t (i, b') else 0).sum) = fun i => (t.getD i.val []).getD b 0 := by
    funext i
    exact sum_if (fun b' => cellP t (i, b')) b hbw
  rw [e]
  have h2 := congrArg (List.map fun r : List Int => r.getD b 0) (finRange_get t [])
  rw [List.map_map] at h2
  exact congrArg List.sum h2
theorem if_bd {c : Prop} [Decidable c] {y : Int} (h : 0 ≤ y ∧ y ≤ 396) : 0 ≤ (if c then y else 0) ∧ (if c then y else 0) ≤ 396 := by split <;> omega
theorem rsP_bd {t : Tb} {q d : Nat} (h : ∀ x : Pc q d, 0 ≤ cellP t x ∧ cellP t x ≤ 396) (a : Nat) : ∀ pre : List (Pc q d), 0 ≤ rsP t pre a ∧ rsP t pre a ≤ 396 * pre.length
  | [] => by simp [rsP]
  | x :: pre => by
    have h1 := rsP_bd h a pre
    have h2 := if_bd (c := x.1.val = a) (h x)
    unfold rsP at h1 ⊢
    simp only [List.map_cons, List.sum_cons, List.length_cons]
    omega
theorem csP_bd {t : Tb} {q d : Nat} (h : ∀ x : Pc q d, 0 ≤ cellP t x ∧ cellP t x ≤ 396) (a : Nat) : ∀ pre : List (Pc q d), 0 ≤ csP t pre a ∧ csP t pre a ≤ 396 * pre.length
  | [] => by simp [csP]
  | x :: pre => by
    have h1 := csP_bd h a pre
    have h2 := if_bd (c := x.2.val = a) (h x)
    unfold csP at h1 ⊢
    simp only [List.map_cons, List.sum_cons, List.length_cons]
    omega
theorem icells_set (l : List Int) (i : Nat) (x : Int) : (icells l).set i (.int .i64 x) = icells (l.set i x) := by simp [icells, List.map_set]
theorem Own1.from_ {B n g c : Nat} {β : Type} (f : β → List Value) (hg : g < n) : OwnFrom n (fun (s : β) X => Own1 TN X B (.slice (some ⟨g, 0, none⟩) c c) (f s)) := fun s X Y row hs hgr hr =>
  hs.same fun k e => by
    have e2 : some g = some k := e
    injection e2 with e2
    subst e2
    exact hgr.block g (hs.ob g rfl).2 fun e => by have := (hr g e.symm).1; omega
/-- Sums of rows and of columns, handed back. -/
def OutG2 (r c : List Int) (w : World) (e : Ending) (w' : World) : Prop :=
  ∃ v u, e = .returned (.tuple #[v, u]) ∧ InI w' w.heap.size w'.heap.size v r ∧ InI w' w.heap.size w'.heap.size u c ∧ (∀ k, v.ownBlock = some k → u.ownBlock ≠ some k) ∧ Below w.heap.size w w'
end Go.Proofs.YtobgceebolmfcaaDoor
