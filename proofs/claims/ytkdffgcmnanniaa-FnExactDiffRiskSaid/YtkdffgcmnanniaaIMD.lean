/- Contracts of the program: tables and masks that are valid, flags counted. Contracts of the program: row and column sums. -/
import Derived.Test.YtkdffgcmnanniaaIM4
import Derived.Test.YtkdffgcmnanniaaTS7
import Derived.Test.YtkdffgcmnanniaaTMK
import Derived.Test.YtkdffgcmnanniaaIMC
import Derived.BigQuiet
namespace Go.Proofs.Ytkdffgcmnanniaa
open Go.RowKit Go.Shelf
theorem iTab_is (W : World) (t : Tb) (v : Value) (hv : IsR W v t) (g : Bool) (hg : tabOk t = g) (w : World) (hb : Below W.heap.size W w) :
    Calls Try.prog 24 #[v] w (Back (.bool g) W) := by
  go_enter Try.func24, Try.ntmps24
  go_wp2_with fail
  refine (iTGrid_is W t _ hv g hg _ hb).mono ?_
  rintro e w1 ⟨rfl, b1⟩
  unfold gridV
  have hz1 := b1.size
  obtain ⟨A, c, rfl, _, _, _⟩ := hv
  cases g
  · go_wp2
    go_ret
    exact ⟨rfl, b1.alloc hz1 _⟩
  · go_wp2
    go_ret
    exact ⟨rfl, b1.alloc hz1 _⟩
set_option maxHeartbeats 1000000 in
theorem iMaskMany_is (W : World) (m : Mk) (u : Value) (hu : IsM W u m) (h9 : mmany m ≤ 1000000000) (g : Int) (hg : (mmany m : Int) = g) (w : World) (hb : Below W.heap.size W w) :
    Calls Try.prog 21 #[u] w (Back (.int .i64 g) W) := by
  have HG := Lib.hid hg
  obtain ⟨B, c', rfl, b1, b2, b3⟩ := hu
  obtain ⟨n, hn⟩ : ∃ n, n = m.length := ⟨_, rfl⟩
  have HN := Lib.hid hn
  have HM := Lib.hid b3
  have HB := Lib.hid hb
  have hnm : n ≤ maxLen := by omega
  have H9 := Lib.hid h9
  rw [← hn]
  unfold maxLen at hnm
  clear b1 b2 b3 hg hn hb h9
  go_enter Try.func21, Try.ntmps21
  go_wp2
  go_loopw [3, 10] (fun v i wr => ∃ k : Nat, k ≤ n ∧ i = .int .i64 k ∧ v = .int .i64 (mmany (m.take k) : Nat) ∧ Below W.heap.size W wr) (fun _ i _ => n - (intOf i).toNat)
  case atStart => exact ⟨0, Nat.zero_le _, rfl, rfl, HB.out⟩
  case round =>
    obtain ⟨k, hk, rfl, rfl, hb⟩ := hrel
    have HB2 := Lib.hid hb
    by_cases hlt : k < n
    · have hki : (k : Int) < (n : Int) := by omega
      have hkm : k < m.length := by rw [← HN.out]; exact hlt
      have HS := Lib.hid (mmany_take m hkm)
      have hle := mmany_tle m (k + 1)
      rw [mmany_take m hkm] at hle
      have h9 := H9.out
      obtain ⟨b', o', A1, c1, hA, hb1, hc1, hl1, hm1, hr1⟩ := HM.out.at_ k hkm
      subst hA
      obtain ⟨row, hrow⟩ : ∃ row, m.getD k [] = row := ⟨_, rfl⟩
      rw [hrow] at HS hle hc1 hl1 hr1
      obtain ⟨x, hx⟩ : ∃ x, x = row.length := ⟨_, rfl⟩
      have HX := Lib.hid hx
      rw [← hx] at hc1 hl1
      have hxm : x ≤ maxLen := by omega
      unfold maxLen at hxm
      have e1 := (hb.cell (p := ⟨b', o' + k, none⟩) hb1).trans hc1
      have HR1 := Lib.hid hr1
      obtain ⟨p, hp⟩ : ∃ p, mmany (m.take k) = p := ⟨_, rfl⟩
      rw [hp] at HS hle ⊢
      clear hc1 hr1 hrow hx hp hm1 hb
      go_wp2
      go_loopw [3, 16] (fun v j wr' => ∃ y : Nat, y ≤ x ∧ j = .int .i64 y ∧ v = .int .i64 (p + cntB (row.take y) : Nat) ∧ Below W.heap.size W wr') (fun _ j _ => x - (intOf j).toNat)
      case atStart => exact ⟨0, Nat.zero_le _, rfl, by simp [cntB], HB2.out⟩
      case round =>
        obtain ⟨y, hy, rfl, rfl, hb⟩ := hrel
        have HB3 := Lib.hid hb
        have hle2 := cntB_tle row y
        by_cases hyx : y < x
        · have hyi : (y : Int) < (x : Int) := by omega
          have hyr : y < row.length := by rw [← HX.out]; exact hyx
          obtain ⟨b2, o2, hA2, hb2, hc2⟩ := HR1.out.bool_ y hyr
          subst hA2
          have e2 := (hb.cell (p := ⟨b2, o2 + y, none⟩) hb2).trans hc2
          have HS2 := Lib.hid (cntB_take row hyr)
          have hle3 := cntB_tle row (y + 1)
          obtain ⟨s, hs⟩ : ∃ s, cntB (row.take y) = s := ⟨_, rfl⟩
          obtain ⟨f, hf⟩ : ∃ f, row.getD y false = f := ⟨_, rfl⟩
          rw [hs, hf] at HS2
          rw [hf] at e2
          rw [hs] at hle2 ⊢
          clear hs hf hyr hc2 hb
          cases f
          · have HS3 := Lib.hid (show cntB (row.take (y + 1)) = s by rw [HS2.out]; rfl)
            go_wp2
            go_roundw
            case rel => exact ⟨y + 1, by omega, by go_num, by rw [HS3.out], HB3.out⟩
            case measure => simp [intOf]; omega
          · have HS3 := Lib.hid (show cntB (row.take (y + 1)) = s + 1 by rw [HS2.out]; rfl)
            go_wp2
            go_roundw
            case rel => exact ⟨y + 1, by omega, by go_num, by rw [HS3.out]; go_num, HB3.out⟩
            case measure => simp [intOf]; omega
        · have hyi : ¬ (y : Int) < (x : Int) := by omega
          have hyr : row.take y = row := List.take_of_length_le (by rw [← HX.out]; omega)
          rw [hyr, ← HS.out]
          clear hyr hb
          go_wp2
          go_roundw
          case rel => exact ⟨k + 1, by omega, by go_num, rfl, HB3.out⟩
          case measure => simp [intOf]; omega
    · have hki : ¬ (k : Int) < (n : Int) := by omega
      have hkn : m.take k = m := List.take_of_length_le (by rw [← HN.out]; omega)
      rw [hkn, HG.out]
      clear hkn hb
      go_wp2
      go_ret
      exact ⟨rfl, HB2.out⟩
end Go.Proofs.Ytkdffgcmnanniaa
namespace Go.Proofs.Ytkdffgcmnanniaa
open Go.RowKit Go.Shelf
attribute [local go_sem] Oper.semAt_some
def rsP (t : Tb) {q d : Nat} (pre : List (Pc q d)) (a : Nat) : Int := (pre.map fun x => if x.1.val = a then cellP t x else 0).sum
def csP (t : Tb) {q d : Nat} (pre : List (Pc q d)) (b : Nat) : Int := (pre.map fun x => if x.2.val = b then cellP t x else 0).sum
theorem rsP_snoc (t : Tb) {q d : Nat} (pre : List (Pc q d)) (x : Pc q d) (a : Nat) : rsP t (pre ++ [x]) a = rsP t pre a + if x.1.val = a then cellP t x else 0 := by simp [rsP]
theorem csP_snoc (t : Tb) {q d : Nat} (pre : List (Pc q d)) (x : Pc q d) (a : Nat) : csP t (pre ++ [x]) a = csP t pre a + if x.2.val = a then cellP t x else 0 := by simp [csP]
theorem rsP_step (t : Tb) {q d : Nat} (pre : List (Pc q d)) (x : Pc q d) : (vec q (rsP t pre)).set x.1.val (rsP t pre x.1.val + cellP t x) = vec q (rsP t (pre ++ [x])) := by
  rw [vec_set]
  refine vec_ext fun a _ => ?_
  rw [rsP_snoc]
  by_cases h : a = x.1.val
  · rw [if_pos h, if_pos h.symm, h]
  · rw [if_neg h, if_neg fun e => h e.symm]; omega
theorem csP_step (t : Tb) {q d : Nat} (pre : List (Pc q d)) (x : Pc q d) : (vec d (csP t pre)).set x.2.val (csP t pre x.2.val + cellP t x) = vec d (csP t (pre ++ [x])) := by
  rw [vec_set]
  refine vec_ext fun a _ => ?_
  rw [csP_snoc]
  by_cases h : a = x.2.val
  · rw [if_pos h, if_pos h.symm, h]
  · rw [if_neg h, if_neg fun e => h e.symm]; omega
theorem sum_if : ∀ {n : Nat} (f : Fin n → Int) (a : Nat) (ha : a < n), ((List.finRange n).map fun i => if i.val = a then f i else 0).sum = f ⟨a, ha⟩
  | 0, _, _, ha => by omega
  | n + 1, f, 0, _ => by
    rw [List.finRange_succ, List.map_cons, List.sum_cons, List.map_map]
    have e : ((fun i : Fin (n + 1) => if i.val = 0 then f i else 0) ∘ Fin.succ) = fun _ => 0 := by funext i; simp; intro h; exact absurd h (Fin.succ_ne_zero i)
    rw [e, List.map_const']
    simp
  | n + 1, f, a + 1, ha => by
    rw [List.finRange_succ, List.map_cons, List.sum_cons, List.map_map]
    have e : ((fun i : Fin (n + 1) => if i.val = a + 1 then f i else 0) ∘ Fin.succ) = fun i => if i.val = a then f i.succ else 0 := by funext i; simp
    rw [e, sum_if (fun i => f i.succ) a (by omega)]
    simp
theorem sum_fin0 {n : Nat} : ((List.finRange n).map fun _ => (0 : Int)).sum = 0 := by rw [List.map_const']; simp
theorem rsP_all {t : Tb} (h : ∀ i, i < t.length → (t.getD i []).length = wd t) : vec t.length (rsP t (plc t.length (wd t))) = rsum t := by
  refine List.ext_getElem (by rw [vec_len, rsum_len]) fun a h1 _ => ?_
  rw [vec_len] at h1
  simp only [vec, List.getElem_map, List.getElem_range, rsum, rsP]
  rw [plc_sum]
  have e : (fun i : Fin t.length => ((List.finRange (wd t)).map fun b => if (i, b).1.val = a then cellP t (i, b) else 0).sum) = fun i => if i.val = a then (t.getD i.val []).sum else 0 := by
    funext i
    by_cases hi : i.val = a
    · rw [if_pos hi]
      have h2 := finRange_get (t.getD i.val []) 0
      rw [h i.val i.isLt] at h2
      simp only [hi, if_true]
      rw [← hi]
      exact congrArg List.sum h2
    · rw [if_neg hi]
      simp only [hi, if_false]
      exact sum_fin0
  rw [e, sum_if _ a h1, getD_of _ _ h1]
theorem csP_all {t : Tb} : vec (wd t) (csP t (plc t.length (wd t))) = csum t := by
  unfold vec csum
  refine List.map_congr_left fun b hb => ?_
  have hbw := List.mem_range.1 hb
  simp only [csP]
  rw [plc_sum]
  have e : (fun i : Fin t.length => ((List.finRange (wd t)).map fun b' => if (i, b').2.val = b then cellP t (i, b') else 0).sum) = fun i => (t.getD i.val []).getD b 0 := by
    funext i
    exact sum_if (fun b' => cellP t (i, b')) b hbw
  rw [e]
  have h2 := congrArg (List.map fun r : List Int => r.getD b 0) (finRange_get t [])
  rw [List.map_map] at h2
  exact congrArg List.sum h2
theorem if_bd {c : Prop} [Decidable c] {y : Int} (h : 0 ≤ y ∧ y ≤ 396) : 0 ≤ (if c then y else 0) ∧ (if c then y else 0) ≤ 396 := by split <;> omega
theorem rsP_bd {t : Tb} {q d : Nat} (h : ∀ x : Pc q d, 0 ≤ cellP t x ∧ cellP t x ≤ 396) (a : Nat) : ∀ pre : List (Pc q d), 0 ≤ rsP t pre a ∧ rsP t pre a ≤ 396 * pre.length
  | [] => by simp [rsP]
  | x :: pre => by
    have h1 := rsP_bd h a pre
    have h2 := if_bd (c := x.1.val = a) (h x)
    unfold rsP at h1 ⊢
    simp only [List.map_cons, List.sum_cons, List.length_cons]
    omega
theorem csP_bd {t : Tb} {q d : Nat} (h : ∀ x : Pc q d, 0 ≤ cellP t x ∧ cellP t x ≤ 396) (a : Nat) : ∀ pre : List (Pc q d), 0 ≤ csP t pre a ∧ csP t pre a ≤ 396 * pre.length
  | [] => by simp [csP]
  | x :: pre => by
    have h1 := csP_bd h a pre
    have h2 := if_bd (c := x.2.val = a) (h x)
    unfold csP at h1 ⊢
    simp only [List.map_cons, List.sum_cons, List.length_cons]
    omega
theorem icells_set (l : List Int) (i : Nat) (x : Int) : (icells l).set i (.int .i64 x) = icells (l.set i x) := by simp [icells, List.map_set]
theorem Own1.from_ {B n g c : Nat} {β : Type} (f : β → List Value) (hg : g < n) : OwnFrom n (fun (s : β) X => Own1 TN X B (.slice (some ⟨g, 0, none⟩) c c) (f s)) := fun s X Y row hs hgr hr =>
  hs.same fun k e => by
    have e2 : some g = some k := e
    injection e2 with e2
    subst e2
    exact hgr.block g (hs.ob g rfl).2 fun e => by have := (hr g e.symm).1; omega
/-- Sums of rows and of columns, handed back. -/
def OutG2 (r c : List Int) (w : World) (e : Ending) (w' : World) : Prop :=
  ∃ v u, e = .returned (.tuple #[v, u]) ∧ InI w' w.heap.size w'.heap.size v r ∧ InI w' w.heap.size w'.heap.size u c ∧ (∀ k, v.ownBlock = some k → u.ownBlock ≠ some k) ∧ Below w.heap.size w w'
set_option maxRecDepth 100000 in
set_option maxHeartbeats 4000000 in
theorem iGSums_is (w : World) (t : Tb) (q d : Nat) (v : Value) (hv : IsR w v t) (hq : q = t.length) (hd : d = wd t) (hrt : rect t = true) (hc : ∀ x : Pc t.length (wd t), 0 ≤ cellP t x ∧ cellP t x ≤ 396) :
    Calls Try.prog 47 #[grV q d v] w (OutG2 (rsum t) (csum t) w) := by
  have HQ := Lib.hid hq
  have HD := Lib.hid hd
  have HRT := Lib.hid hrt
  have HCC := Lib.hid hc
  obtain ⟨A, c, rfl, a1, a2, _⟩ := id hv
  rw [← hq] at hv ⊢
  have HV := Lib.hid hv
  have HR := Lib.hid hv.head.2.2.2
  clear hv a1 a2 hq hd hrt hc
  have hp := rect_parts HRT.out
  rw [← HQ.out, ← HD.out] at hp
  obtain ⟨b, o, _, _, rfl, _, _, _, _, _⟩ := HR.out.at_ 0 (by rw [← HQ.out]; omega)
  obtain ⟨wa, hwa, ba, hza, ka⟩ := one_blk w #[.int .i64 q, .int .i64 d, .slice (some ⟨b, o, none⟩) q c] TGI
  have HWa := Lib.hid hwa.symm
  have HBa := Lib.hid ba
  clear hwa
  refine (callsIn_wide (n := 6)).1 ?_
  refine callsIn_of_wp_marks Try.func47 rfl trivial ?_ rfl
  simp only [Try.ntmps47, List.size_toArray, List.length_cons, List.length_nil, Nat.reduceAdd, Nat.reduceSub, Array.replicate_succ, Array.replicate_zero, List.push_toArray, List.append_toArray, List.nil_append, List.cons_append]
  gi_wp2_with fail
  rw [HWa.out]
  have HKA := Lib.hid (show ∀ X, Below wa.heap.size wa X → X.heap[w.heap.size]? = some (.cells #[.int .i64 q, .int .i64 d, .slice (some ⟨b, o, none⟩) q c] TGI (0, 0)) from fun X h => (h.block _ (by omega)).trans ka)
  have hwa1 : w.heap.size < wa.heap.size := by omega
  clear hza
  have hmx : Try.prog.follows .mixedOrders = true := by kernel_rfl
  have st0 := St.start wa q d (.slice none 0 0)
  refine region_held_wide (β := Nat × Nat × Nat × Nat) (F := fun x y => Fin2 wa q d x y) (A := fun x => { tmps := #[grV q d (.slice (some ⟨b, o, none⟩) q c), .pointer (some ⟨w.heap.size, 0, none⟩), .slice none 0 0, .slice none 0 0, .pointer (some ⟨x.2.2.1, 0, none⟩), .pointer (some ⟨x.2.2.2, 0, none⟩), undef, undef, .pointer (some ⟨w.heap.size, 0, none⟩), .pointer (some ⟨w.heap.size, 0, none⟩), .int .i64 q, rowV x.1 q, .pointer (some ⟨w.heap.size, 0, none⟩), .pointer (some ⟨w.heap.size, 1, none⟩), .int .i64 d, rowV x.2.1 d, undef, undef, undef, undef, undef, undef, undef, undef, undef, undef, undef, undef, undef, undef, undef, undef, undef, undef, undef, undef, undef, undef, undef, undef, undef, undef, undef, undef, undef, undef, undef, undef, undef, undef, undef], defers := [] })
    (S := fun y => Below wa.heap.size wa y) hmx ?main ?tree
  case tree =>
    have hS0 : (fun y : World => Below wa.heap.size wa y) wa.drew := (Below.refl _ _).drew
    obtain ⟨Y0, hY0⟩ : ∃ y, y = wa.drew := ⟨_, rfl⟩
    rw [← hY0] at hS0 st0 ⊢
    clear hY0
    refine wpAnyH_take (i := 0) (v := .pointer (some ⟨w.heap.size, 0, none⟩)) rfl (by kernel_rfl) (by kernel_rfl) (by kernel_rfl) (fun _ _ _ h => by cases h.1) (Or.inl ⟨by rfl, ?_⟩) hS0 ?_
    · (intro y hy; obtain ⟨y0, y1, _, _, _, _⟩ := blkG3 (HKA.out y hy); go_simp)
    (try simp only [Act.put])
    (try simp only [List.getElem_toArray])
    (try simp only [List.getElem_cons_succ])
    (try simp only [List.getElem_cons_zero])
    (try simp only [List.setIfInBounds_toArray])
    (try simp only [List.set_cons_succ])
    (try simp only [List.set_cons_zero])
    refine wpAnyH_take (i := 1) (v := .pointer (some ⟨w.heap.size, 0, none⟩)) rfl (by kernel_rfl) (by kernel_rfl) (by kernel_rfl) (fun _ _ _ h => by cases h.1) (Or.inl ⟨by rfl, ?_⟩) hS0 ?_
    · (intro y hy; obtain ⟨y0, y1, _, _, _, _⟩ := blkG3 (HKA.out y hy); go_simp)
    (try simp only [Act.put])
    (try simp only [List.getElem_toArray])
    (try simp only [List.getElem_cons_succ])
    (try simp only [List.getElem_cons_zero])
    (try simp only [List.setIfInBounds_toArray])
    (try simp only [List.set_cons_succ])
    (try simp only [List.set_cons_zero])
    refine wpAnyH_take (i := 2) (v := .int .i64 q) rfl (by kernel_rfl) (by kernel_rfl) (by kernel_rfl) (fun _ _ _ h => by cases h.1) (Or.inl ⟨by rfl, ?_⟩) hS0 ?_
    · (intro y hy; obtain ⟨y0, y1, _, _, _, _⟩ := blkG3 (HKA.out y hy); go_simp)
    (try simp only [Act.put])
    (try simp only [List.getElem_toArray])
    (try simp only [List.getElem_cons_succ])
    (try simp only [List.getElem_cons_zero])
    (try simp only [List.setIfInBounds_toArray])
    (try simp only [List.set_cons_succ])
    (try simp only [List.set_cons_zero])
    refine wpAnyH_take (i := 4) (v := .pointer (some ⟨w.heap.size, 0, none⟩)) rfl (by kernel_rfl) (by kernel_rfl) (by kernel_rfl) (fun _ _ _ h => by cases h.1) (Or.inl ⟨by rfl, ?_⟩) hS0 ?_
    · (intro y hy; obtain ⟨y0, y1, _, _, _, _⟩ := blkG3 (HKA.out y hy); go_simp)
    (try simp only [Act.put])
    (try simp only [List.getElem_toArray])
    (try simp only [List.getElem_cons_succ])
    (try simp only [List.getElem_cons_zero])
    (try simp only [List.setIfInBounds_toArray])
    (try simp only [List.set_cons_succ])
    (try simp only [List.set_cons_zero])
    refine wpAnyH_take (i := 5) (v := .pointer (some ⟨w.heap.size, 1, none⟩)) rfl (by kernel_rfl) (by kernel_rfl) (by kernel_rfl) (fun _ _ _ h => by cases h.1) (Or.inl ⟨by rfl, ?_⟩) hS0 ?_
    · (intro y hy; obtain ⟨y0, y1, _, _, _, _⟩ := blkG3 (HKA.out y hy); go_simp)
    (try simp only [Act.put])
    (try simp only [List.getElem_toArray])
    (try simp only [List.getElem_cons_succ])
    (try simp only [List.getElem_cons_zero])
    (try simp only [List.setIfInBounds_toArray])
    (try simp only [List.set_cons_succ])
    (try simp only [List.set_cons_zero])
    refine wpAnyH_take (i := 6) (v := .int .i64 d) rfl (by kernel_rfl) (by kernel_rfl) (by kernel_rfl) (fun _ _ _ h => by cases h.1) (Or.inl ⟨by rfl, ?_⟩) hS0 ?_
    · (intro y hy; obtain ⟨y0, y1, _, _, _, _⟩ := blkG3 (HKA.out y hy); go_simp)
    (try simp only [Act.put])
    (try simp only [List.getElem_toArray])
    (try simp only [List.getElem_cons_succ])
    (try simp only [List.getElem_cons_zero])
    (try simp only [List.setIfInBounds_toArray])
    (try simp only [List.set_cons_succ])
    (try simp only [List.set_cons_zero])
    refine wpAnyH_all (rs := [3, 7, 8, 9]) (by kernel_rfl) (by simp) (fun i hi => ?_)
    simp only [List.mem_cons, List.not_mem_nil, or_false] at hi
    rcases hi with rfl | rfl | rfl | rfl
    · unfold wpOp
      simp only [List.getElem?_toArray, List.getElem?_cons_succ, List.getElem?_cons_zero]
      rw [if_pos (by rfl)]
      left
      refine wp_mkrow _ rfl q (by omega) rfl fun y1 hb1 ho1 => ?_
      have st1 := st0.make1 hb1 ho1
      refine ⟨st1.below, ?_⟩
      (try simp only [Act.put])
      (try simp only [List.getElem_toArray])
      (try simp only [List.getElem_cons_succ])
      (try simp only [List.getElem_cons_zero])
      (try simp only [List.setIfInBounds_toArray])
      (try simp only [List.set_cons_succ])
      (try simp only [List.set_cons_zero])
      refine wpAnyH_all (rs := [7, 8, 9]) (by kernel_rfl) (by simp) (fun i hi => ?_)
      simp only [List.mem_cons, List.not_mem_nil, or_false] at hi
      rcases hi with rfl | rfl | rfl
      · unfold wpOp
        simp only [List.getElem?_toArray, List.getElem?_cons_succ, List.getElem?_cons_zero]
        rw [if_pos (by rfl)]
        left
        refine wp_mkrow _ rfl d (by omega) rfl fun y2 hb2 ho2 => ?_
        have st2 := st1.make2 hb2 ho2
        refine ⟨st2.below, ?_⟩
        (try simp only [Act.put])
        (try simp only [List.getElem_toArray])
        (try simp only [List.getElem_cons_succ])
        (try simp only [List.getElem_cons_zero])
        (try simp only [List.setIfInBounds_toArray])
        (try simp only [List.set_cons_succ])
        (try simp only [List.set_cons_zero])
        refine wpAnyH_all (rs := [8, 9]) (by kernel_rfl) (by simp) (fun i hi => ?_)
        simp only [List.mem_cons, List.not_mem_nil, or_false] at hi
        rcases hi with rfl | rfl
        · unfold wpOp
          simp only [List.getElem?_toArray, List.getElem?_cons_succ, List.getElem?_cons_zero]
          rw [if_pos (by rfl)]
          left
          unfold Oper.wp
          go_simp
          have st3 := st2.alloc1
          refine ⟨st3.below, ?_⟩
          obtain ⟨y3, hy3⟩ : ∃ y, y = y2.alloc (.cells #[.slice none 0 0] TI) := ⟨_, rfl⟩
          rw [← hy3] at st3 ⊢
          clear hy3
          refine wpAnyH_all (rs := [9]) (by kernel_rfl) (by simp) (fun i hi => ?_)
          simp only [List.mem_cons, List.not_mem_nil, or_false] at hi
          subst hi
          unfold wpOp
          simp only [List.getElem?_toArray, List.getElem?_cons_succ, List.getElem?_cons_zero]
          rw [if_pos (by rfl)]
          left
          unfold Oper.wp
          go_simp
          have st4 := st3.alloc2
          refine ⟨st4.below, ?_⟩
          obtain ⟨y4, hy4⟩ : ∃ y, y = y3.alloc (.cells #[.slice none 0 0] TI) := ⟨_, rfl⟩
          rw [← hy4] at st4 ⊢
          clear hy4
          refine wpAnyH_all (rs := [10]) (by kernel_rfl) (by simp) (fun i hi => ?_)
          simp only [List.mem_cons, List.not_mem_nil, or_false] at hi
          subst hi
          unfold wpOp
          simp only [List.getElem?_toArray, List.getElem?_cons_succ, List.getElem?_cons_zero]
          rw [if_pos (by rfl)]
          left
          have c5 := (st4.g1 _ rfl).cell
          have f5 := (st4.g1 _ rfl).frozen
          unfold Oper.wp
          go_simp
          have st5 := st4.store1
          refine ⟨st5.below, ?_⟩
          clear c5 f5
          obtain ⟨y5, hy5⟩ : ∃ y, y = y4.setCell ⟨y2.heap.size, 0, none⟩ (rowV (Y0.heap.size) q) := ⟨_, rfl⟩
          rw [← hy5] at st5 ⊢
          clear hy5
          refine wpAnyH_all (rs := [11]) (by kernel_rfl) (by simp) (fun i hi => ?_)
          simp only [List.mem_cons, List.not_mem_nil, or_false] at hi
          subst hi
          unfold wpOp
          simp only [List.getElem?_toArray, List.getElem?_cons_succ, List.getElem?_cons_zero]
          rw [if_pos (by rfl)]
          left
          have c6 := (st5.g2 _ rfl).cell
          have f6 := (st5.g2 _ rfl).frozen
          unfold Oper.wp
          go_simp
          have st6 := st5.store2
          refine ⟨st6.1, ?_⟩
          clear c6 f6
          obtain ⟨y6, hy6⟩ : ∃ y, y = y5.setCell ⟨y3.heap.size, 0, none⟩ (rowV (y1.heap.size) d) := ⟨_, rfl⟩
          rw [← hy6] at st6 ⊢
          clear hy6
          exact wpAnyH_done (by kernel_rfl) ⟨rfl, Y0.heap.size, y1.heap.size, y2.heap.size, y3.heap.size, st6, rfl⟩ _
        · unfold wpOp
          simp only [List.getElem?_toArray, List.getElem?_cons_succ, List.getElem?_cons_zero]
          rw [if_pos (by rfl)]
          left
          unfold Oper.wp
          go_simp
          have st7 := st2.alloc2
          refine ⟨st7.below, ?_⟩
          obtain ⟨y7, hy7⟩ : ∃ y, y = y2.alloc (.cells #[.slice none 0 0] TI) := ⟨_, rfl⟩
          rw [← hy7] at st7 ⊢
          clear hy7
          refine wpAnyH_all (rs := [8]) (by kernel_rfl) (by simp) (fun i hi => ?_)
          simp only [List.mem_cons, List.not_mem_nil, or_false] at hi
          subst hi
          unfold wpOp
          simp only [List.getElem?_toArray, List.getElem?_cons_succ, List.getElem?_cons_zero]
          rw [if_pos (by rfl)]
          left
          unfold Oper.wp
          go_simp
          have st8 := st7.alloc1
          refine ⟨st8.below, ?_⟩
          obtain ⟨y8, hy8⟩ : ∃ y, y = y7.alloc (.cells #[.slice none 0 0] TI) := ⟨_, rfl⟩
          rw [← hy8] at st8 ⊢
          clear hy8
          refine wpAnyH_all (rs := [10]) (by kernel_rfl) (by simp) (fun i hi => ?_)
          simp only [List.mem_cons, List.not_mem_nil, or_false] at hi
          subst hi
          unfold wpOp
          simp only [List.getElem?_toArray, List.getElem?_cons_succ, List.getElem?_cons_zero]
          rw [if_pos (by rfl)]
          left
          have c9 := (st8.g1 _ rfl).cell
          have f9 := (st8.g1 _ rfl).frozen
          unfold Oper.wp
          go_simp
          have st9 := st8.store1
          refine ⟨st9.below, ?_⟩
          clear c9 f9
          obtain ⟨y9, hy9⟩ : ∃ y, y = y8.setCell ⟨y7.heap.size, 0, none⟩ (rowV (Y0.heap.size) q) := ⟨_, rfl⟩
          rw [← hy9] at st9 ⊢
          clear hy9
          refine wpAnyH_all (rs := [11]) (by kernel_rfl) (by simp) (fun i hi => ?_)
          simp only [List.mem_cons, List.not_mem_nil, or_false] at hi
          subst hi
          unfold wpOp
          simp only [List.getElem?_toArray, List.getElem?_cons_succ, List.getElem?_cons_zero]
          rw [if_pos (by rfl)]
          left
          have c10 := (st9.g2 _ rfl).cell
          have f10 := (st9.g2 _ rfl).frozen
          unfold Oper.wp
          go_simp
          have st10 := st9.store2
          refine ⟨st10.1, ?_⟩
          clear c10 f10
          obtain ⟨y10, hy10⟩ : ∃ y, y = y9.setCell ⟨y2.heap.size, 0, none⟩ (rowV (y1.heap.size) d) := ⟨_, rfl⟩
          rw [← hy10] at st10 ⊢
          clear hy10
          exact wpAnyH_done (by kernel_rfl) ⟨rfl, Y0.heap.size, y1.heap.size, y7.heap.size, y2.heap.size, st10, rfl⟩ _
      · unfold wpOp
        simp only [List.getElem?_toArray, List.getElem?_cons_succ, List.getElem?_cons_zero]
        rw [if_pos (by rfl)]
        left
        unfold Oper.wp
        go_simp
        have st11 := st1.alloc1
        refine ⟨st11.below, ?_⟩
        obtain ⟨y11, hy11⟩ : ∃ y, y = y1.alloc (.cells #[.slice none 0 0] TI) := ⟨_, rfl⟩
        rw [← hy11] at st11 ⊢
        clear hy11
        refine wpAnyH_all (rs := [7, 9]) (by kernel_rfl) (by simp) (fun i hi => ?_)
        simp only [List.mem_cons, List.not_mem_nil, or_false] at hi
        rcases hi with rfl | rfl
        · unfold wpOp
          simp only [List.getElem?_toArray, List.getElem?_cons_succ, List.getElem?_cons_zero]
          rw [if_pos (by rfl)]
          left
          refine wp_mkrow _ rfl d (by omega) rfl fun y12 hb12 ho12 => ?_
          have st12 := st11.make2 hb12 ho12
          refine ⟨st12.below, ?_⟩
          (try simp only [Act.put])
          (try simp only [List.getElem_toArray])
          (try simp only [List.getElem_cons_succ])
          (try simp only [List.getElem_cons_zero])
          (try simp only [List.setIfInBounds_toArray])
          (try simp only [List.set_cons_succ])
          (try simp only [List.set_cons_zero])
          refine wpAnyH_all (rs := [9]) (by kernel_rfl) (by simp) (fun i hi => ?_)
          simp only [List.mem_cons, List.not_mem_nil, or_false] at hi
          subst hi
          unfold wpOp
          simp only [List.getElem?_toArray, List.getElem?_cons_succ, List.getElem?_cons_zero]
          rw [if_pos (by rfl)]
          left
          unfold Oper.wp
          go_simp
          have st13 := st12.alloc2
          refine ⟨st13.below, ?_⟩
          obtain ⟨y13, hy13⟩ : ∃ y, y = y12.alloc (.cells #[.slice none 0 0] TI) := ⟨_, rfl⟩
          rw [← hy13] at st13 ⊢
          clear hy13
          refine wpAnyH_all (rs := [10]) (by kernel_rfl) (by simp) (fun i hi => ?_)
          simp only [List.mem_cons, List.not_mem_nil, or_false] at hi
          subst hi
          unfold wpOp
          simp only [List.getElem?_toArray, List.getElem?_cons_succ, List.getElem?_cons_zero]
          rw [if_pos (by rfl)]
          left
          have c14 := (st13.g1 _ rfl).cell
          have f14 := (st13.g1 _ rfl).frozen
          unfold Oper.wp
          go_simp
          have st14 := st13.store1
          refine ⟨st14.below, ?_⟩
          clear c14 f14
          obtain ⟨y14, hy14⟩ : ∃ y, y = y13.setCell ⟨y1.heap.size, 0, none⟩ (rowV (Y0.heap.size) q) := ⟨_, rfl⟩
          rw [← hy14] at st14 ⊢
          clear hy14
          refine wpAnyH_all (rs := [11]) (by kernel_rfl) (by simp) (fun i hi => ?_)
          simp only [List.mem_cons, List.not_mem_nil, or_false] at hi
          subst hi
          unfold wpOp
          simp only [List.getElem?_toArray, List.getElem?_cons_succ, List.getElem?_cons_zero]
          rw [if_pos (by rfl)]
          left
          have c15 := (st14.g2 _ rfl).cell
          have f15 := (st14.g2 _ rfl).frozen
          unfold Oper.wp
          go_simp
          have st15 := st14.store2
          refine ⟨st15.1, ?_⟩
          clear c15 f15
          obtain ⟨y15, hy15⟩ : ∃ y, y = y14.setCell ⟨y12.heap.size, 0, none⟩ (rowV (y11.heap.size) d) := ⟨_, rfl⟩
          rw [← hy15] at st15 ⊢
          clear hy15
          exact wpAnyH_done (by kernel_rfl) ⟨rfl, Y0.heap.size, y11.heap.size, y1.heap.size, y12.heap.size, st15, rfl⟩ _
        · unfold wpOp
          simp only [List.getElem?_toArray, List.getElem?_cons_succ, List.getElem?_cons_zero]
          rw [if_pos (by rfl)]
          left
          unfold Oper.wp
          go_simp
          have st16 := st11.alloc2
          refine ⟨st16.below, ?_⟩
          obtain ⟨y16, hy16⟩ : ∃ y, y = y11.alloc (.cells #[.slice none 0 0] TI) := ⟨_, rfl⟩
          rw [← hy16] at st16 ⊢
          clear hy16
          refine wpAnyH_all (rs := [7, 10]) (by kernel_rfl) (by simp) (fun i hi => ?_)
          simp only [List.mem_cons, List.not_mem_nil, or_false] at hi
          rcases hi with rfl | rfl
          · unfold wpOp
            simp only [List.getElem?_toArray, List.getElem?_cons_succ, List.getElem?_cons_zero]
            rw [if_pos (by rfl)]
            left
            refine wp_mkrow _ rfl d (by omega) rfl fun y17 hb17 ho17 => ?_
            have st17 := st16.make2 hb17 ho17
            refine ⟨st17.below, ?_⟩
            (try simp only [Act.put])
            (try simp only [List.getElem_toArray])
            (try simp only [List.getElem_cons_succ])
            (try simp only [List.getElem_cons_zero])
            (try simp only [List.setIfInBounds_toArray])
            (try simp only [List.set_cons_succ])
            (try simp only [List.set_cons_zero])
            refine wpAnyH_all (rs := [10]) (by kernel_rfl) (by simp) (fun i hi => ?_)
            simp only [List.mem_cons, List.not_mem_nil, or_false] at hi
            subst hi
            unfold wpOp
            simp only [List.getElem?_toArray, List.getElem?_cons_succ, List.getElem?_cons_zero]
            rw [if_pos (by rfl)]
            left
            have c18 := (st17.g1 _ rfl).cell
            have f18 := (st17.g1 _ rfl).frozen
            unfold Oper.wp
            go_simp
            have st18 := st17.store1
            refine ⟨st18.below, ?_⟩
            clear c18 f18
            obtain ⟨y18, hy18⟩ : ∃ y, y = y17.setCell ⟨y1.heap.size, 0, none⟩ (rowV (Y0.heap.size) q) := ⟨_, rfl⟩
            rw [← hy18] at st18 ⊢
            clear hy18
            refine wpAnyH_all (rs := [11]) (by kernel_rfl) (by simp) (fun i hi => ?_)
            simp only [List.mem_cons, List.not_mem_nil, or_false] at hi
            subst hi
            unfold wpOp
            simp only [List.getElem?_toArray, List.getElem?_cons_succ, List.getElem?_cons_zero]
            rw [if_pos (by rfl)]
            left
            have c19 := (st18.g2 _ rfl).cell
            have f19 := (st18.g2 _ rfl).frozen
            unfold Oper.wp
            go_simp
            have st19 := st18.store2
            refine ⟨st19.1, ?_⟩
            clear c19 f19
            obtain ⟨y19, hy19⟩ : ∃ y, y = y18.setCell ⟨y11.heap.size, 0, none⟩ (rowV (y16.heap.size) d) := ⟨_, rfl⟩
            rw [← hy19] at st19 ⊢
            clear hy19
            exact wpAnyH_done (by kernel_rfl) ⟨rfl, Y0.heap.size, y16.heap.size, y1.heap.size, y11.heap.size, st19, rfl⟩ _
          · unfold wpOp
            simp only [List.getElem?_toArray, List.getElem?_cons_succ, List.getElem?_cons_zero]
            rw [if_pos (by rfl)]
            left
            have c20 := (st16.g1 _ rfl).cell
            have f20 := (st16.g1 _ rfl).frozen
            unfold Oper.wp
            go_simp
            have st20 := st16.store1
            refine ⟨st20.below, ?_⟩
            clear c20 f20
            obtain ⟨y20, hy20⟩ : ∃ y, y = y16.setCell ⟨y1.heap.size, 0, none⟩ (rowV (Y0.heap.size) q) := ⟨_, rfl⟩
            rw [← hy20] at st20 ⊢
            clear hy20
            refine wpAnyH_all (rs := [7]) (by kernel_rfl) (by simp) (fun i hi => ?_)
            simp only [List.mem_cons, List.not_mem_nil, or_false] at hi
            subst hi
            unfold wpOp
            simp only [List.getElem?_toArray, List.getElem?_cons_succ, List.getElem?_cons_zero]
            rw [if_pos (by rfl)]
            left
            refine wp_mkrow _ rfl d (by omega) rfl fun y21 hb21 ho21 => ?_
            have st21 := st20.make2 hb21 ho21
            refine ⟨st21.below, ?_⟩
            (try simp only [Act.put])
            (try simp only [List.getElem_toArray])
            (try simp only [List.getElem_cons_succ])
            (try simp only [List.getElem_cons_zero])
            (try simp only [List.setIfInBounds_toArray])
            (try simp only [List.set_cons_succ])
            (try simp only [List.set_cons_zero])
            refine wpAnyH_all (rs := [11]) (by kernel_rfl) (by simp) (fun i hi => ?_)
            simp only [List.mem_cons, List.not_mem_nil, or_false] at hi
            subst hi
            unfold wpOp
            simp only [List.getElem?_toArray, List.getElem?_cons_succ, List.getElem?_cons_zero]
            rw [if_pos (by rfl)]
            left
            have c22 := (st21.g2 _ rfl).cell
            have f22 := (st21.g2 _ rfl).frozen
            unfold Oper.wp
            go_simp
            have st22 := st21.store2
            refine ⟨st22.1, ?_⟩
            clear c22 f22
            obtain ⟨y22, hy22⟩ : ∃ y, y = y21.setCell ⟨y11.heap.size, 0, none⟩ (rowV (y20.heap.size) d) := ⟨_, rfl⟩
            rw [← hy22] at st22 ⊢
            clear hy22
            exact wpAnyH_done (by kernel_rfl) ⟨rfl, Y0.heap.size, y20.heap.size, y1.heap.size, y11.heap.size, st22, rfl⟩ _
      · unfold wpOp
        simp only [List.getElem?_toArray, List.getElem?_cons_succ, List.getElem?_cons_zero]
        rw [if_pos (by rfl)]
        left
        unfold Oper.wp
        go_simp
        have st23 := st1.alloc2
        refine ⟨st23.below, ?_⟩
        obtain ⟨y23, hy23⟩ : ∃ y, y = y1.alloc (.cells #[.slice none 0 0] TI) := ⟨_, rfl⟩
        rw [← hy23] at st23 ⊢
        clear hy23
        refine wpAnyH_all (rs := [7, 8]) (by kernel_rfl) (by simp) (fun i hi => ?_)
        simp only [List.mem_cons, List.not_mem_nil, or_false] at hi
        rcases hi with rfl | rfl
        · unfold wpOp
          simp only [List.getElem?_toArray, List.getElem?_cons_succ, List.getElem?_cons_zero]
          rw [if_pos (by rfl)]
          left
          refine wp_mkrow _ rfl d (by omega) rfl fun y24 hb24 ho24 => ?_
          have st24 := st23.make2 hb24 ho24
          refine ⟨st24.below, ?_⟩
          (try simp only [Act.put])
          (try simp only [List.getElem_toArray])
          (try simp only [List.getElem_cons_succ])
          (try simp only [List.getElem_cons_zero])
          (try simp only [List.setIfInBounds_toArray])
          (try simp only [List.set_cons_succ])
          (try simp only [List.set_cons_zero])
          refine wpAnyH_all (rs := [8]) (by kernel_rfl) (by simp) (fun i hi => ?_)
          simp only [List.mem_cons, List.not_mem_nil, or_false] at hi
          subst hi
          unfold wpOp
          simp only [List.getElem?_toArray, List.getElem?_cons_succ, List.getElem?_cons_zero]
          rw [if_pos (by rfl)]
          left
          unfold Oper.wp
          go_simp
          have st25 := st24.alloc1
          refine ⟨st25.below, ?_⟩
          obtain ⟨y25, hy25⟩ : ∃ y, y = y24.alloc (.cells #[.slice none 0 0] TI) := ⟨_, rfl⟩
          rw [← hy25] at st25 ⊢
          clear hy25
          refine wpAnyH_all (rs := [10]) (by kernel_rfl) (by simp) (fun i hi => ?_)
          simp only [List.mem_cons, List.not_mem_nil, or_false] at hi
          subst hi
          unfold wpOp
          simp only [List.getElem?_toArray, List.getElem?_cons_succ, List.getElem?_cons_zero]
          rw [if_pos (by rfl)]
          left
          have c26 := (st25.g1 _ rfl).cell
          have f26 := (st25.g1 _ rfl).frozen
          unfold Oper.wp
          go_simp
          have st26 := st25.store1
          refine ⟨st26.below, ?_⟩
          clear c26 f26
          obtain ⟨y26, hy26⟩ : ∃ y, y = y25.setCell ⟨y24.heap.size, 0, none⟩ (rowV (Y0.heap.size) q) := ⟨_, rfl⟩
          rw [← hy26] at st26 ⊢
          clear hy26
          refine wpAnyH_all (rs := [11]) (by kernel_rfl) (by simp) (fun i hi => ?_)
          simp only [List.mem_cons, List.not_mem_nil, or_false] at hi
          subst hi
          unfold wpOp
          simp only [List.getElem?_toArray, List.getElem?_cons_succ, List.getElem?_cons_zero]
          rw [if_pos (by rfl)]
          left
          have c27 := (st26.g2 _ rfl).cell
          have f27 := (st26.g2 _ rfl).frozen
          unfold Oper.wp
          go_simp
          have st27 := st26.store2
          refine ⟨st27.1, ?_⟩
          clear c27 f27
          obtain ⟨y27, hy27⟩ : ∃ y, y = y26.setCell ⟨y1.heap.size, 0, none⟩ (rowV (y23.heap.size) d) := ⟨_, rfl⟩
          rw [← hy27] at st27 ⊢
          clear hy27
          exact wpAnyH_done (by kernel_rfl) ⟨rfl, Y0.heap.size, y23.heap.size, y24.heap.size, y1.heap.size, st27, rfl⟩ _
        · unfold wpOp
          simp only [List.getElem?_toArray, List.getElem?_cons_succ, List.getElem?_cons_zero]
          rw [if_pos (by rfl)]
          left
          unfold Oper.wp
          go_simp
          have st28 := st23.alloc1
          refine ⟨st28.below, ?_⟩
          obtain ⟨y28, hy28⟩ : ∃ y, y = y23.alloc (.cells #[.slice none 0 0] TI) := ⟨_, rfl⟩
          rw [← hy28] at st28 ⊢
          clear hy28
          refine wpAnyH_all (rs := [7, 10]) (by kernel_rfl) (by simp) (fun i hi => ?_)
          simp only [List.mem_cons, List.not_mem_nil, or_false] at hi
          rcases hi with rfl | rfl
          · unfold wpOp
            simp only [List.getElem?_toArray, List.getElem?_cons_succ, List.getElem?_cons_zero]
            rw [if_pos (by rfl)]
            left
            refine wp_mkrow _ rfl d (by omega) rfl fun y29 hb29 ho29 => ?_
            have st29 := st28.make2 hb29 ho29
            refine ⟨st29.below, ?_⟩
            (try simp only [Act.put])
            (try simp only [List.getElem_toArray])
            (try simp only [List.getElem_cons_succ])
            (try simp only [List.getElem_cons_zero])
            (try simp only [List.setIfInBounds_toArray])
            (try simp only [List.set_cons_succ])
            (try simp only [List.set_cons_zero])
            refine wpAnyH_all (rs := [10]) (by kernel_rfl) (by simp) (fun i hi => ?_)
            simp only [List.mem_cons, List.not_mem_nil, or_false] at hi
            subst hi
            unfold wpOp
            simp only [List.getElem?_toArray, List.getElem?_cons_succ, List.getElem?_cons_zero]
            rw [if_pos (by rfl)]
            left
            have c30 := (st29.g1 _ rfl).cell
            have f30 := (st29.g1 _ rfl).frozen
            unfold Oper.wp
            go_simp
            have st30 := st29.store1
            refine ⟨st30.below, ?_⟩
            clear c30 f30
            obtain ⟨y30, hy30⟩ : ∃ y, y = y29.setCell ⟨y23.heap.size, 0, none⟩ (rowV (Y0.heap.size) q) := ⟨_, rfl⟩
            rw [← hy30] at st30 ⊢
            clear hy30
            refine wpAnyH_all (rs := [11]) (by kernel_rfl) (by simp) (fun i hi => ?_)
            simp only [List.mem_cons, List.not_mem_nil, or_false] at hi
            subst hi
            unfold wpOp
            simp only [List.getElem?_toArray, List.getElem?_cons_succ, List.getElem?_cons_zero]
            rw [if_pos (by rfl)]
            left
            have c31 := (st30.g2 _ rfl).cell
            have f31 := (st30.g2 _ rfl).frozen
            unfold Oper.wp
            go_simp
            have st31 := st30.store2
            refine ⟨st31.1, ?_⟩
            clear c31 f31
            obtain ⟨y31, hy31⟩ : ∃ y, y = y30.setCell ⟨y1.heap.size, 0, none⟩ (rowV (y28.heap.size) d) := ⟨_, rfl⟩
            rw [← hy31] at st31 ⊢
            clear hy31
            exact wpAnyH_done (by kernel_rfl) ⟨rfl, Y0.heap.size, y28.heap.size, y23.heap.size, y1.heap.size, st31, rfl⟩ _
          · unfold wpOp
            simp only [List.getElem?_toArray, List.getElem?_cons_succ, List.getElem?_cons_zero]
            rw [if_pos (by rfl)]
            left
            have c32 := (st28.g1 _ rfl).cell
            have f32 := (st28.g1 _ rfl).frozen
            unfold Oper.wp
            go_simp
            have st32 := st28.store1
            refine ⟨st32.below, ?_⟩
            clear c32 f32
            obtain ⟨y32, hy32⟩ : ∃ y, y = y28.setCell ⟨y23.heap.size, 0, none⟩ (rowV (Y0.heap.size) q) := ⟨_, rfl⟩
            rw [← hy32] at st32 ⊢
            clear hy32
            refine wpAnyH_all (rs := [7]) (by kernel_rfl) (by simp) (fun i hi => ?_)
            simp only [List.mem_cons, List.not_mem_nil, or_false] at hi
            subst hi
            unfold wpOp
            simp only [List.getElem?_toArray, List.getElem?_cons_succ, List.getElem?_cons_zero]
            rw [if_pos (by rfl)]
            left
            refine wp_mkrow _ rfl d (by omega) rfl fun y33 hb33 ho33 => ?_
            have st33 := st32.make2 hb33 ho33
            refine ⟨st33.below, ?_⟩
            (try simp only [Act.put])
            (try simp only [List.getElem_toArray])
            (try simp only [List.getElem_cons_succ])
            (try simp only [List.getElem_cons_zero])
            (try simp only [List.setIfInBounds_toArray])
            (try simp only [List.set_cons_succ])
            (try simp only [List.set_cons_zero])
            refine wpAnyH_all (rs := [11]) (by kernel_rfl) (by simp) (fun i hi => ?_)
            simp only [List.mem_cons, List.not_mem_nil, or_false] at hi
            subst hi
            unfold wpOp
            simp only [List.getElem?_toArray, List.getElem?_cons_succ, List.getElem?_cons_zero]
            rw [if_pos (by rfl)]
            left
            have c34 := (st33.g2 _ rfl).cell
            have f34 := (st33.g2 _ rfl).frozen
            unfold Oper.wp
            go_simp
            have st34 := st33.store2
            refine ⟨st34.1, ?_⟩
            clear c34 f34
            obtain ⟨y34, hy34⟩ : ∃ y, y = y33.setCell ⟨y1.heap.size, 0, none⟩ (rowV (y32.heap.size) d) := ⟨_, rfl⟩
            rw [← hy34] at st34 ⊢
            clear hy34
            exact wpAnyH_done (by kernel_rfl) ⟨rfl, Y0.heap.size, y32.heap.size, y23.heap.size, y1.heap.size, st34, rfl⟩ _
    · unfold wpOp
      simp only [List.getElem?_toArray, List.getElem?_cons_succ, List.getElem?_cons_zero]
      rw [if_pos (by rfl)]
      left
      refine wp_mkrow _ rfl d (by omega) rfl fun y35 hb35 ho35 => ?_
      have st35 := st0.make2 hb35 ho35
      refine ⟨st35.below, ?_⟩
      (try simp only [Act.put])
      (try simp only [List.getElem_toArray])
      (try simp only [List.getElem_cons_succ])
      (try simp only [List.getElem_cons_zero])
      (try simp only [List.setIfInBounds_toArray])
      (try simp only [List.set_cons_succ])
      (try simp only [List.set_cons_zero])
      refine wpAnyH_all (rs := [3, 8, 9]) (by kernel_rfl) (by simp) (fun i hi => ?_)
      simp only [List.mem_cons, List.not_mem_nil, or_false] at hi
      rcases hi with rfl | rfl | rfl
      · unfold wpOp
        simp only [List.getElem?_toArray, List.getElem?_cons_succ, List.getElem?_cons_zero]
        rw [if_pos (by rfl)]
        left
        refine wp_mkrow _ rfl q (by omega) rfl fun y36 hb36 ho36 => ?_
        have st36 := st35.make1 hb36 ho36
        refine ⟨st36.below, ?_⟩
        (try simp only [Act.put])
        (try simp only [List.getElem_toArray])
        (try simp only [List.getElem_cons_succ])
        (try simp only [List.getElem_cons_zero])
        (try simp only [List.setIfInBounds_toArray])
        (try simp only [List.set_cons_succ])
        (try simp only [List.set_cons_zero])
        refine wpAnyH_all (rs := [8, 9]) (by kernel_rfl) (by simp) (fun i hi => ?_)
        simp only [List.mem_cons, List.not_mem_nil, or_false] at hi
        rcases hi with rfl | rfl
        · unfold wpOp
          simp only [List.getElem?_toArray, List.getElem?_cons_succ, List.getElem?_cons_zero]
          rw [if_pos (by rfl)]
          left
          unfold Oper.wp
          go_simp
          have st37 := st36.alloc1
          refine ⟨st37.below, ?_⟩
          obtain ⟨y37, hy37⟩ : ∃ y, y = y36.alloc (.cells #[.slice none 0 0] TI) := ⟨_, rfl⟩
          rw [← hy37] at st37 ⊢
          clear hy37
          refine wpAnyH_all (rs := [9]) (by kernel_rfl) (by simp) (fun i hi => ?_)
          simp only [List.mem_cons, List.not_mem_nil, or_false] at hi
          subst hi
          unfold wpOp
          simp only [List.getElem?_toArray, List.getElem?_cons_succ, List.getElem?_cons_zero]
          rw [if_pos (by rfl)]
          left
          unfold Oper.wp
          go_simp
          have st38 := st37.alloc2
          refine ⟨st38.below, ?_⟩
          obtain ⟨y38, hy38⟩ : ∃ y, y = y37.alloc (.cells #[.slice none 0 0] TI) := ⟨_, rfl⟩
          rw [← hy38] at st38 ⊢
          clear hy38
          refine wpAnyH_all (rs := [10]) (by kernel_rfl) (by simp) (fun i hi => ?_)
          simp only [List.mem_cons, List.not_mem_nil, or_false] at hi
          subst hi
          unfold wpOp
          simp only [List.getElem?_toArray, List.getElem?_cons_succ, List.getElem?_cons_zero]
          rw [if_pos (by rfl)]
          left
          have c39 := (st38.g1 _ rfl).cell
          have f39 := (st38.g1 _ rfl).frozen
          unfold Oper.wp
          go_simp
          have st39 := st38.store1
          refine ⟨st39.below, ?_⟩
          clear c39 f39
          obtain ⟨y39, hy39⟩ : ∃ y, y = y38.setCell ⟨y36.heap.size, 0, none⟩ (rowV (y35.heap.size) q) := ⟨_, rfl⟩
          rw [← hy39] at st39 ⊢
          clear hy39
          refine wpAnyH_all (rs := [11]) (by kernel_rfl) (by simp) (fun i hi => ?_)
          simp only [List.mem_cons, List.not_mem_nil, or_false] at hi
          subst hi
          unfold wpOp
          simp only [List.getElem?_toArray, List.getElem?_cons_succ, List.getElem?_cons_zero]
          rw [if_pos (by rfl)]
          left
          have c40 := (st39.g2 _ rfl).cell
          have f40 := (st39.g2 _ rfl).frozen
          unfold Oper.wp
          go_simp
          have st40 := st39.store2
          refine ⟨st40.1, ?_⟩
          clear c40 f40
          obtain ⟨y40, hy40⟩ : ∃ y, y = y39.setCell ⟨y37.heap.size, 0, none⟩ (rowV (Y0.heap.size) d) := ⟨_, rfl⟩
          rw [← hy40] at st40 ⊢
          clear hy40
          exact wpAnyH_done (by kernel_rfl) ⟨rfl, y35.heap.size, Y0.heap.size, y36.heap.size, y37.heap.size, st40, rfl⟩ _
        · unfold wpOp
          simp only [List.getElem?_toArray, List.getElem?_cons_succ, List.getElem?_cons_zero]
          rw [if_pos (by rfl)]
          left
          unfold Oper.wp
          go_simp
          have st41 := st36.alloc2
          refine ⟨st41.below, ?_⟩
          obtain ⟨y41, hy41⟩ : ∃ y, y = y36.alloc (.cells #[.slice none 0 0] TI) := ⟨_, rfl⟩
          rw [← hy41] at st41 ⊢
          clear hy41
          refine wpAnyH_all (rs := [8]) (by kernel_rfl) (by simp) (fun i hi => ?_)
          simp only [List.mem_cons, List.not_mem_nil, or_false] at hi
          subst hi
          unfold wpOp
          simp only [List.getElem?_toArray, List.getElem?_cons_succ, List.getElem?_cons_zero]
          rw [if_pos (by rfl)]
          left
          unfold Oper.wp
          go_simp
          have st42 := st41.alloc1
          refine ⟨st42.below, ?_⟩
          obtain ⟨y42, hy42⟩ : ∃ y, y = y41.alloc (.cells #[.slice none 0 0] TI) := ⟨_, rfl⟩
          rw [← hy42] at st42 ⊢
          clear hy42
          refine wpAnyH_all (rs := [10]) (by kernel_rfl) (by simp) (fun i hi => ?_)
          simp only [List.mem_cons, List.not_mem_nil, or_false] at hi
          subst hi
          unfold wpOp
          simp only [List.getElem?_toArray, List.getElem?_cons_succ, List.getElem?_cons_zero]
          rw [if_pos (by rfl)]
          left
          have c43 := (st42.g1 _ rfl).cell
          have f43 := (st42.g1 _ rfl).frozen
          unfold Oper.wp
          go_simp
          have st43 := st42.store1
          refine ⟨st43.below, ?_⟩
          clear c43 f43
          obtain ⟨y43, hy43⟩ : ∃ y, y = y42.setCell ⟨y41.heap.size, 0, none⟩ (rowV (y35.heap.size) q) := ⟨_, rfl⟩
          rw [← hy43] at st43 ⊢
          clear hy43
          refine wpAnyH_all (rs := [11]) (by kernel_rfl) (by simp) (fun i hi => ?_)
          simp only [List.mem_cons, List.not_mem_nil, or_false] at hi
          subst hi
          unfold wpOp
          simp only [List.getElem?_toArray, List.getElem?_cons_succ, List.getElem?_cons_zero]
          rw [if_pos (by rfl)]
          left
          have c44 := (st43.g2 _ rfl).cell
          have f44 := (st43.g2 _ rfl).frozen
          unfold Oper.wp
          go_simp
          have st44 := st43.store2
          refine ⟨st44.1, ?_⟩
          clear c44 f44
          obtain ⟨y44, hy44⟩ : ∃ y, y = y43.setCell ⟨y36.heap.size, 0, none⟩ (rowV (Y0.heap.size) d) := ⟨_, rfl⟩
          rw [← hy44] at st44 ⊢
          clear hy44
          exact wpAnyH_done (by kernel_rfl) ⟨rfl, y35.heap.size, Y0.heap.size, y41.heap.size, y36.heap.size, st44, rfl⟩ _
      · unfold wpOp
        simp only [List.getElem?_toArray, List.getElem?_cons_succ, List.getElem?_cons_zero]
        rw [if_pos (by rfl)]
        left
        unfold Oper.wp
        go_simp
        have st45 := st35.alloc1
        refine ⟨st45.below, ?_⟩
        obtain ⟨y45, hy45⟩ : ∃ y, y = y35.alloc (.cells #[.slice none 0 0] TI) := ⟨_, rfl⟩
        rw [← hy45] at st45 ⊢
        clear hy45
        refine wpAnyH_all (rs := [3, 9]) (by kernel_rfl) (by simp) (fun i hi => ?_)
        simp only [List.mem_cons, List.not_mem_nil, or_false] at hi
        rcases hi with rfl | rfl
        · unfold wpOp
          simp only [List.getElem?_toArray, List.getElem?_cons_succ, List.getElem?_cons_zero]
          rw [if_pos (by rfl)]
          left
          refine wp_mkrow _ rfl q (by omega) rfl fun y46 hb46 ho46 => ?_
          have st46 := st45.make1 hb46 ho46
          refine ⟨st46.below, ?_⟩
          (try simp only [Act.put])
          (try simp only [List.getElem_toArray])
          (try simp only [List.getElem_cons_succ])
          (try simp only [List.getElem_cons_zero])
          (try simp only [List.setIfInBounds_toArray])
          (try simp only [List.set_cons_succ])
          (try simp only [List.set_cons_zero])
          refine wpAnyH_all (rs := [9]) (by kernel_rfl) (by simp) (fun i hi => ?_)
          simp only [List.mem_cons, List.not_mem_nil, or_false] at hi
          subst hi
          unfold wpOp
          simp only [List.getElem?_toArray, List.getElem?_cons_succ, List.getElem?_cons_zero]
          rw [if_pos (by rfl)]
          left
          unfold Oper.wp
          go_simp
          have st47 := st46.alloc2
          refine ⟨st47.below, ?_⟩
          obtain ⟨y47, hy47⟩ : ∃ y, y = y46.alloc (.cells #[.slice none 0 0] TI) := ⟨_, rfl⟩
          rw [← hy47] at st47 ⊢
          clear hy47
          refine wpAnyH_all (rs := [10]) (by kernel_rfl) (by simp) (fun i hi => ?_)
          simp only [List.mem_cons, List.not_mem_nil, or_false] at hi
          subst hi
          unfold wpOp
          simp only [List.getElem?_toArray, List.getElem?_cons_succ, List.getElem?_cons_zero]
          rw [if_pos (by rfl)]
          left
          have c48 := (st47.g1 _ rfl).cell
          have f48 := (st47.g1 _ rfl).frozen
          unfold Oper.wp
          go_simp
          have st48 := st47.store1
          refine ⟨st48.below, ?_⟩
          clear c48 f48
          obtain ⟨y48, hy48⟩ : ∃ y, y = y47.setCell ⟨y35.heap.size, 0, none⟩ (rowV (y45.heap.size) q) := ⟨_, rfl⟩
          rw [← hy48] at st48 ⊢
          clear hy48
          refine wpAnyH_all (rs := [11]) (by kernel_rfl) (by simp) (fun i hi => ?_)
          simp only [List.mem_cons, List.not_mem_nil, or_false] at hi
          subst hi
          unfold wpOp
          simp only [List.getElem?_toArray, List.getElem?_cons_succ, List.getElem?_cons_zero]
          rw [if_pos (by rfl)]
          left
          have c49 := (st48.g2 _ rfl).cell
          have f49 := (st48.g2 _ rfl).frozen
          unfold Oper.wp
          go_simp
          have st49 := st48.store2
          refine ⟨st49.1, ?_⟩
          clear c49 f49
          obtain ⟨y49, hy49⟩ : ∃ y, y = y48.setCell ⟨y46.heap.size, 0, none⟩ (rowV (Y0.heap.size) d) := ⟨_, rfl⟩
          rw [← hy49] at st49 ⊢
          clear hy49
          exact wpAnyH_done (by kernel_rfl) ⟨rfl, y45.heap.size, Y0.heap.size, y35.heap.size, y46.heap.size, st49, rfl⟩ _
        · unfold wpOp
          simp only [List.getElem?_toArray, List.getElem?_cons_succ, List.getElem?_cons_zero]
          rw [if_pos (by rfl)]
          left
          unfold Oper.wp
          go_simp
          have st50 := st45.alloc2
          refine ⟨st50.below, ?_⟩
          obtain ⟨y50, hy50⟩ : ∃ y, y = y45.alloc (.cells #[.slice none 0 0] TI) := ⟨_, rfl⟩
          rw [← hy50] at st50 ⊢
          clear hy50
          refine wpAnyH_all (rs := [3]) (by kernel_rfl) (by simp) (fun i hi => ?_)
          simp only [List.mem_cons, List.not_mem_nil, or_false] at hi
          subst hi
          unfold wpOp
          simp only [List.getElem?_toArray, List.getElem?_cons_succ, List.getElem?_cons_zero]
          rw [if_pos (by rfl)]
          left
          refine wp_mkrow _ rfl q (by omega) rfl fun y51 hb51 ho51 => ?_
          have st51 := st50.make1 hb51 ho51
          refine ⟨st51.below, ?_⟩
          (try simp only [Act.put])
          (try simp only [List.getElem_toArray])
          (try simp only [List.getElem_cons_succ])
          (try simp only [List.getElem_cons_zero])
          (try simp only [List.setIfInBounds_toArray])
          (try simp only [List.set_cons_succ])
          (try simp only [List.set_cons_zero])
          refine wpAnyH_all (rs := [10]) (by kernel_rfl) (by simp) (fun i hi => ?_)
          simp only [List.mem_cons, List.not_mem_nil, or_false] at hi
          subst hi
          unfold wpOp
          simp only [List.getElem?_toArray, List.getElem?_cons_succ, List.getElem?_cons_zero]
          rw [if_pos (by rfl)]
          left
          have c52 := (st51.g1 _ rfl).cell
          have f52 := (st51.g1 _ rfl).frozen
          unfold Oper.wp
          go_simp
          have st52 := st51.store1
          refine ⟨st52.below, ?_⟩
          clear c52 f52
          obtain ⟨y52, hy52⟩ : ∃ y, y = y51.setCell ⟨y35.heap.size, 0, none⟩ (rowV (y50.heap.size) q) := ⟨_, rfl⟩
          rw [← hy52] at st52 ⊢
          clear hy52
          refine wpAnyH_all (rs := [11]) (by kernel_rfl) (by simp) (fun i hi => ?_)
          simp only [List.mem_cons, List.not_mem_nil, or_false] at hi
          subst hi
          unfold wpOp
          simp only [List.getElem?_toArray, List.getElem?_cons_succ, List.getElem?_cons_zero]
          rw [if_pos (by rfl)]
          left
          have c53 := (st52.g2 _ rfl).cell
          have f53 := (st52.g2 _ rfl).frozen
          unfold Oper.wp
          go_simp
          have st53 := st52.store2
          refine ⟨st53.1, ?_⟩
          clear c53 f53
          obtain ⟨y53, hy53⟩ : ∃ y, y = y52.setCell ⟨y45.heap.size, 0, none⟩ (rowV (Y0.heap.size) d) := ⟨_, rfl⟩
          rw [← hy53] at st53 ⊢
          clear hy53
          exact wpAnyH_done (by kernel_rfl) ⟨rfl, y50.heap.size, Y0.heap.size, y35.heap.size, y45.heap.size, st53, rfl⟩ _
      · unfold wpOp
        simp only [List.getElem?_toArray, List.getElem?_cons_succ, List.getElem?_cons_zero]
        rw [if_pos (by rfl)]
        left
        unfold Oper.wp
        go_simp
        have st54 := st35.alloc2
        refine ⟨st54.below, ?_⟩
        obtain ⟨y54, hy54⟩ : ∃ y, y = y35.alloc (.cells #[.slice none 0 0] TI) := ⟨_, rfl⟩
        rw [← hy54] at st54 ⊢
        clear hy54
        refine wpAnyH_all (rs := [3, 8]) (by kernel_rfl) (by simp) (fun i hi => ?_)
        simp only [List.mem_cons, List.not_mem_nil, or_false] at hi
        rcases hi with rfl | rfl
        · unfold wpOp
          simp only [List.getElem?_toArray, List.getElem?_cons_succ, List.getElem?_cons_zero]
          rw [if_pos (by rfl)]
          left
          refine wp_mkrow _ rfl q (by omega) rfl fun y55 hb55 ho55 => ?_
          have st55 := st54.make1 hb55 ho55
          refine ⟨st55.below, ?_⟩
          (try simp only [Act.put])
          (try simp only [List.getElem_toArray])
          (try simp only [List.getElem_cons_succ])
          (try simp only [List.getElem_cons_zero])
          (try simp only [List.setIfInBounds_toArray])
          (try simp only [List.set_cons_succ])
          (try simp only [List.set_cons_zero])
          refine wpAnyH_all (rs := [8]) (by kernel_rfl) (by simp) (fun i hi => ?_)
          simp only [List.mem_cons, List.not_mem_nil, or_false] at hi
          subst hi
          unfold wpOp
          simp only [List.getElem?_toArray, List.getElem?_cons_succ, List.getElem?_cons_zero]
          rw [if_pos (by rfl)]
          left
          unfold Oper.wp
          go_simp
          have st56 := st55.alloc1
          refine ⟨st56.below, ?_⟩
          obtain ⟨y56, hy56⟩ : ∃ y, y = y55.alloc (.cells #[.slice none 0 0] TI) := ⟨_, rfl⟩
          rw [← hy56] at st56 ⊢
          clear hy56
          refine wpAnyH_all (rs := [10]) (by kernel_rfl) (by simp) (fun i hi => ?_)
          simp only [List.mem_cons, List.not_mem_nil, or_false] at hi
          subst hi
          unfold wpOp
          simp only [List.getElem?_toArray, List.getElem?_cons_succ, List.getElem?_cons_zero]
          rw [if_pos (by rfl)]
          left
          have c57 := (st56.g1 _ rfl).cell
          have f57 := (st56.g1 _ rfl).frozen
          unfold Oper.wp
          go_simp
          have st57 := st56.store1
          refine ⟨st57.below, ?_⟩
          clear c57 f57
          obtain ⟨y57, hy57⟩ : ∃ y, y = y56.setCell ⟨y55.heap.size, 0, none⟩ (rowV (y54.heap.size) q) := ⟨_, rfl⟩
          rw [← hy57] at st57 ⊢
          clear hy57
          refine wpAnyH_all (rs := [11]) (by kernel_rfl) (by simp) (fun i hi => ?_)
          simp only [List.mem_cons, List.not_mem_nil, or_false] at hi
          subst hi
          unfold wpOp
          simp only [List.getElem?_toArray, List.getElem?_cons_succ, List.getElem?_cons_zero]
          rw [if_pos (by rfl)]
          left
          have c58 := (st57.g2 _ rfl).cell
          have f58 := (st57.g2 _ rfl).frozen
          unfold Oper.wp
          go_simp
          have st58 := st57.store2
          refine ⟨st58.1, ?_⟩
          clear c58 f58
          obtain ⟨y58, hy58⟩ : ∃ y, y = y57.setCell ⟨y35.heap.size, 0, none⟩ (rowV (Y0.heap.size) d) := ⟨_, rfl⟩
          rw [← hy58] at st58 ⊢
          clear hy58
          exact wpAnyH_done (by kernel_rfl) ⟨rfl, y54.heap.size, Y0.heap.size, y55.heap.size, y35.heap.size, st58, rfl⟩ _
        · unfold wpOp
          simp only [List.getElem?_toArray, List.getElem?_cons_succ, List.getElem?_cons_zero]
          rw [if_pos (by rfl)]
          left
          unfold Oper.wp
          go_simp
          have st59 := st54.alloc1
          refine ⟨st59.below, ?_⟩
          obtain ⟨y59, hy59⟩ : ∃ y, y = y54.alloc (.cells #[.slice none 0 0] TI) := ⟨_, rfl⟩
          rw [← hy59] at st59 ⊢
          clear hy59
          refine wpAnyH_all (rs := [3]) (by kernel_rfl) (by simp) (fun i hi => ?_)
          simp only [List.mem_cons, List.not_mem_nil, or_false] at hi
          subst hi
          unfold wpOp
          simp only [List.getElem?_toArray, List.getElem?_cons_succ, List.getElem?_cons_zero]
          rw [if_pos (by rfl)]
          left
          refine wp_mkrow _ rfl q (by omega) rfl fun y60 hb60 ho60 => ?_
          have st60 := st59.make1 hb60 ho60
          refine ⟨st60.below, ?_⟩
          (try simp only [Act.put])
          (try simp only [List.getElem_toArray])
          (try simp only [List.getElem_cons_succ])
          (try simp only [List.getElem_cons_zero])
          (try simp only [List.setIfInBounds_toArray])
          (try simp only [List.set_cons_succ])
          (try simp only [List.set_cons_zero])
          refine wpAnyH_all (rs := [10]) (by kernel_rfl) (by simp) (fun i hi => ?_)
          simp only [List.mem_cons, List.not_mem_nil, or_false] at hi
          subst hi
          unfold wpOp
          simp only [List.getElem?_toArray, List.getElem?_cons_succ, List.getElem?_cons_zero]
          rw [if_pos (by rfl)]
          left
          have c61 := (st60.g1 _ rfl).cell
          have f61 := (st60.g1 _ rfl).frozen
          unfold Oper.wp
          go_simp
          have st61 := st60.store1
          refine ⟨st61.below, ?_⟩
          clear c61 f61
          obtain ⟨y61, hy61⟩ : ∃ y, y = y60.setCell ⟨y54.heap.size, 0, none⟩ (rowV (y59.heap.size) q) := ⟨_, rfl⟩
          rw [← hy61] at st61 ⊢
          clear hy61
          refine wpAnyH_all (rs := [11]) (by kernel_rfl) (by simp) (fun i hi => ?_)
          simp only [List.mem_cons, List.not_mem_nil, or_false] at hi
          subst hi
          unfold wpOp
          simp only [List.getElem?_toArray, List.getElem?_cons_succ, List.getElem?_cons_zero]
          rw [if_pos (by rfl)]
          left
          have c62 := (st61.g2 _ rfl).cell
          have f62 := (st61.g2 _ rfl).frozen
          unfold Oper.wp
          go_simp
          have st62 := st61.store2
          refine ⟨st62.1, ?_⟩
          clear c62 f62
          obtain ⟨y62, hy62⟩ : ∃ y, y = y61.setCell ⟨y35.heap.size, 0, none⟩ (rowV (Y0.heap.size) d) := ⟨_, rfl⟩
          rw [← hy62] at st62 ⊢
          clear hy62
          exact wpAnyH_done (by kernel_rfl) ⟨rfl, y59.heap.size, Y0.heap.size, y54.heap.size, y35.heap.size, st62, rfl⟩ _
    · unfold wpOp
      simp only [List.getElem?_toArray, List.getElem?_cons_succ, List.getElem?_cons_zero]
      rw [if_pos (by rfl)]
      left
      unfold Oper.wp
      go_simp
      have st63 := st0.alloc1
      refine ⟨st63.below, ?_⟩
      obtain ⟨y63, hy63⟩ : ∃ y, y = Y0.alloc (.cells #[.slice none 0 0] TI) := ⟨_, rfl⟩
      rw [← hy63] at st63 ⊢
      clear hy63
      refine wpAnyH_all (rs := [3, 7, 9]) (by kernel_rfl) (by simp) (fun i hi => ?_)
      simp only [List.mem_cons, List.not_mem_nil, or_false] at hi
      rcases hi with rfl | rfl | rfl
      · unfold wpOp
        simp only [List.getElem?_toArray, List.getElem?_cons_succ, List.getElem?_cons_zero]
        rw [if_pos (by rfl)]
        left
        refine wp_mkrow _ rfl q (by omega) rfl fun y64 hb64 ho64 => ?_
        have st64 := st63.make1 hb64 ho64
        refine ⟨st64.below, ?_⟩
        (try simp only [Act.put])
        (try simp only [List.getElem_toArray])
        (try simp only [List.getElem_cons_succ])
        (try simp only [List.getElem_cons_zero])
        (try simp only [List.setIfInBounds_toArray])
        (try simp only [List.set_cons_succ])
        (try simp only [List.set_cons_zero])
        refine wpAnyH_all (rs := [7, 9]) (by kernel_rfl) (by simp) (fun i hi => ?_)
        simp only [List.mem_cons, List.not_mem_nil, or_false] at hi
        rcases hi with rfl | rfl
        · unfold wpOp
          simp only [List.getElem?_toArray, List.getElem?_cons_succ, List.getElem?_cons_zero]
          rw [if_pos (by rfl)]
          left
          refine wp_mkrow _ rfl d (by omega) rfl fun y65 hb65 ho65 => ?_
          have st65 := st64.make2 hb65 ho65
          refine ⟨st65.below, ?_⟩
          (try simp only [Act.put])
          (try simp only [List.getElem_toArray])
          (try simp only [List.getElem_cons_succ])
          (try simp only [List.getElem_cons_zero])
          (try simp only [List.setIfInBounds_toArray])
          (try simp only [List.set_cons_succ])
          (try simp only [List.set_cons_zero])
          refine wpAnyH_all (rs := [9]) (by kernel_rfl) (by simp) (fun i hi => ?_)
          simp only [List.mem_cons, List.not_mem_nil, or_false] at hi
          subst hi
          unfold wpOp
          simp only [List.getElem?_toArray, List.getElem?_cons_succ, List.getElem?_cons_zero]
          rw [if_pos (by rfl)]
          left
          unfold Oper.wp
          go_simp
          have st66 := st65.alloc2
          refine ⟨st66.below, ?_⟩
          obtain ⟨y66, hy66⟩ : ∃ y, y = y65.alloc (.cells #[.slice none 0 0] TI) := ⟨_, rfl⟩
          rw [← hy66] at st66 ⊢
          clear hy66
          refine wpAnyH_all (rs := [10]) (by kernel_rfl) (by simp) (fun i hi => ?_)
          simp only [List.mem_cons, List.not_mem_nil, or_false] at hi
          subst hi
          unfold wpOp
          simp only [List.getElem?_toArray, List.getElem?_cons_succ, List.getElem?_cons_zero]
          rw [if_pos (by rfl)]
          left
          have c67 := (st66.g1 _ rfl).cell
          have f67 := (st66.g1 _ rfl).frozen
          unfold Oper.wp
          go_simp
          have st67 := st66.store1
          refine ⟨st67.below, ?_⟩
          clear c67 f67
          obtain ⟨y67, hy67⟩ : ∃ y, y = y66.setCell ⟨Y0.heap.size, 0, none⟩ (rowV (y63.heap.size) q) := ⟨_, rfl⟩
          rw [← hy67] at st67 ⊢
          clear hy67
          refine wpAnyH_all (rs := [11]) (by kernel_rfl) (by simp) (fun i hi => ?_)
          simp only [List.mem_cons, List.not_mem_nil, or_false] at hi
          subst hi
          unfold wpOp
          simp only [List.getElem?_toArray, List.getElem?_cons_succ, List.getElem?_cons_zero]
          rw [if_pos (by rfl)]
          left
          have c68 := (st67.g2 _ rfl).cell
          have f68 := (st67.g2 _ rfl).frozen
          unfold Oper.wp
          go_simp
          have st68 := st67.store2
          refine ⟨st68.1, ?_⟩
          clear c68 f68
          obtain ⟨y68, hy68⟩ : ∃ y, y = y67.setCell ⟨y65.heap.size, 0, none⟩ (rowV (y64.heap.size) d) := ⟨_, rfl⟩
          rw [← hy68] at st68 ⊢
          clear hy68
          exact wpAnyH_done (by kernel_rfl) ⟨rfl, y63.heap.size, y64.heap.size, Y0.heap.size, y65.heap.size, st68, rfl⟩ _
        · unfold wpOp
          simp only [List.getElem?_toArray, List.getElem?_cons_succ, List.getElem?_cons_zero]
          rw [if_pos (by rfl)]
          left
          unfold Oper.wp
          go_simp
          have st69 := st64.alloc2
          refine ⟨st69.below, ?_⟩
          obtain ⟨y69, hy69⟩ : ∃ y, y = y64.alloc (.cells #[.slice none 0 0] TI) := ⟨_, rfl⟩
          rw [← hy69] at st69 ⊢
          clear hy69
          refine wpAnyH_all (rs := [7, 10]) (by kernel_rfl) (by simp) (fun i hi => ?_)
          simp only [List.mem_cons, List.not_mem_nil, or_false] at hi
          rcases hi with rfl | rfl
          · unfold wpOp
            simp only [List.getElem?_toArray, List.getElem?_cons_succ, List.getElem?_cons_zero]
            rw [if_pos (by rfl)]
            left
            refine wp_mkrow _ rfl d (by omega) rfl fun y70 hb70 ho70 => ?_
            have st70 := st69.make2 hb70 ho70
            refine ⟨st70.below, ?_⟩
            (try simp only [Act.put])
            (try simp only [List.getElem_toArray])
            (try simp only [List.getElem_cons_succ])
            (try simp only [List.getElem_cons_zero])
            (try simp only [List.setIfInBounds_toArray])
            (try simp only [List.set_cons_succ])
            (try simp only [List.set_cons_zero])
            refine wpAnyH_all (rs := [10]) (by kernel_rfl) (by simp) (fun i hi => ?_)
            simp only [List.mem_cons, List.not_mem_nil, or_false] at hi
            subst hi
            unfold wpOp
            simp only [List.getElem?_toArray, List.getElem?_cons_succ, List.getElem?_cons_zero]
            rw [if_pos (by rfl)]
            left
            have c71 := (st70.g1 _ rfl).cell
            have f71 := (st70.g1 _ rfl).frozen
            unfold Oper.wp
            go_simp
            have st71 := st70.store1
            refine ⟨st71.below, ?_⟩
            clear c71 f71
            obtain ⟨y71, hy71⟩ : ∃ y, y = y70.setCell ⟨Y0.heap.size, 0, none⟩ (rowV (y63.heap.size) q) := ⟨_, rfl⟩
            rw [← hy71] at st71 ⊢
            clear hy71
            refine wpAnyH_all (rs := [11]) (by kernel_rfl) (by simp) (fun i hi => ?_)
            simp only [List.mem_cons, List.not_mem_nil, or_false] at hi
            subst hi
            unfold wpOp
            simp only [List.getElem?_toArray, List.getElem?_cons_succ, List.getElem?_cons_zero]
            rw [if_pos (by rfl)]
            left
            have c72 := (st71.g2 _ rfl).cell
            have f72 := (st71.g2 _ rfl).frozen
            unfold Oper.wp
            go_simp
            have st72 := st71.store2
            refine ⟨st72.1, ?_⟩
            clear c72 f72
            obtain ⟨y72, hy72⟩ : ∃ y, y = y71.setCell ⟨y64.heap.size, 0, none⟩ (rowV (y69.heap.size) d) := ⟨_, rfl⟩
            rw [← hy72] at st72 ⊢
            clear hy72
            exact wpAnyH_done (by kernel_rfl) ⟨rfl, y63.heap.size, y69.heap.size, Y0.heap.size, y64.heap.size, st72, rfl⟩ _
          · unfold wpOp
            simp only [List.getElem?_toArray, List.getElem?_cons_succ, List.getElem?_cons_zero]
            rw [if_pos (by rfl)]
            left
            have c73 := (st69.g1 _ rfl).cell
            have f73 := (st69.g1 _ rfl).frozen
            unfold Oper.wp
            go_simp
            have st73 := st69.store1
            refine ⟨st73.below, ?_⟩
            clear c73 f73
            obtain ⟨y73, hy73⟩ : ∃ y, y = y69.setCell ⟨Y0.heap.size, 0, none⟩ (rowV (y63.heap.size) q) := ⟨_, rfl⟩
            rw [← hy73] at st73 ⊢
            clear hy73
            refine wpAnyH_all (rs := [7]) (by kernel_rfl) (by simp) (fun i hi => ?_)
            simp only [List.mem_cons, List.not_mem_nil, or_false] at hi
            subst hi
            unfold wpOp
            simp only [List.getElem?_toArray, List.getElem?_cons_succ, List.getElem?_cons_zero]
            rw [if_pos (by rfl)]
            left
            refine wp_mkrow _ rfl d (by omega) rfl fun y74 hb74 ho74 => ?_
            have st74 := st73.make2 hb74 ho74
            refine ⟨st74.below, ?_⟩
            (try simp only [Act.put])
            (try simp only [List.getElem_toArray])
            (try simp only [List.getElem_cons_succ])
            (try simp only [List.getElem_cons_zero])
            (try simp only [List.setIfInBounds_toArray])
            (try simp only [List.set_cons_succ])
            (try simp only [List.set_cons_zero])
            refine wpAnyH_all (rs := [11]) (by kernel_rfl) (by simp) (fun i hi => ?_)
            simp only [List.mem_cons, List.not_mem_nil, or_false] at hi
            subst hi
            unfold wpOp
            simp only [List.getElem?_toArray, List.getElem?_cons_succ, List.getElem?_cons_zero]
            rw [if_pos (by rfl)]
            left
            have c75 := (st74.g2 _ rfl).cell
            have f75 := (st74.g2 _ rfl).frozen
            unfold Oper.wp
            go_simp
            have st75 := st74.store2
            refine ⟨st75.1, ?_⟩
            clear c75 f75
            obtain ⟨y75, hy75⟩ : ∃ y, y = y74.setCell ⟨y64.heap.size, 0, none⟩ (rowV (y73.heap.size) d) := ⟨_, rfl⟩
            rw [← hy75] at st75 ⊢
            clear hy75
            exact wpAnyH_done (by kernel_rfl) ⟨rfl, y63.heap.size, y73.heap.size, Y0.heap.size, y64.heap.size, st75, rfl⟩ _
      · unfold wpOp
        simp only [List.getElem?_toArray, List.getElem?_cons_succ, List.getElem?_cons_zero]
        rw [if_pos (by rfl)]
        left
        refine wp_mkrow _ rfl d (by omega) rfl fun y76 hb76 ho76 => ?_
        have st76 := st63.make2 hb76 ho76
        refine ⟨st76.below, ?_⟩
        (try simp only [Act.put])
        (try simp only [List.getElem_toArray])
        (try simp only [List.getElem_cons_succ])
        (try simp only [List.getElem_cons_zero])
        (try simp only [List.setIfInBounds_toArray])
        (try simp only [List.set_cons_succ])
        (try simp only [List.set_cons_zero])
        refine wpAnyH_all (rs := [3, 9]) (by kernel_rfl) (by simp) (fun i hi => ?_)
        simp only [List.mem_cons, List.not_mem_nil, or_false] at hi
        rcases hi with rfl | rfl
        · unfold wpOp
          simp only [List.getElem?_toArray, List.getElem?_cons_succ, List.getElem?_cons_zero]
          rw [if_pos (by rfl)]
          left
          refine wp_mkrow _ rfl q (by omega) rfl fun y77 hb77 ho77 => ?_
          have st77 := st76.make1 hb77 ho77
          refine ⟨st77.below, ?_⟩
          (try simp only [Act.put])
          (try simp only [List.getElem_toArray])
          (try simp only [List.getElem_cons_succ])
          (try simp only [List.getElem_cons_zero])
          (try simp only [List.setIfInBounds_toArray])
          (try simp only [List.set_cons_succ])
          (try simp only [List.set_cons_zero])
          refine wpAnyH_all (rs := [9]) (by kernel_rfl) (by simp) (fun i hi => ?_)
          simp only [List.mem_cons, List.not_mem_nil, or_false] at hi
          subst hi
          unfold wpOp
          simp only [List.getElem?_toArray, List.getElem?_cons_succ, List.getElem?_cons_zero]
          rw [if_pos (by rfl)]
          left
          unfold Oper.wp
          go_simp
          have st78 := st77.alloc2
          refine ⟨st78.below, ?_⟩
          obtain ⟨y78, hy78⟩ : ∃ y, y = y77.alloc (.cells #[.slice none 0 0] TI) := ⟨_, rfl⟩
          rw [← hy78] at st78 ⊢
          clear hy78
          refine wpAnyH_all (rs := [10]) (by kernel_rfl) (by simp) (fun i hi => ?_)
          simp only [List.mem_cons, List.not_mem_nil, or_false] at hi
          subst hi
          unfold wpOp
          simp only [List.getElem?_toArray, List.getElem?_cons_succ, List.getElem?_cons_zero]
          rw [if_pos (by rfl)]
          left
          have c79 := (st78.g1 _ rfl).cell
          have f79 := (st78.g1 _ rfl).frozen
          unfold Oper.wp
          go_simp
          have st79 := st78.store1
          refine ⟨st79.below, ?_⟩
          clear c79 f79
          obtain ⟨y79, hy79⟩ : ∃ y, y = y78.setCell ⟨Y0.heap.size, 0, none⟩ (rowV (y76.heap.size) q) := ⟨_, rfl⟩
          rw [← hy79] at st79 ⊢
          clear hy79
          refine wpAnyH_all (rs := [11]) (by kernel_rfl) (by simp) (fun i hi => ?_)
          simp only [List.mem_cons, List.not_mem_nil, or_false] at hi
          subst hi
          unfold wpOp
          simp only [List.getElem?_toArray, List.getElem?_cons_succ, List.getElem?_cons_zero]
          rw [if_pos (by rfl)]
          left
          have c80 := (st79.g2 _ rfl).cell
          have f80 := (st79.g2 _ rfl).frozen
          unfold Oper.wp
          go_simp
          have st80 := st79.store2
          refine ⟨st80.1, ?_⟩
          clear c80 f80
          obtain ⟨y80, hy80⟩ : ∃ y, y = y79.setCell ⟨y77.heap.size, 0, none⟩ (rowV (y63.heap.size) d) := ⟨_, rfl⟩
          rw [← hy80] at st80 ⊢
          clear hy80
          exact wpAnyH_done (by kernel_rfl) ⟨rfl, y76.heap.size, y63.heap.size, Y0.heap.size, y77.heap.size, st80, rfl⟩ _
        · unfold wpOp
          simp only [List.getElem?_toArray, List.getElem?_cons_succ, List.getElem?_cons_zero]
          rw [if_pos (by rfl)]
          left
          unfold Oper.wp
          go_simp
          have st81 := st76.alloc2
          refine ⟨st81.below, ?_⟩
          obtain ⟨y81, hy81⟩ : ∃ y, y = y76.alloc (.cells #[.slice none 0 0] TI) := ⟨_, rfl⟩
          rw [← hy81] at st81 ⊢
          clear hy81
          refine wpAnyH_all (rs := [3]) (by kernel_rfl) (by simp) (fun i hi => ?_)
          simp only [List.mem_cons, List.not_mem_nil, or_false] at hi
          subst hi
          unfold wpOp
          simp only [List.getElem?_toArray, List.getElem?_cons_succ, List.getElem?_cons_zero]
          rw [if_pos (by rfl)]
          left
          refine wp_mkrow _ rfl q (by omega) rfl fun y82 hb82 ho82 => ?_
          have st82 := st81.make1 hb82 ho82
          refine ⟨st82.below, ?_⟩
          (try simp only [Act.put])
          (try simp only [List.getElem_toArray])
          (try simp only [List.getElem_cons_succ])
          (try simp only [List.getElem_cons_zero])
          (try simp only [List.setIfInBounds_toArray])
          (try simp only [List.set_cons_succ])
          (try simp only [List.set_cons_zero])
          refine wpAnyH_all (rs := [10]) (by kernel_rfl) (by simp) (fun i hi => ?_)
          simp only [List.mem_cons, List.not_mem_nil, or_false] at hi
          subst hi
          unfold wpOp
          simp only [List.getElem?_toArray, List.getElem?_cons_succ, List.getElem?_cons_zero]
          rw [if_pos (by rfl)]
          left
          have c83 := (st82.g1 _ rfl).cell
          have f83 := (st82.g1 _ rfl).frozen
          unfold Oper.wp
          go_simp
          have st83 := st82.store1
          refine ⟨st83.below, ?_⟩
          clear c83 f83
          obtain ⟨y83, hy83⟩ : ∃ y, y = y82.setCell ⟨Y0.heap.size, 0, none⟩ (rowV (y81.heap.size) q) := ⟨_, rfl⟩
          rw [← hy83] at st83 ⊢
          clear hy83
          refine wpAnyH_all (rs := [11]) (by kernel_rfl) (by simp) (fun i hi => ?_)
          simp only [List.mem_cons, List.not_mem_nil, or_false] at hi
          subst hi
          unfold wpOp
          simp only [List.getElem?_toArray, List.getElem?_cons_succ, List.getElem?_cons_zero]
          rw [if_pos (by rfl)]
          left
          have c84 := (st83.g2 _ rfl).cell
          have f84 := (st83.g2 _ rfl).frozen
          unfold Oper.wp
          go_simp
          have st84 := st83.store2
          refine ⟨st84.1, ?_⟩
          clear c84 f84
          obtain ⟨y84, hy84⟩ : ∃ y, y = y83.setCell ⟨y76.heap.size, 0, none⟩ (rowV (y63.heap.size) d) := ⟨_, rfl⟩
          rw [← hy84] at st84 ⊢
          clear hy84
          exact wpAnyH_done (by kernel_rfl) ⟨rfl, y81.heap.size, y63.heap.size, Y0.heap.size, y76.heap.size, st84, rfl⟩ _
      · unfold wpOp
        simp only [List.getElem?_toArray, List.getElem?_cons_succ, List.getElem?_cons_zero]
        rw [if_pos (by rfl)]
        left
        unfold Oper.wp
        go_simp
        have st85 := st63.alloc2
        refine ⟨st85.below, ?_⟩
        obtain ⟨y85, hy85⟩ : ∃ y, y = y63.alloc (.cells #[.slice none 0 0] TI) := ⟨_, rfl⟩
        rw [← hy85] at st85 ⊢
        clear hy85
        refine wpAnyH_all (rs := [3, 7]) (by kernel_rfl) (by simp) (fun i hi => ?_)
        simp only [List.mem_cons, List.not_mem_nil, or_false] at hi
        rcases hi with rfl | rfl
        · unfold wpOp
          simp only [List.getElem?_toArray, List.getElem?_cons_succ, List.getElem?_cons_zero]
          rw [if_pos (by rfl)]
          left
          refine wp_mkrow _ rfl q (by omega) rfl fun y86 hb86 ho86 => ?_
          have st86 := st85.make1 hb86 ho86
          refine ⟨st86.below, ?_⟩
          (try simp only [Act.put])
          (try simp only [List.getElem_toArray])
          (try simp only [List.getElem_cons_succ])
          (try simp only [List.getElem_cons_zero])
          (try simp only [List.setIfInBounds_toArray])
          (try simp only [List.set_cons_succ])
          (try simp only [List.set_cons_zero])
          refine wpAnyH_all (rs := [7, 10]) (by kernel_rfl) (by simp) (fun i hi => ?_)
          simp only [List.mem_cons, List.not_mem_nil, or_false] at hi
          rcases hi with rfl | rfl
          · unfold wpOp
            simp only [List.getElem?_toArray, List.getElem?_cons_succ, List.getElem?_cons_zero]
            rw [if_pos (by rfl)]
            left
            refine wp_mkrow _ rfl d (by omega) rfl fun y87 hb87 ho87 => ?_
            have st87 := st86.make2 hb87 ho87
            refine ⟨st87.below, ?_⟩
            (try simp only [Act.put])
            (try simp only [List.getElem_toArray])
            (try simp only [List.getElem_cons_succ])
            (try simp only [List.getElem_cons_zero])
            (try simp only [List.setIfInBounds_toArray])
            (try simp only [List.set_cons_succ])
            (try simp only [List.set_cons_zero])
            refine wpAnyH_all (rs := [10]) (by kernel_rfl) (by simp) (fun i hi => ?_)
            simp only [List.mem_cons, List.not_mem_nil, or_false] at hi
            subst hi
            unfold wpOp
            simp only [List.getElem?_toArray, List.getElem?_cons_succ, List.getElem?_cons_zero]
            rw [if_pos (by rfl)]
            left
            have c88 := (st87.g1 _ rfl).cell
            have f88 := (st87.g1 _ rfl).frozen
            unfold Oper.wp
            go_simp
            have st88 := st87.store1
            refine ⟨st88.below, ?_⟩
            clear c88 f88
            obtain ⟨y88, hy88⟩ : ∃ y, y = y87.setCell ⟨Y0.heap.size, 0, none⟩ (rowV (y85.heap.size) q) := ⟨_, rfl⟩
            rw [← hy88] at st88 ⊢
            clear hy88
            refine wpAnyH_all (rs := [11]) (by kernel_rfl) (by simp) (fun i hi => ?_)
            simp only [List.mem_cons, List.not_mem_nil, or_false] at hi
            subst hi
            unfold wpOp
            simp only [List.getElem?_toArray, List.getElem?_cons_succ, List.getElem?_cons_zero]
            rw [if_pos (by rfl)]
            left
            have c89 := (st88.g2 _ rfl).cell
            have f89 := (st88.g2 _ rfl).frozen
            unfold Oper.wp
            go_simp
            have st89 := st88.store2
            refine ⟨st89.1, ?_⟩
            clear c89 f89
            obtain ⟨y89, hy89⟩ : ∃ y, y = y88.setCell ⟨y63.heap.size, 0, none⟩ (rowV (y86.heap.size) d) := ⟨_, rfl⟩
            rw [← hy89] at st89 ⊢
            clear hy89
            exact wpAnyH_done (by kernel_rfl) ⟨rfl, y85.heap.size, y86.heap.size, Y0.heap.size, y63.heap.size, st89, rfl⟩ _
          · unfold wpOp
            simp only [List.getElem?_toArray, List.getElem?_cons_succ, List.getElem?_cons_zero]
            rw [if_pos (by rfl)]
            left
            have c90 := (st86.g1 _ rfl).cell
            have f90 := (st86.g1 _ rfl).frozen
            unfold Oper.wp
            go_simp
            have st90 := st86.store1
            refine ⟨st90.below, ?_⟩
            clear c90 f90
            obtain ⟨y90, hy90⟩ : ∃ y, y = y86.setCell ⟨Y0.heap.size, 0, none⟩ (rowV (y85.heap.size) q) := ⟨_, rfl⟩
            rw [← hy90] at st90 ⊢
            clear hy90
            refine wpAnyH_all (rs := [7]) (by kernel_rfl) (by simp) (fun i hi => ?_)
            simp only [List.mem_cons, List.not_mem_nil, or_false] at hi
            subst hi
            unfold wpOp
            simp only [List.getElem?_toArray, List.getElem?_cons_succ, List.getElem?_cons_zero]
            rw [if_pos (by rfl)]
            left
            refine wp_mkrow _ rfl d (by omega) rfl fun y91 hb91 ho91 => ?_
            have st91 := st90.make2 hb91 ho91
            refine ⟨st91.below, ?_⟩
            (try simp only [Act.put])
            (try simp only [List.getElem_toArray])
            (try simp only [List.getElem_cons_succ])
            (try simp only [List.getElem_cons_zero])
            (try simp only [List.setIfInBounds_toArray])
            (try simp only [List.set_cons_succ])
            (try simp only [List.set_cons_zero])
            refine wpAnyH_all (rs := [11]) (by kernel_rfl) (by simp) (fun i hi => ?_)
            simp only [List.mem_cons, List.not_mem_nil, or_false] at hi
            subst hi
            unfold wpOp
            simp only [List.getElem?_toArray, List.getElem?_cons_succ, List.getElem?_cons_zero]
            rw [if_pos (by rfl)]
            left
            have c92 := (st91.g2 _ rfl).cell
            have f92 := (st91.g2 _ rfl).frozen
            unfold Oper.wp
            go_simp
            have st92 := st91.store2
            refine ⟨st92.1, ?_⟩
            clear c92 f92
            obtain ⟨y92, hy92⟩ : ∃ y, y = y91.setCell ⟨y63.heap.size, 0, none⟩ (rowV (y90.heap.size) d) := ⟨_, rfl⟩
            rw [← hy92] at st92 ⊢
            clear hy92
            exact wpAnyH_done (by kernel_rfl) ⟨rfl, y85.heap.size, y90.heap.size, Y0.heap.size, y63.heap.size, st92, rfl⟩ _
        · unfold wpOp
          simp only [List.getElem?_toArray, List.getElem?_cons_succ, List.getElem?_cons_zero]
          rw [if_pos (by rfl)]
          left
          refine wp_mkrow _ rfl d (by omega) rfl fun y93 hb93 ho93 => ?_
          have st93 := st85.make2 hb93 ho93
          refine ⟨st93.below, ?_⟩
          (try simp only [Act.put])
          (try simp only [List.getElem_toArray])
          (try simp only [List.getElem_cons_succ])
          (try simp only [List.getElem_cons_zero])
          (try simp only [List.setIfInBounds_toArray])
          (try simp only [List.set_cons_succ])
          (try simp only [List.set_cons_zero])
          refine wpAnyH_all (rs := [3]) (by kernel_rfl) (by simp) (fun i hi => ?_)
          simp only [List.mem_cons, List.not_mem_nil, or_false] at hi
          subst hi
          unfold wpOp
          simp only [List.getElem?_toArray, List.getElem?_cons_succ, List.getElem?_cons_zero]
          rw [if_pos (by rfl)]
          left
          refine wp_mkrow _ rfl q (by omega) rfl fun y94 hb94 ho94 => ?_
          have st94 := st93.make1 hb94 ho94
          refine ⟨st94.below, ?_⟩
          (try simp only [Act.put])
          (try simp only [List.getElem_toArray])
          (try simp only [List.getElem_cons_succ])
          (try simp only [List.getElem_cons_zero])
          (try simp only [List.setIfInBounds_toArray])
          (try simp only [List.set_cons_succ])
          (try simp only [List.set_cons_zero])
          refine wpAnyH_all (rs := [10]) (by kernel_rfl) (by simp) (fun i hi => ?_)
          simp only [List.mem_cons, List.not_mem_nil, or_false] at hi
          subst hi
          unfold wpOp
          simp only [List.getElem?_toArray, List.getElem?_cons_succ, List.getElem?_cons_zero]
          rw [if_pos (by rfl)]
          left
          have c95 := (st94.g1 _ rfl).cell
          have f95 := (st94.g1 _ rfl).frozen
          unfold Oper.wp
          go_simp
          have st95 := st94.store1
          refine ⟨st95.below, ?_⟩
          clear c95 f95
          obtain ⟨y95, hy95⟩ : ∃ y, y = y94.setCell ⟨Y0.heap.size, 0, none⟩ (rowV (y93.heap.size) q) := ⟨_, rfl⟩
          rw [← hy95] at st95 ⊢
          clear hy95
          refine wpAnyH_all (rs := [11]) (by kernel_rfl) (by simp) (fun i hi => ?_)
          simp only [List.mem_cons, List.not_mem_nil, or_false] at hi
          subst hi
          unfold wpOp
          simp only [List.getElem?_toArray, List.getElem?_cons_succ, List.getElem?_cons_zero]
          rw [if_pos (by rfl)]
          left
          have c96 := (st95.g2 _ rfl).cell
          have f96 := (st95.g2 _ rfl).frozen
          unfold Oper.wp
          go_simp
          have st96 := st95.store2
          refine ⟨st96.1, ?_⟩
          clear c96 f96
          obtain ⟨y96, hy96⟩ : ∃ y, y = y95.setCell ⟨y63.heap.size, 0, none⟩ (rowV (y85.heap.size) d) := ⟨_, rfl⟩
          rw [← hy96] at st96 ⊢
          clear hy96
          exact wpAnyH_done (by kernel_rfl) ⟨rfl, y93.heap.size, y85.heap.size, Y0.heap.size, y63.heap.size, st96, rfl⟩ _
    · unfold wpOp
      simp only [List.getElem?_toArray, List.getElem?_cons_succ, List.getElem?_cons_zero]
      rw [if_pos (by rfl)]
      left
      unfold Oper.wp
      go_simp
      have st97 := st0.alloc2
      refine ⟨st97.below, ?_⟩
      obtain ⟨y97, hy97⟩ : ∃ y, y = Y0.alloc (.cells #[.slice none 0 0] TI) := ⟨_, rfl⟩
      rw [← hy97] at st97 ⊢
      clear hy97
      refine wpAnyH_all (rs := [3, 7, 8]) (by kernel_rfl) (by simp) (fun i hi => ?_)
      simp only [List.mem_cons, List.not_mem_nil, or_false] at hi
      rcases hi with rfl | rfl | rfl
      · unfold wpOp
        simp only [List.getElem?_toArray, List.getElem?_cons_succ, List.getElem?_cons_zero]
        rw [if_pos (by rfl)]
        left
        refine wp_mkrow _ rfl q (by omega) rfl fun y98 hb98 ho98 => ?_
        have st98 := st97.make1 hb98 ho98
        refine ⟨st98.below, ?_⟩
        (try simp only [Act.put])
        (try simp only [List.getElem_toArray])
        (try simp only [List.getElem_cons_succ])
        (try simp only [List.getElem_cons_zero])
        (try simp only [List.setIfInBounds_toArray])
        (try simp only [List.set_cons_succ])
        (try simp only [List.set_cons_zero])
        refine wpAnyH_all (rs := [7, 8]) (by kernel_rfl) (by simp) (fun i hi => ?_)
        simp only [List.mem_cons, List.not_mem_nil, or_false] at hi
        rcases hi with rfl | rfl
        · unfold wpOp
          simp only [List.getElem?_toArray, List.getElem?_cons_succ, List.getElem?_cons_zero]
          rw [if_pos (by rfl)]
          left
          refine wp_mkrow _ rfl d (by omega) rfl fun y99 hb99 ho99 => ?_
          have st99 := st98.make2 hb99 ho99
          refine ⟨st99.below, ?_⟩
          (try simp only [Act.put])
          (try simp only [List.getElem_toArray])
          (try simp only [List.getElem_cons_succ])
          (try simp only [List.getElem_cons_zero])
          (try simp only [List.setIfInBounds_toArray])
          (try simp only [List.set_cons_succ])
          (try simp only [List.set_cons_zero])
          refine wpAnyH_all (rs := [8]) (by kernel_rfl) (by simp) (fun i hi => ?_)
          simp only [List.mem_cons, List.not_mem_nil, or_false] at hi
          subst hi
          unfold wpOp
          simp only [List.getElem?_toArray, List.getElem?_cons_succ, List.getElem?_cons_zero]
          rw [if_pos (by rfl)]
          left
          unfold Oper.wp
          go_simp
          have st100 := st99.alloc1
          refine ⟨st100.below, ?_⟩
          obtain ⟨y100, hy100⟩ : ∃ y, y = y99.alloc (.cells #[.slice none 0 0] TI) := ⟨_, rfl⟩
          rw [← hy100] at st100 ⊢
          clear hy100
          refine wpAnyH_all (rs := [10]) (by kernel_rfl) (by simp) (fun i hi => ?_)
          simp only [List.mem_cons, List.not_mem_nil, or_false] at hi
          subst hi
          unfold wpOp
          simp only [List.getElem?_toArray, List.getElem?_cons_succ, List.getElem?_cons_zero]
          rw [if_pos (by rfl)]
          left
          have c101 := (st100.g1 _ rfl).cell
          have f101 := (st100.g1 _ rfl).frozen
          unfold Oper.wp
          go_simp
          have st101 := st100.store1
          refine ⟨st101.below, ?_⟩
          clear c101 f101
          obtain ⟨y101, hy101⟩ : ∃ y, y = y100.setCell ⟨y99.heap.size, 0, none⟩ (rowV (y97.heap.size) q) := ⟨_, rfl⟩
          rw [← hy101] at st101 ⊢
          clear hy101
          refine wpAnyH_all (rs := [11]) (by kernel_rfl) (by simp) (fun i hi => ?_)
          simp only [List.mem_cons, List.not_mem_nil, or_false] at hi
          subst hi
          unfold wpOp
          simp only [List.getElem?_toArray, List.getElem?_cons_succ, List.getElem?_cons_zero]
          rw [if_pos (by rfl)]
          left
          have c102 := (st101.g2 _ rfl).cell
          have f102 := (st101.g2 _ rfl).frozen
          unfold Oper.wp
          go_simp
          have st102 := st101.store2
          refine ⟨st102.1, ?_⟩
          clear c102 f102
          obtain ⟨y102, hy102⟩ : ∃ y, y = y101.setCell ⟨Y0.heap.size, 0, none⟩ (rowV (y98.heap.size) d) := ⟨_, rfl⟩
          rw [← hy102] at st102 ⊢
          clear hy102
          exact wpAnyH_done (by kernel_rfl) ⟨rfl, y97.heap.size, y98.heap.size, y99.heap.size, Y0.heap.size, st102, rfl⟩ _
        · unfold wpOp
          simp only [List.getElem?_toArray, List.getElem?_cons_succ, List.getElem?_cons_zero]
          rw [if_pos (by rfl)]
          left
          unfold Oper.wp
          go_simp
          have st103 := st98.alloc1
          refine ⟨st103.below, ?_⟩
          obtain ⟨y103, hy103⟩ : ∃ y, y = y98.alloc (.cells #[.slice none 0 0] TI) := ⟨_, rfl⟩
          rw [← hy103] at st103 ⊢
          clear hy103
          refine wpAnyH_all (rs := [7, 10]) (by kernel_rfl) (by simp) (fun i hi => ?_)
          simp only [List.mem_cons, List.not_mem_nil, or_false] at hi
          rcases hi with rfl | rfl
          · unfold wpOp
            simp only [List.getElem?_toArray, List.getElem?_cons_succ, List.getElem?_cons_zero]
            rw [if_pos (by rfl)]
            left
            refine wp_mkrow _ rfl d (by omega) rfl fun y104 hb104 ho104 => ?_
            have st104 := st103.make2 hb104 ho104
            refine ⟨st104.below, ?_⟩
            (try simp only [Act.put])
            (try simp only [List.getElem_toArray])
            (try simp only [List.getElem_cons_succ])
            (try simp only [List.getElem_cons_zero])
            (try simp only [List.setIfInBounds_toArray])
            (try simp only [List.set_cons_succ])
            (try simp only [List.set_cons_zero])
            refine wpAnyH_all (rs := [10]) (by kernel_rfl) (by simp) (fun i hi => ?_)
            simp only [List.mem_cons, List.not_mem_nil, or_false] at hi
            subst hi
            unfold wpOp
            simp only [List.getElem?_toArray, List.getElem?_cons_succ, List.getElem?_cons_zero]
            rw [if_pos (by rfl)]
            left
            have c105 := (st104.g1 _ rfl).cell
            have f105 := (st104.g1 _ rfl).frozen
            unfold Oper.wp
            go_simp
            have st105 := st104.store1
            refine ⟨st105.below, ?_⟩
            clear c105 f105
            obtain ⟨y105, hy105⟩ : ∃ y, y = y104.setCell ⟨y98.heap.size, 0, none⟩ (rowV (y97.heap.size) q) := ⟨_, rfl⟩
            rw [← hy105] at st105 ⊢
            clear hy105
            refine wpAnyH_all (rs := [11]) (by kernel_rfl) (by simp) (fun i hi => ?_)
            simp only [List.mem_cons, List.not_mem_nil, or_false] at hi
            subst hi
            unfold wpOp
            simp only [List.getElem?_toArray, List.getElem?_cons_succ, List.getElem?_cons_zero]
            rw [if_pos (by rfl)]
            left
            have c106 := (st105.g2 _ rfl).cell
            have f106 := (st105.g2 _ rfl).frozen
            unfold Oper.wp
            go_simp
            have st106 := st105.store2
            refine ⟨st106.1, ?_⟩
            clear c106 f106
            obtain ⟨y106, hy106⟩ : ∃ y, y = y105.setCell ⟨Y0.heap.size, 0, none⟩ (rowV (y103.heap.size) d) := ⟨_, rfl⟩
            rw [← hy106] at st106 ⊢
            clear hy106
            exact wpAnyH_done (by kernel_rfl) ⟨rfl, y97.heap.size, y103.heap.size, y98.heap.size, Y0.heap.size, st106, rfl⟩ _
          · unfold wpOp
            simp only [List.getElem?_toArray, List.getElem?_cons_succ, List.getElem?_cons_zero]
            rw [if_pos (by rfl)]
            left
            have c107 := (st103.g1 _ rfl).cell
            have f107 := (st103.g1 _ rfl).frozen
            unfold Oper.wp
            go_simp
            have st107 := st103.store1
            refine ⟨st107.below, ?_⟩
            clear c107 f107
            obtain ⟨y107, hy107⟩ : ∃ y, y = y103.setCell ⟨y98.heap.size, 0, none⟩ (rowV (y97.heap.size) q) := ⟨_, rfl⟩
            rw [← hy107] at st107 ⊢
            clear hy107
            refine wpAnyH_all (rs := [7]) (by kernel_rfl) (by simp) (fun i hi => ?_)
            simp only [List.mem_cons, List.not_mem_nil, or_false] at hi
            subst hi
            unfold wpOp
            simp only [List.getElem?_toArray, List.getElem?_cons_succ, List.getElem?_cons_zero]
            rw [if_pos (by rfl)]
            left
            refine wp_mkrow _ rfl d (by omega) rfl fun y108 hb108 ho108 => ?_
            have st108 := st107.make2 hb108 ho108
            refine ⟨st108.below, ?_⟩
            (try simp only [Act.put])
            (try simp only [List.getElem_toArray])
            (try simp only [List.getElem_cons_succ])
            (try simp only [List.getElem_cons_zero])
            (try simp only [List.setIfInBounds_toArray])
            (try simp only [List.set_cons_succ])
            (try simp only [List.set_cons_zero])
            refine wpAnyH_all (rs := [11]) (by kernel_rfl) (by simp) (fun i hi => ?_)
            simp only [List.mem_cons, List.not_mem_nil, or_false] at hi
            subst hi
            unfold wpOp
            simp only [List.getElem?_toArray, List.getElem?_cons_succ, List.getElem?_cons_zero]
            rw [if_pos (by rfl)]
            left
            have c109 := (st108.g2 _ rfl).cell
            have f109 := (st108.g2 _ rfl).frozen
            unfold Oper.wp
            go_simp
            have st109 := st108.store2
            refine ⟨st109.1, ?_⟩
            clear c109 f109
            obtain ⟨y109, hy109⟩ : ∃ y, y = y108.setCell ⟨Y0.heap.size, 0, none⟩ (rowV (y107.heap.size) d) := ⟨_, rfl⟩
            rw [← hy109] at st109 ⊢
            clear hy109
            exact wpAnyH_done (by kernel_rfl) ⟨rfl, y97.heap.size, y107.heap.size, y98.heap.size, Y0.heap.size, st109, rfl⟩ _
      · unfold wpOp
        simp only [List.getElem?_toArray, List.getElem?_cons_succ, List.getElem?_cons_zero]
        rw [if_pos (by rfl)]
        left
        refine wp_mkrow _ rfl d (by omega) rfl fun y110 hb110 ho110 => ?_
        have st110 := st97.make2 hb110 ho110
        refine ⟨st110.below, ?_⟩
        (try simp only [Act.put])
        (try simp only [List.getElem_toArray])
        (try simp only [List.getElem_cons_succ])
        (try simp only [List.getElem_cons_zero])
        (try simp only [List.setIfInBounds_toArray])
        (try simp only [List.set_cons_succ])
        (try simp only [List.set_cons_zero])
        refine wpAnyH_all (rs := [3, 8]) (by kernel_rfl) (by simp) (fun i hi => ?_)
        simp only [List.mem_cons, List.not_mem_nil, or_false] at hi
        rcases hi with rfl | rfl
        · unfold wpOp
          simp only [List.getElem?_toArray, List.getElem?_cons_succ, List.getElem?_cons_zero]
          rw [if_pos (by rfl)]
          left
          refine wp_mkrow _ rfl q (by omega) rfl fun y111 hb111 ho111 => ?_
          have st111 := st110.make1 hb111 ho111
          refine ⟨st111.below, ?_⟩
          (try simp only [Act.put])
          (try simp only [List.getElem_toArray])
          (try simp only [List.getElem_cons_succ])
          (try simp only [List.getElem_cons_zero])
          (try simp only [List.setIfInBounds_toArray])
          (try simp only [List.set_cons_succ])
          (try simp only [List.set_cons_zero])
          refine wpAnyH_all (rs := [8]) (by kernel_rfl) (by simp) (fun i hi => ?_)
          simp only [List.mem_cons, List.not_mem_nil, or_false] at hi
          subst hi
          unfold wpOp
          simp only [List.getElem?_toArray, List.getElem?_cons_succ, List.getElem?_cons_zero]
          rw [if_pos (by rfl)]
          left
          unfold Oper.wp
          go_simp
          have st112 := st111.alloc1
          refine ⟨st112.below, ?_⟩
          obtain ⟨y112, hy112⟩ : ∃ y, y = y111.alloc (.cells #[.slice none 0 0] TI) := ⟨_, rfl⟩
          rw [← hy112] at st112 ⊢
          clear hy112
          refine wpAnyH_all (rs := [10]) (by kernel_rfl) (by simp) (fun i hi => ?_)
          simp only [List.mem_cons, List.not_mem_nil, or_false] at hi
          subst hi
          unfold wpOp
          simp only [List.getElem?_toArray, List.getElem?_cons_succ, List.getElem?_cons_zero]
          rw [if_pos (by rfl)]
          left
          have c113 := (st112.g1 _ rfl).cell
          have f113 := (st112.g1 _ rfl).frozen
          unfold Oper.wp
          go_simp
          have st113 := st112.store1
          refine ⟨st113.below, ?_⟩
          clear c113 f113
          obtain ⟨y113, hy113⟩ : ∃ y, y = y112.setCell ⟨y111.heap.size, 0, none⟩ (rowV (y110.heap.size) q) := ⟨_, rfl⟩
          rw [← hy113] at st113 ⊢
          clear hy113
          refine wpAnyH_all (rs := [11]) (by kernel_rfl) (by simp) (fun i hi => ?_)
          simp only [List.mem_cons, List.not_mem_nil, or_false] at hi
          subst hi
          unfold wpOp
          simp only [List.getElem?_toArray, List.getElem?_cons_succ, List.getElem?_cons_zero]
          rw [if_pos (by rfl)]
          left
          have c114 := (st113.g2 _ rfl).cell
          have f114 := (st113.g2 _ rfl).frozen
          unfold Oper.wp
          go_simp
          have st114 := st113.store2
          refine ⟨st114.1, ?_⟩
          clear c114 f114
          obtain ⟨y114, hy114⟩ : ∃ y, y = y113.setCell ⟨Y0.heap.size, 0, none⟩ (rowV (y97.heap.size) d) := ⟨_, rfl⟩
          rw [← hy114] at st114 ⊢
          clear hy114
          exact wpAnyH_done (by kernel_rfl) ⟨rfl, y110.heap.size, y97.heap.size, y111.heap.size, Y0.heap.size, st114, rfl⟩ _
        · unfold wpOp
          simp only [List.getElem?_toArray, List.getElem?_cons_succ, List.getElem?_cons_zero]
          rw [if_pos (by rfl)]
          left
          unfold Oper.wp
          go_simp
          have st115 := st110.alloc1
          refine ⟨st115.below, ?_⟩
          obtain ⟨y115, hy115⟩ : ∃ y, y = y110.alloc (.cells #[.slice none 0 0] TI) := ⟨_, rfl⟩
          rw [← hy115] at st115 ⊢
          clear hy115
          refine wpAnyH_all (rs := [3]) (by kernel_rfl) (by simp) (fun i hi => ?_)
          simp only [List.mem_cons, List.not_mem_nil, or_false] at hi
          subst hi
          unfold wpOp
          simp only [List.getElem?_toArray, List.getElem?_cons_succ, List.getElem?_cons_zero]
          rw [if_pos (by rfl)]
          left
          refine wp_mkrow _ rfl q (by omega) rfl fun y116 hb116 ho116 => ?_
          have st116 := st115.make1 hb116 ho116
          refine ⟨st116.below, ?_⟩
          (try simp only [Act.put])
          (try simp only [List.getElem_toArray])
          (try simp only [List.getElem_cons_succ])
          (try simp only [List.getElem_cons_zero])
          (try simp only [List.setIfInBounds_toArray])
          (try simp only [List.set_cons_succ])
          (try simp only [List.set_cons_zero])
          refine wpAnyH_all (rs := [10]) (by kernel_rfl) (by simp) (fun i hi => ?_)
          simp only [List.mem_cons, List.not_mem_nil, or_false] at hi
          subst hi
          unfold wpOp
          simp only [List.getElem?_toArray, List.getElem?_cons_succ, List.getElem?_cons_zero]
          rw [if_pos (by rfl)]
          left
          have c117 := (st116.g1 _ rfl).cell
          have f117 := (st116.g1 _ rfl).frozen
          unfold Oper.wp
          go_simp
          have st117 := st116.store1
          refine ⟨st117.below, ?_⟩
          clear c117 f117
          obtain ⟨y117, hy117⟩ : ∃ y, y = y116.setCell ⟨y110.heap.size, 0, none⟩ (rowV (y115.heap.size) q) := ⟨_, rfl⟩
          rw [← hy117] at st117 ⊢
          clear hy117
          refine wpAnyH_all (rs := [11]) (by kernel_rfl) (by simp) (fun i hi => ?_)
          simp only [List.mem_cons, List.not_mem_nil, or_false] at hi
          subst hi
          unfold wpOp
          simp only [List.getElem?_toArray, List.getElem?_cons_succ, List.getElem?_cons_zero]
          rw [if_pos (by rfl)]
          left
          have c118 := (st117.g2 _ rfl).cell
          have f118 := (st117.g2 _ rfl).frozen
          unfold Oper.wp
          go_simp
          have st118 := st117.store2
          refine ⟨st118.1, ?_⟩
          clear c118 f118
          obtain ⟨y118, hy118⟩ : ∃ y, y = y117.setCell ⟨Y0.heap.size, 0, none⟩ (rowV (y97.heap.size) d) := ⟨_, rfl⟩
          rw [← hy118] at st118 ⊢
          clear hy118
          exact wpAnyH_done (by kernel_rfl) ⟨rfl, y115.heap.size, y97.heap.size, y110.heap.size, Y0.heap.size, st118, rfl⟩ _
      · unfold wpOp
        simp only [List.getElem?_toArray, List.getElem?_cons_succ, List.getElem?_cons_zero]
        rw [if_pos (by rfl)]
        left
        unfold Oper.wp
        go_simp
        have st119 := st97.alloc1
        refine ⟨st119.below, ?_⟩
        obtain ⟨y119, hy119⟩ : ∃ y, y = y97.alloc (.cells #[.slice none 0 0] TI) := ⟨_, rfl⟩
        rw [← hy119] at st119 ⊢
        clear hy119
        refine wpAnyH_all (rs := [3, 7]) (by kernel_rfl) (by simp) (fun i hi => ?_)
        simp only [List.mem_cons, List.not_mem_nil, or_false] at hi
        rcases hi with rfl | rfl
        · unfold wpOp
          simp only [List.getElem?_toArray, List.getElem?_cons_succ, List.getElem?_cons_zero]
          rw [if_pos (by rfl)]
          left
          refine wp_mkrow _ rfl q (by omega) rfl fun y120 hb120 ho120 => ?_
          have st120 := st119.make1 hb120 ho120
          refine ⟨st120.below, ?_⟩
          (try simp only [Act.put])
          (try simp only [List.getElem_toArray])
          (try simp only [List.getElem_cons_succ])
          (try simp only [List.getElem_cons_zero])
          (try simp only [List.setIfInBounds_toArray])
          (try simp only [List.set_cons_succ])
          (try simp only [List.set_cons_zero])
          refine wpAnyH_all (rs := [7, 10]) (by kernel_rfl) (by simp) (fun i hi => ?_)
          simp only [List.mem_cons, List.not_mem_nil, or_false] at hi
          rcases hi with rfl | rfl
          · unfold wpOp
            simp only [List.getElem?_toArray, List.getElem?_cons_succ, List.getElem?_cons_zero]
            rw [if_pos (by rfl)]
            left
            refine wp_mkrow _ rfl d (by omega) rfl fun y121 hb121 ho121 => ?_
            have st121 := st120.make2 hb121 ho121
            refine ⟨st121.below, ?_⟩
            (try simp only [Act.put])
            (try simp only [List.getElem_toArray])
            (try simp only [List.getElem_cons_succ])
            (try simp only [List.getElem_cons_zero])
            (try simp only [List.setIfInBounds_toArray])
            (try simp only [List.set_cons_succ])
            (try simp only [List.set_cons_zero])
            refine wpAnyH_all (rs := [10]) (by kernel_rfl) (by simp) (fun i hi => ?_)
            simp only [List.mem_cons, List.not_mem_nil, or_false] at hi
            subst hi
            unfold wpOp
            simp only [List.getElem?_toArray, List.getElem?_cons_succ, List.getElem?_cons_zero]
            rw [if_pos (by rfl)]
            left
            have c122 := (st121.g1 _ rfl).cell
            have f122 := (st121.g1 _ rfl).frozen
            unfold Oper.wp
            go_simp
            have st122 := st121.store1
            refine ⟨st122.below, ?_⟩
            clear c122 f122
            obtain ⟨y122, hy122⟩ : ∃ y, y = y121.setCell ⟨y97.heap.size, 0, none⟩ (rowV (y119.heap.size) q) := ⟨_, rfl⟩
            rw [← hy122] at st122 ⊢
            clear hy122
            refine wpAnyH_all (rs := [11]) (by kernel_rfl) (by simp) (fun i hi => ?_)
            simp only [List.mem_cons, List.not_mem_nil, or_false] at hi
            subst hi
            unfold wpOp
            simp only [List.getElem?_toArray, List.getElem?_cons_succ, List.getElem?_cons_zero]
            rw [if_pos (by rfl)]
            left
            have c123 := (st122.g2 _ rfl).cell
            have f123 := (st122.g2 _ rfl).frozen
            unfold Oper.wp
            go_simp
            have st123 := st122.store2
            refine ⟨st123.1, ?_⟩
            clear c123 f123
            obtain ⟨y123, hy123⟩ : ∃ y, y = y122.setCell ⟨Y0.heap.size, 0, none⟩ (rowV (y120.heap.size) d) := ⟨_, rfl⟩
            rw [← hy123] at st123 ⊢
            clear hy123
            exact wpAnyH_done (by kernel_rfl) ⟨rfl, y119.heap.size, y120.heap.size, y97.heap.size, Y0.heap.size, st123, rfl⟩ _
          · unfold wpOp
            simp only [List.getElem?_toArray, List.getElem?_cons_succ, List.getElem?_cons_zero]
            rw [if_pos (by rfl)]
            left
            have c124 := (st120.g1 _ rfl).cell
            have f124 := (st120.g1 _ rfl).frozen
            unfold Oper.wp
            go_simp
            have st124 := st120.store1
            refine ⟨st124.below, ?_⟩
            clear c124 f124
            obtain ⟨y124, hy124⟩ : ∃ y, y = y120.setCell ⟨y97.heap.size, 0, none⟩ (rowV (y119.heap.size) q) := ⟨_, rfl⟩
            rw [← hy124] at st124 ⊢
            clear hy124
            refine wpAnyH_all (rs := [7]) (by kernel_rfl) (by simp) (fun i hi => ?_)
            simp only [List.mem_cons, List.not_mem_nil, or_false] at hi
            subst hi
            unfold wpOp
            simp only [List.getElem?_toArray, List.getElem?_cons_succ, List.getElem?_cons_zero]
            rw [if_pos (by rfl)]
            left
            refine wp_mkrow _ rfl d (by omega) rfl fun y125 hb125 ho125 => ?_
            have st125 := st124.make2 hb125 ho125
            refine ⟨st125.below, ?_⟩
            (try simp only [Act.put])
            (try simp only [List.getElem_toArray])
            (try simp only [List.getElem_cons_succ])
            (try simp only [List.getElem_cons_zero])
            (try simp only [List.setIfInBounds_toArray])
            (try simp only [List.set_cons_succ])
            (try simp only [List.set_cons_zero])
            refine wpAnyH_all (rs := [11]) (by kernel_rfl) (by simp) (fun i hi => ?_)
            simp only [List.mem_cons, List.not_mem_nil, or_false] at hi
            subst hi
            unfold wpOp
            simp only [List.getElem?_toArray, List.getElem?_cons_succ, List.getElem?_cons_zero]
            rw [if_pos (by rfl)]
            left
            have c126 := (st125.g2 _ rfl).cell
            have f126 := (st125.g2 _ rfl).frozen
            unfold Oper.wp
            go_simp
            have st126 := st125.store2
            refine ⟨st126.1, ?_⟩
            clear c126 f126
            obtain ⟨y126, hy126⟩ : ∃ y, y = y125.setCell ⟨Y0.heap.size, 0, none⟩ (rowV (y124.heap.size) d) := ⟨_, rfl⟩
            rw [← hy126] at st126 ⊢
            clear hy126
            exact wpAnyH_done (by kernel_rfl) ⟨rfl, y119.heap.size, y124.heap.size, y97.heap.size, Y0.heap.size, st126, rfl⟩ _
        · unfold wpOp
          simp only [List.getElem?_toArray, List.getElem?_cons_succ, List.getElem?_cons_zero]
          rw [if_pos (by rfl)]
          left
          refine wp_mkrow _ rfl d (by omega) rfl fun y127 hb127 ho127 => ?_
          have st127 := st119.make2 hb127 ho127
          refine ⟨st127.below, ?_⟩
          (try simp only [Act.put])
          (try simp only [List.getElem_toArray])
          (try simp only [List.getElem_cons_succ])
          (try simp only [List.getElem_cons_zero])
          (try simp only [List.setIfInBounds_toArray])
          (try simp only [List.set_cons_succ])
          (try simp only [List.set_cons_zero])
          refine wpAnyH_all (rs := [3]) (by kernel_rfl) (by simp) (fun i hi => ?_)
          simp only [List.mem_cons, List.not_mem_nil, or_false] at hi
          subst hi
          unfold wpOp
          simp only [List.getElem?_toArray, List.getElem?_cons_succ, List.getElem?_cons_zero]
          rw [if_pos (by rfl)]
          left
          refine wp_mkrow _ rfl q (by omega) rfl fun y128 hb128 ho128 => ?_
          have st128 := st127.make1 hb128 ho128
          refine ⟨st128.below, ?_⟩
          (try simp only [Act.put])
          (try simp only [List.getElem_toArray])
          (try simp only [List.getElem_cons_succ])
          (try simp only [List.getElem_cons_zero])
          (try simp only [List.setIfInBounds_toArray])
          (try simp only [List.set_cons_succ])
          (try simp only [List.set_cons_zero])
          refine wpAnyH_all (rs := [10]) (by kernel_rfl) (by simp) (fun i hi => ?_)
          simp only [List.mem_cons, List.not_mem_nil, or_false] at hi
          subst hi
          unfold wpOp
          simp only [List.getElem?_toArray, List.getElem?_cons_succ, List.getElem?_cons_zero]
          rw [if_pos (by rfl)]
          left
          have c129 := (st128.g1 _ rfl).cell
          have f129 := (st128.g1 _ rfl).frozen
          unfold Oper.wp
          go_simp
          have st129 := st128.store1
          refine ⟨st129.below, ?_⟩
          clear c129 f129
          obtain ⟨y129, hy129⟩ : ∃ y, y = y128.setCell ⟨y97.heap.size, 0, none⟩ (rowV (y127.heap.size) q) := ⟨_, rfl⟩
          rw [← hy129] at st129 ⊢
          clear hy129
          refine wpAnyH_all (rs := [11]) (by kernel_rfl) (by simp) (fun i hi => ?_)
          simp only [List.mem_cons, List.not_mem_nil, or_false] at hi
          subst hi
          unfold wpOp
          simp only [List.getElem?_toArray, List.getElem?_cons_succ, List.getElem?_cons_zero]
          rw [if_pos (by rfl)]
          left
          have c130 := (st129.g2 _ rfl).cell
          have f130 := (st129.g2 _ rfl).frozen
          unfold Oper.wp
          go_simp
          have st130 := st129.store2
          refine ⟨st130.1, ?_⟩
          clear c130 f130
          obtain ⟨y130, hy130⟩ : ∃ y, y = y129.setCell ⟨Y0.heap.size, 0, none⟩ (rowV (y119.heap.size) d) := ⟨_, rfl⟩
          rw [← hy130] at st130 ⊢
          clear hy130
          exact wpAnyH_done (by kernel_rfl) ⟨rfl, y127.heap.size, y119.heap.size, y97.heap.size, Y0.heap.size, st130, rfl⟩ _
  case main =>
    rintro ⟨B1, B2, P1, P2⟩ y ⟨hby, ho1, ho2, hx1, hx2, n12, nP, n1p, n1r, n2p, n2r, hP1, hP2⟩
    dsimp only at ho1 ho2 hx1 hx2 n12 nP n1p n1r n2p n2r hP1 hP2 ⊢
    have hy0 := hby.size
    obtain ⟨W5, hW5, b5, hz5, k5⟩ := one_blk y #[.int .i64 q, .int .i64 d] TG
    have HW5 := Lib.hid hW5.symm
    obtain ⟨x0, x1, _, _, _, _⟩ := blkG3 (HKA.out y hby)
    gi_wp2_with fail
    refine ⟨trivial, ?_⟩
    refine (callsIn_wide.2 (iPlaces_any q d _)).mono ?_
    rintro e w3 ⟨rfl, rfl⟩
    clear x0 x1
    gi_wp2
    rw [HW5.out]
    have hlt5 : y.heap.size < W5.heap.size := by omega
    have hxx := hby.trans (b5.mono hy0)
    have k4 := HKA.out W5 hxx
    have HB5 := Lib.hid (show Below w.heap.size w W5 from HBa.out.trans (hxx.mono HBa.out.size))
    have HBW := Lib.hid (show ∀ X, Below w.heap.size w X → Below w.heap.size w X from fun X h => h)
    have hB1 := (ho1.ob B1 rfl).1
    have hB2 := (ho2.ob B2 rfl).1
    have hB1y := (ho1.ob B1 rfl).2
    have hB2y := (ho2.ob B2 rfl).2
    have hP1y := hx1.lt
    have hP2y := hx2.lt
    have HCB := Lib.hid (show ∀ x : Pc q d, 0 ≤ cellP t x ∧ cellP t x ≤ 396 by
      have := HQ.out; have := HD.out; subst q d; exact HCC.out)
    have hN : (plc q d).length ≤ 16 := by rw [plc_len]; exact Nat.mul_le_mul hp.1.2 hp.2.2
    have HO1 := Lib.hid (show Own1 TN W5 wa.heap.size (rowV B1 q) (icells (vec q (rsP t ([] : List (Pc q d))))) by
      have e : vec q (rsP t ([] : List (Pc q d))) = zrow q := by rw [zrow_vec]; rfl
      rw [e]; exact ho1.below b5)
    have HO2 := Lib.hid (show Own1 TN W5 wa.heap.size (rowV B2 d) (icells (vec d (csP t ([] : List (Pc q d))))) by
      have e : vec d (csP t ([] : List (Pc q d))) = zrow d := by rw [zrow_vec]; rfl
      rw [e]; exact ho2.below b5)
    have HX1 := Lib.hid (show Boxed W5 P1 TI (rowV B1 q) from (b5.block P1 hP1y).trans hx1)
    have HX2 := Lib.hid (show Boxed W5 P2 TI (rowV B2 d) from (b5.block P2 hP2y).trans hx2)
    clear hxx hW5 hz5 b5 ho1 ho2 hx1 hx2 hby
    refine' wpIn_rangeFunc_ownG (α := Pc q d) rfl (by omega) (gf := 56) (lb := #[.pointer (some ⟨y.heap.size, 0, none⟩)]) rfl trivial (enters_of Try.func56 (by kernel_rfl) rfl)
      (places_stops 5 (by omega) y.heap.size q d (by omega) (by omega) W5 (by omega) k5) kB_t (kB_b hlt5) (Below.refl _ _) (fun _ => rfl)
      (fun pre X => (((((Own1 TN X wa.heap.size (rowV B1 q) (icells (vec q (rsP t pre))) ∧ Own1 TN X wa.heap.size (rowV B2 d) (icells (vec d (csP t pre)))) ∧ Boxed X P1 TI (rowV B1 q)) ∧ Boxed X P2 TI (rowV B2 d)) ∧ X.heap[w.heap.size]? = some (.cells #[.int .i64 q, .int .i64 d, .slice (some ⟨b, o, none⟩) q c] TGI (0, 0)))) ∧ Below w.heap.size w X)
      (fun _ _ _ => False)
      (OwnFrom.and (OwnFrom.and (OwnFrom.and (OwnFrom.and (OwnFrom.and (Own1.from_ _ (by omega)) (Own1.from_ _ (by omega))) cells_from) cells_from) cells_from) (ownFrom_below (Nat.le_refl _) (by omega)))
      (fun _ _ _ _ _ hs _ _ => hs)
      ⟨⟨⟨⟨⟨HO1.out, HO2.out⟩, HX1.out⟩, HX2.out⟩, k4⟩, HB5.out⟩
      _ ?assign ?body ?done ?stop
    case assign =>
      intro l x X K hK
      gi_wp2
      exact hK
    case body =>
      rintro l pre ⟨⟨i, hi⟩, ⟨j, hj⟩⟩ X ⟨⟨⟨⟨⟨ho1, ho2⟩, hx1⟩, hx2⟩, hgr⟩, hbX⟩ hlen
      have hwX := HBW.out X hbX
      have hit : i < t.length := by rw [← HQ.out]; exact hi
      have hln : (t.getD i []).length = d := by rw [rect_row HRT.out hit, HD.out]
      obtain ⟨b', o', b2, o2, c3, hA, hb1, hc1, _, hb3, hc2⟩ := HR.out.cell2 (i := i) (j := j) hit (by rw [hln]; exact hj)
      injection hA with hA
      injection hA with g1 g3 _
      subst g1 g3
      have e1 := (hwX.cell (p := ⟨b, o + i, none⟩) hb1).trans hc1
      have e2 := (hwX.cell (p := ⟨b2, o2 + j, none⟩) hb3).trans hc2
      rw [hln] at e1
      have HST := Lib.hid (rsP_step t pre ((⟨i, hi⟩, ⟨j, hj⟩) : Pc q d))
      have HCT := Lib.hid (csP_step t pre ((⟨i, hi⟩, ⟨j, hj⟩) : Pc q d))
      have hbr := rsP_bd HCB.out i pre
      have hbc := csP_bd HCB.out j pre
      have hby2 := HCB.out (⟨i, hi⟩, ⟨j, hj⟩)
      have m0 := ho1.cellAt i (by rw [icells_len, vec_len]; exact hi)
      rw [vec_at _ _ hi] at m0
      have m1 := ho2.cellAt j (by rw [icells_len, vec_len]; exact hj)
      rw [vec_at _ _ hj] at m1
      dsimp only at HST HCT
      obtain ⟨yv, hy⟩ : ∃ y, (t.getD i []).getD j 0 = y := ⟨_, rfl⟩
      have hcy : cellP t ((⟨i, hi⟩, ⟨j, hj⟩) : Pc q d) = yv := hy
      obtain ⟨z1, hz1'⟩ : ∃ z, rsP t pre i = z := ⟨_, rfl⟩
      obtain ⟨z2, hz2'⟩ : ∃ z, csP t pre j = z := ⟨_, rfl⟩
      have HZZ := Lib.hid hz2'
      rw [hy] at e2
      rw [hcy, hz1'] at HST
      rw [hcy, hz2'] at HCT
      rw [hz1'] at hbr m0
      rw [hz2'] at hbc m1
      rw [hcy] at hby2
      have hwr1 : IntKind.i64.wrap (z1 + yv) = z1 + yv := by rw [IntKind.wrap_i64]; omega
      have hwr2 : IntKind.i64.wrap (z2 + yv) = z2 + yv := by rw [IntKind.wrap_i64]; omega
      obtain ⟨_, _, e0, _, _, _⟩ := blkG3 hgr
      have p1 := hx1.cell
      obtain ⟨m0c, m0f⟩ := m0
      obtain ⟨m1c, m1f⟩ := m1
      have hii : (i : Int) < (q : Int) := by omega
      have hji : (j : Int) < (d : Int) := by omega
      have HBX := Lib.hid hbX
      have HALL := Lib.hid (show ∀ Z : World, Z.heap = X.heap → (Own1 TN Z wa.heap.size (rowV B1 q) (icells (vec q (rsP t pre))) ∧ Own1 TN Z wa.heap.size (rowV B2 d) (icells (vec d (csP t pre))) ∧ Boxed Z P1 TI (rowV B1 q) ∧ Boxed Z P2 TI (rowV B2 d) ∧ Z.heap[w.heap.size]? = some (.cells #[.int .i64 q, .int .i64 d, .slice (some ⟨b, o, none⟩) q c] TGI (0, 0))) ∧
          Z.cell? ⟨b, o + i, none⟩ = some (.slice (some ⟨b2, o2, none⟩) d c3) ∧ Z.cell? ⟨b2, o2 + j, none⟩ = some (.int .i64 yv) from fun Z hZ =>
        ⟨⟨ho1.same fun k _ => by rw [hZ], ho2.same fun k _ => by rw [hZ], by unfold Boxed; rw [hZ]; exact hx1, by unfold Boxed; rw [hZ]; exact hx2, by rw [hZ]; exact hgr⟩, by have := e1; unfold World.cell? at this ⊢; rw [hZ]; exact this, by have := e2; unfold World.cell? at this ⊢; rw [hZ]; exact this⟩)
      have HTB := Lib.hid (show b < w.heap.size ∧ b2 < w.heap.size by omega)
      clear hc1 hc2 hln hlen hbX hwX hgr hb1 hb3 hy ho1 ho2 hx1 hx2 hcy hz1' hz2' hbr hbc hby2 m1c m1f
      gi_wp2
      refine region_still_round 13 (by kernel_rfl) (by kernel_rfl) (by kernel_rfl) ?_
      simp only [List.take_succ_cons, List.take_zero, List.drop_succ_cons, List.drop_zero]
      iterate 13 still_step
      refine wpStill_nil ?_
      change wpList _ _ _ _ _ X.drew
      obtain ⟨Z, hZ⟩ : ∃ Z, Z = X.drew := ⟨_, rfl⟩
      have zt : Z.cell? ⟨B1, i, none⟩ = some (.int .i64 z1) := by rw [hZ]; exact m0c
      have zf : Z.frozen? ⟨B1, i, none⟩ = false := by rw [hZ]; exact m0f
      obtain ⟨⟨ho1, ho2, hx1, hx2, hgr⟩, e1', e2'⟩ := HALL.out Z (by rw [hZ]; rfl)
      have HZB := Lib.hid (show Below w.heap.size w Z by rw [hZ]; exact HBX.out.drew)
      have HZ2 := Lib.hid (show KB y.heap.size X Z ∧ KeepsOthers X Z from by rw [hZ]; exact ⟨rfl, KeepsOthers.drew X⟩)
      rw [← hZ]
      clear hZ e0 p1 m0c m0f e1 e2
      have o1 := ho1.setAt i (.int .i64 (z1 + yv))
      rw [icells_set, HST.out] at o1
      have hne : ∀ k, k ≠ B1 → (Z.setCell ⟨B1, i, none⟩ (.int .i64 (z1 + yv))).heap[k]? = Z.heap[k]? := fun k hk => Below.heap_setCell Z ⟨B1, i, none⟩ _ k hk
      have htb := HTB.out
      have hy1 : ∀ k u, k ≠ B1 → (Z.setCell ⟨B1, i, none⟩ (.int .i64 (z1 + yv))).cell? ⟨k, u, none⟩ = Z.cell? ⟨k, u, none⟩ := fun k u hk => by unfold World.cell?; rw [hne k hk]
      obtain ⟨Z1, hZ1⟩ : ∃ Z1, Z1 = Z.setCell ⟨B1, i, none⟩ (.int .i64 (z1 + yv)) := ⟨_, rfl⟩
      have HZ1 := Lib.hid hZ1.symm
      rw [← hZ1] at o1
      have o2' : Own1 TN Z1 wa.heap.size (rowV B2 d) (icells (vec d (csP t pre))) := ho2.same fun k e => by
        have e2 : some B2 = some k := e
        injection e2 with e2
        rw [hZ1]; exact hne k (by omega)
      have x1' : Boxed Z1 P1 TI (rowV B1 q) := by unfold Boxed; rw [hZ1, hne P1 (by omega)]; exact hx1
      have x2' : Boxed Z1 P2 TI (rowV B2 d) := by unfold Boxed; rw [hZ1, hne P2 (by omega)]; exact hx2
      have gr' : Z1.heap[w.heap.size]? = some (.cells #[.int .i64 q, .int .i64 d, .slice (some ⟨b, o, none⟩) q c] TGI (0, 0)) := by rw [hZ1, hne _ (by omega)]; exact hgr
      have f1 : Z1.cell? ⟨b, o + i, none⟩ = some (.slice (some ⟨b2, o2, none⟩) d c3) := by rw [hZ1, hy1 b _ (by omega)]; exact e1'
      have f2 : Z1.cell? ⟨b2, o2 + j, none⟩ = some (.int .i64 yv) := by rw [hZ1, hy1 b2 _ (by omega)]; exact e2'
      have HZB1 := Lib.hid (show Below w.heap.size w Z1 by rw [hZ1]; exact HZB.out.setCell (p := ⟨B1, i, none⟩) (by show w.heap.size ≤ B1; omega) _)
      have HKZ := Lib.hid (show KB y.heap.size X Z1 ∧ KeepsOthers X Z1 from by rw [hZ1]; exact ⟨kB_t HZ2.out.1 (hne _ (by omega)), HZ2.out.2.trans (KeepsOthers.setCell Z _ _)⟩)
      obtain ⟨m1c, m1f⟩ := o2'.cellAt j (by rw [icells_len, vec_len]; exact hj)
      rw [vec_at _ _ hj] at m1c
      rw [HZZ.out] at m1c
      obtain ⟨_, _, e0, _, _, _⟩ := blkG3 gr'
      have p2 := x2'.cell
      have HX := Lib.hid (show ∀ T : World, T.heap = Z1.heap → (Own1 TN T wa.heap.size (rowV B1 q) (icells (vec q (rsP t (pre ++ [((⟨i, hi⟩, ⟨j, hj⟩) : Pc q d)])))) ∧ Own1 TN T wa.heap.size (rowV B2 d) (icells (vec d (csP t pre))) ∧ Boxed T P1 TI (rowV B1 q) ∧ Boxed T P2 TI (rowV B2 d) ∧ T.heap[w.heap.size]? = some (.cells #[.int .i64 q, .int .i64 d, .slice (some ⟨b, o, none⟩) q c] TGI (0, 0))) from fun T hT =>
        ⟨o1.same fun k _ => by rw [hT], o2'.same fun k _ => by rw [hT], by unfold Boxed; rw [hT]; exact x1', by unfold Boxed; rw [hT]; exact x2', by rw [hT]; exact gr'⟩)
      clear hZ1 o1 o2' x1' x2' gr' ho1 ho2 hx1 hx2 hgr e1' e2' hne hy1
      go_wp2
      rw [HZ1.out]
      clear zt zf hwr1
      gi_wp2
      refine region_still_round 13 (by kernel_rfl) (by kernel_rfl) (by kernel_rfl) ?_
      simp only [List.take_succ_cons, List.take_zero, List.drop_succ_cons, List.drop_zero]
      iterate 13 still_step
      refine wpStill_nil ?_
      change wpList _ _ _ _ _ Z1.drew
      obtain ⟨T, hT⟩ : ∃ T, T = Z1.drew := ⟨_, rfl⟩
      have tt : T.cell? ⟨B2, j, none⟩ = some (.int .i64 z2) := by rw [hT]; exact m1c
      have tf : T.frozen? ⟨B2, j, none⟩ = false := by rw [hT]; exact m1f
      obtain ⟨ho1, ho2, hx1, hx2, hgr⟩ := HX.out T (by rw [hT]; rfl)
      have HTB1 := Lib.hid (show Below w.heap.size w T by rw [hT]; exact HZB1.out.drew)
      have HKT := Lib.hid (show KB y.heap.size X T ∧ KeepsOthers X T from by rw [hT]; exact ⟨kB_t HKZ.out.1 rfl, HKZ.out.2.trans (KeepsOthers.drew Z1)⟩)
      rw [← hT]
      clear hT e0 p2 m1c m1f f1 f2
      have o2 := ho2.setAt j (.int .i64 (z2 + yv))
      rw [icells_set, HCT.out] at o2
      have hne : ∀ k, k ≠ B2 → (T.setCell ⟨B2, j, none⟩ (.int .i64 (z2 + yv))).heap[k]? = T.heap[k]? := fun k hk => Below.heap_setCell T ⟨B2, j, none⟩ _ k hk
      have HFIN := Lib.hid (show (((((Own1 TN (T.setCell ⟨B2, j, none⟩ (.int .i64 (z2 + yv))) wa.heap.size (rowV B1 q) (icells (vec q (rsP t (pre ++ [((⟨i, hi⟩, ⟨j, hj⟩) : Pc q d)])))) ∧ Own1 TN (T.setCell ⟨B2, j, none⟩ (.int .i64 (z2 + yv))) wa.heap.size (rowV B2 d) (icells (vec d (csP t (pre ++ [((⟨i, hi⟩, ⟨j, hj⟩) : Pc q d)]))))) ∧ Boxed (T.setCell ⟨B2, j, none⟩ (.int .i64 (z2 + yv))) P1 TI (rowV B1 q)) ∧ Boxed (T.setCell ⟨B2, j, none⟩ (.int .i64 (z2 + yv))) P2 TI (rowV B2 d)) ∧ (T.setCell ⟨B2, j, none⟩ (.int .i64 (z2 + yv))).heap[w.heap.size]? = some (.cells #[.int .i64 q, .int .i64 d, .slice (some ⟨b, o, none⟩) q c] TGI (0, 0))) ∧ Below w.heap.size w (T.setCell ⟨B2, j, none⟩ (.int .i64 (z2 + yv)))) ∧
          KeepsOthers X (T.setCell ⟨B2, j, none⟩ (.int .i64 (z2 + yv))) ∧ KB y.heap.size X (T.setCell ⟨B2, j, none⟩ (.int .i64 (z2 + yv))) from
        ⟨⟨⟨⟨⟨⟨ho1.same fun k e => by
          have e2 : some B1 = some k := e
          injection e2 with e2
          exact hne k (by omega), o2⟩, by unfold Boxed; rw [hne P1 (by omega)]; exact hx1⟩, by unfold Boxed; rw [hne P2 (by omega)]; exact hx2⟩, by rw [hne _ (by omega)]; exact hgr⟩, HTB1.out.setCell (p := ⟨B2, j, none⟩) (by show w.heap.size ≤ B2; omega) _⟩,
          HKT.out.2.trans (KeepsOthers.setCell T _ _), kB_t HKT.out.1 (hne _ (by omega))⟩)
      clear o2 hne ho1 ho2 hx1 hx2 hgr
      go_wp2
      exact ⟨HFIN.out.2.1.from _, HFIN.out.2.2, HFIN.out.1⟩
    case done =>
      rintro D ys X hD rfl ⟨⟨⟨⟨⟨ho1, ho2⟩, hx1⟩, hx2⟩, _⟩, hbX⟩ hK
      have e1 : vec q (rsP t (plc q d)) = rsum t := by
        have := HQ.out; have := HD.out; subst q d; exact rsP_all fun i hi => rect_row HRT.out hi
      have e2 : vec d (csP t (plc q d)) = csum t := by
        have := HQ.out; have := HD.out; subst q d; exact csP_all
      rw [e1] at ho1
      rw [e2] at ho2
      have c1 := hx1.cell
      have c2 := hx2.cell
      have HK := Lib.hid hK
      have HBX := Lib.hid hbX
      have HO1 := Lib.hid ho1
      have HO2 := Lib.hid ho2
      clear hK hbX e1 e2 ho1 ho2 hx1 hx2
      gi_wp2
      refine wpIn_wide.2 ?_
      go_quiet (fail)
      gi_wp2
      refine ⟨by simp, .inl ⟨_, _, rfl, run_takeDeferred (show (X.drewN nq).heap[D]? = some (.deferred (some [])) from HK.out), ?_⟩⟩
      have hh : ∀ k, k ≠ D → ((X.drewN nq).putObj D (.deferred none)).heap[k]? = X.heap[k]? := fun k hk => World.putObj_heap_other hk
      refine ⟨_, results_tmp2 rfl _ _ _, _, _, rfl, ?_, ?_, ?_, ?_⟩
      · exact ((HO1.out.same fun k e => hh k (by
          have e2 : some B1 = some k := e
          injection e2 with e2; omega)).less (by omega)).inI
      · exact ((HO2.out.same fun k e => hh k (by
          have e2 : some B2 = some k := e
          injection e2 with e2; omega)).less (by omega)).inI
      · intro k e e2
        have h1 : some B1 = some k := e
        have h2 : some B2 = some k := e2
        rw [← h1] at h2; injection h2 with h2; omega
      · exact (below_draws (HBW.out X HBX.out) nq).trans (belowK_b (w := w) (Nat.le_refl _) _ D _ _ (by omega) (show (X.drewN nq).heap[D]? = some (.deferred (some [])) from HK.out) rfl rfl)
    case stop =>
      rintro D c pre X hD _ h _
      exact h.elim
set_option maxRecDepth 100000 in
set_option maxHeartbeats 1000000 in
theorem iSums_is (W : World) (t : Tb) (v : Value) (hv : IsR W v t) (r s : List Int) (g : Bool) (hr : rsumI t = r) (hs : csumI t = s) (hg : tabOk t = g) (w : World) (hb : Below W.heap.size W w) :
    Calls Try.prog 25 #[v] w (OutS r s g w) := by
  have HV := Lib.hid (hv.below hb)
  have HRS := Lib.hid hr
  have HCS := Lib.hid hs
  have HRR := Lib.hid hg
  clear hv hg hr hs hb
  go_enter Try.func25, Try.ntmps25
  go_wp2_with fail
  refine (iTGrid_is w t _ HV.out g HRR.out _ (Below.refl _ _)).mono ?_
  rintro e w1 ⟨rfl, b1⟩
  have HB1 := Lib.hid b1
  have hz1 := b1.size
  cases g
  · rw [gridV_no]
    have HE := Lib.hid (show r = [] by rw [← HRS.out, rsumI, HRR.out]; rfl)
    have HE2 := Lib.hid (show s = [] by rw [← HCS.out, csumI, HRR.out]; rfl)
    obtain ⟨wz, hwz, bz, hzz, _⟩ := one_blk w1 #[.int .i64 0, .int .i64 0, .slice none 0 0] TGI
    have HWZ := Lib.hid hwz.symm
    have hzw : w.heap.size ≤ wz.heap.size := by omega
    have HO := Lib.hid (show InI ((wz.alloc (.cells #[] TN)).alloc (.cells #[] TN)) w.heap.size ((wz.alloc (.cells #[] TN)).alloc (.cells #[] TN)).heap.size (.slice (some ⟨w1.heap.size + 1, 0, none⟩) 0 0) [] by
      have h : InI ((wz.alloc (.cells #[] TN)).alloc (.cells #[] TN)) w.heap.size ((wz.alloc (.cells #[] TN)).alloc (.cells #[] TN)).heap.size (.slice (some ⟨wz.heap.size, 0, none⟩) 0 0) [] := ((own1_new (T := TN) hzw).alloc (.cells #[] TN)).inI
      rw [hzz] at h; exact h)
    have HO2 := Lib.hid (show InI ((wz.alloc (.cells #[] TN)).alloc (.cells #[] TN)) w.heap.size ((wz.alloc (.cells #[] TN)).alloc (.cells #[] TN)).heap.size (.slice (some ⟨w1.heap.size + 1 + 1, 0, none⟩) 0 0) [] by
      have h := own1_new (T := TN) (w := wz.alloc (.cells #[] TN)) (B := w.heap.size) (by simp; omega)
      have e : (wz.alloc (.cells #[] TN)).heap.size = w1.heap.size + 1 + 1 := by simp; omega
      rw [e] at h
      exact h.inI)
    have HBZ := Lib.hid (show Below w.heap.size w ((wz.alloc (.cells #[] TN)).alloc (.cells #[] TN)) from (((b1.trans (bz.mono hz1)).alloc hzw _).alloc (by simp; omega) _))
    clear hwz bz hzz hzw
    go_wp2
    rw [HWZ.out]
    refine bodyPost_ret (results_tmp3 rfl _ _ _) rfl ?_
    refine ⟨_, _, rfl, by rw [HE.out]; exact HO.out, by rw [HE2.out]; exact HO2.out, fun k e e2 => ?_, HBZ.out⟩
    have h1 : some (w1.heap.size + 1) = some k := e
    have h2 : some (w1.heap.size + 1 + 1) = some k := e2
    rw [← h1] at h2; injection h2 with h2; omega
  have HEr := Lib.hid (show r = rsum t by rw [← HRS.out, rsumI, if_pos HRR.out])
  have HEs := Lib.hid (show s = csum t by rw [← HCS.out, csumI, if_pos HRR.out])
  rw [gridV_yes]
  obtain ⟨wa, hwa, ba, hza, ka⟩ := one_blk w1 #[.int .i64 t.length, .int .i64 (wd t), v] TGI
  have HWa := Lib.hid hwa.symm
  have HBa := Lib.hid (b1.trans (ba.mono hz1))
  obtain ⟨x0, x1, x2, _, _, _⟩ := blkG3 ka
  have hzw : w.heap.size ≤ wa.heap.size := by omega
  clear hwa ba ka b1
  obtain ⟨A, c, rfl, _, _, _⟩ := id HV.out
  go_wp2_with fail
  rw [HWa.out]
  refine (iGSums_is wa t t.length (wd t) _ (HV.out.below HBa.out) rfl rfl (tab_rect HRR.out) fun x => by have := cellP_bd HRR.out x; omega).mono ?_
  rintro e w2 ⟨v1, v2, rfl, h1, h2, h3, h4⟩
  go_wp2
  refine bodyPost_ret (results_tmp3 rfl _ _ _) rfl ?_
  exact ⟨_, _, rfl, by rw [HEr.out]; exact h1.lower hzw, by rw [HEs.out]; exact h2.lower hzw, h3, HBa.out.trans (h4.mono hzw)⟩
end Go.Proofs.Ytkdffgcmnanniaa
