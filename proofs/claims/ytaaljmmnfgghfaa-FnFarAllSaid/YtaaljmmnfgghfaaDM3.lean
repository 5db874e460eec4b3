/- Diversity: the last laws. -/
import Derived.Test.YtaaljmmnfgghfaaDM2
namespace Go.Proofs.Ytaaljmmnfgghfaa
open Go.RowKit
section
variable {α : Type} [DecidableEq α]
theorem nb_flat {y : List (α × Int)} (h : ∀ q ∈ y, q.2 = 0) (a : α) : nb y a 0 = kn y a := by
  unfold nb kn
  refine congrArg List.length (List.filter_congr fun q hq => ?_)
  simp [h q hq]
theorem nb_flat0 {y : List (α × Int)} (h : ∀ q ∈ y, q.2 = 0) (a : α) {b : Int} (hb : b ≠ 0) : nb y a b = 0 := by
  unfold nb
  rw [List.length_eq_zero_iff, List.filter_eq_nil_iff]
  intro q hq
  have e : ¬ (0 : Int) = b := fun e => hb e.symm
  simp [h q hq, e]
omit [DecidableEq α] in
theorem tb_flat {y : List (α × Int)} (h : ∀ q ∈ y, q.2 = 0) : tb y 0 = y.length := by
  unfold tb
  rw [List.filter_eq_self.2 fun q hq => by simp [h q hq]]
omit [DecidableEq α] in
theorem tb_flat0 {y : List (α × Int)} (h : ∀ q ∈ y, q.2 = 0) {b : Int} (hb : b ≠ 0) : tb y b = 0 := by
  unfold tb
  rw [List.length_eq_zero_iff, List.filter_eq_nil_iff]
  intro q hq
  have e : ¬ (0 : Int) = b := fun e => hb e.symm
  simp [h q hq, e]
theorem dsz_flat {y : List (α × Int)} (h : ∀ q ∈ y, q.2 = 0) {a : α} (hk : 0 < kn y a) : dsz y a = 1 := by
  have e : (bnds.filter fun b => decide (0 < nb y a b)) = bnds.filter fun b => decide (b = 0) := List.filter_congr fun b _ => by
    by_cases hb : b = 0
    · subst hb; simp [nb_flat h, hk]
    · simp [nb_flat0 h a hb, hb]
  unfold dsz; rw [e]; rfl
theorem dfar_flat {y : List (α × Int)} (h : ∀ q ∈ y, q.2 = 0) (a : α) : dfar y a = 0 := by
  unfold dfar
  refine sum_zero _ _ fun b _ => ?_
  unfold dd
  by_cases hb : b = 0
  · subst hb; rw [nb_flat h, tb_flat h, Int.mul_comm]; omega
  · rw [nb_flat0 h a hb, tb_flat0 h hb]; omega
end
/-- Everybody's pay is 0. -/
def noPay (l : List Pn) : List Pn := l.map fun p => ⟨p.area, p.job, p.sex, 0⟩
theorem noPay_len (l : List Pn) : (noPay l).length = l.length := List.length_map ..
theorem noPay_ok {l : List Pn} (h : okL l = true) : okL (noPay l) = true := by
  refine okL_mk (by rw [noPay_len]; exact (okL_all h).1) fun p hp => ?_
  obtain ⟨q, hq, rfl⟩ := List.mem_map.1 hp
  have := okP_parts.1 (okL_mem h q hq)
  rw [okP_parts]; simp only; omega
theorem noPay_prs (l : List Pn) (ll : List (List Int)) (r : Rc) : ∀ q ∈ prsOf (noPay l) ll r, q.2 = 0 := fun q hq => by
  unfold prsOf prs recL noPay at hq
  rw [List.map_map, List.map_map, List.mem_map] at hq
  obtain ⟨p, _, rfl⟩ := hq
  rfl
/-- P77. -/
theorem m_dOne {l : List Pn} {ll : List (List Int)} {r : Rc} {k : Int} (h : 0 ≤ dsize l ll r k) : dsize (noPay l) ll r k = 1 ∧ dfarI (noPay l) ll r k = 0 ∧ 1 ≤ dsize l ll r k := by
  obtain ⟨hg, j, rfl, hj⟩ := dsize_in h
  obtain ⟨h1, h2⟩ := gr_parts.1 hg
  have hg2 : grOk (noPay l) ll r = true := gr_parts.2 ⟨noPay_ok h1, h2⟩
  have hj2 : j < (noPay l).length := by rw [noPay_len]; exact hj
  have a := noPay_prs l ll r
  have b := (dk_bd hg2 hj2).1
  refine ⟨?_, ?_, (m_diverse h).1⟩
  · rw [dsize_at hg2 hj2, dk, dsz_flat a]
    · rfl
    · have := dsz_kn (prsOf_bn hg2) (ky ll r (noPay l) j)
      unfold dk at b; omega
  · rw [dfarI_at hg2 hj2, fkr, dfar_flat a]; rfl
/-- The ladder that makes all areas one. -/
def oneL : List (List Int) := [[0, 0, 0, 0]]
def oneR : Rc := ⟨1, 1, 1⟩
theorem oneR_ok : rcOk oneL oneR = true := by decide
theorem one_rec {p : Pn} (h : okP p = true) : rec1 oneL oneR p = ⟨0, 0, 0, p.pay⟩ := by
  have := okP_parts.1 h
  obtain ⟨ar, jo, se, pa⟩ := p
  simp only at this
  have : ar = 0 ∨ ar = 1 ∨ ar = 2 ∨ ar = 3 := by omega
  rcases this with rfl | rfl | rfl | rfl <;> rfl
theorem one_prs {l : List Pn} (h : okL l = true) (ll : List (List Int)) (r : Rc) : prsOf l oneL oneR = (prsOf l ll r).map fun q => (((0, 0, 0) : Int × Int × Int), q.2) := by
  unfold prsOf prs recL
  rw [List.map_map, List.map_map, List.map_map]
  refine List.map_congr_left fun p hp => ?_
  simp only [Function.comp, one_rec (okL_mem h p hp)]; rfl
theorem one_ky {l : List Pn} (h : okL l = true) {k : Nat} (hk : k < l.length) : ky oneL oneR l k = (0, 0, 0) := by
  unfold ky
  rw [List.getD_eq_getElem?_getD, List.getElem?_eq_getElem hk, Option.getD_some, one_rec (okL_mem h _ (List.getElem_mem hk))]; rfl
/-- P81. -/
theorem m_farAll {l : List Pn} {ll : List (List Int)} {r : Rc} {k : Int} (h : 0 ≤ dfarI l ll r k) : dfarI l oneL oneR k = 0 ∧ dsize l ll r k ≤ dsize l oneL oneR k := by
  obtain ⟨hg, j, rfl, hj⟩ := dfarI_in h
  obtain ⟨h1, h2⟩ := gr_parts.1 hg
  have hg2 : grOk l oneL oneR = true := gr_parts.2 ⟨h1, oneR_ok⟩
  have hp := one_prs h1 ll r
  have hk := one_ky h1 hj
  rw [dfarI_at hg2 hj, dsize_at hg hj, dsize_at hg2 hj, fkr, dk, dk, hp, hk]
  constructor
  · rw [dfar_all]
    · rfl
    · unfold kn; rw [List.filter_eq_self.2 fun q hq => by obtain ⟨p, _, rfl⟩ := List.mem_map.1 hq; simp]
  · have := dsz_mono (y := prsOf l ll r) (z := (prsOf l ll r).map fun q => (((0, 0, 0) : Int × Int × Int), q.2)) (a := ky ll r l j) (c := (0, 0, 0)) fun b hb => by
      have := nb_map (fun _ => ((0, 0, 0) : Int × Int × Int)) (prsOf l ll r) (ky ll r l j) b; omega
    omega
/-- P70. -/
theorem m_dLeast {l : List Pn} {ll : List (List Int)} {r : Rc} (h : 0 ≤ dleast l ll r) : (l = [] → dleast l ll r = 0) ∧ (∀ k : Nat, k < l.length → dleast l ll r ≤ dsize l ll r k) ∧ (l ≠ [] → ∃ k : Nat, k < l.length ∧ dsize l ll r k = dleast l ll r) := by
  have hg := dleast_in h
  refine ⟨fun e => ?_, fun k hk => ?_, fun hl => ?_⟩
  · rw [dleast_at hg, e]; rfl
  · rw [dleast_at hg, dsize_at hg hk]; have := dlst_dk (ll := ll) (r := r) hk; omega
  · obtain ⟨k, hk, e⟩ := dlst_dkis hg hl
    exact ⟨k, hk, by rw [dleast_at hg, dsize_at hg hk, e]⟩
end Go.Proofs.Ytaaljmmnfgghfaa
