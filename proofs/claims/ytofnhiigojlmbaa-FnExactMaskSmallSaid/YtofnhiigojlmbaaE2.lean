import Derived.Test.YtofnhiigojlmbaaE1
import Derived.Test.YtofnhiigojlmbaaA4
namespace Go.Proofs.Ytofnhiigojlmbaa
open Go.RowKit
theorem made_people (n : Nat) : (madeCells #[.int .i64 0, .int .i64 0, .int .i64 0, .int .i64 0] (n * 4)).toList = pcells (List.replicate n pz) := by
  refine List.ext_getElem? fun i => ?_
  have hl := pcells_length (List.replicate n pz)
  rw [List.length_replicate] at hl
  by_cases hi : i < n * 4
  · have hq : i / 4 < (List.replicate n pz).length := by simp; omega
    have e : i = i / 4 * 4 + i % 4 := by omega
    have h4 : i % 4 < 4 := Nat.mod_lt _ (by omega)
    have hg := pcells_get (List.replicate n pz) (i / 4) hq (i % 4) h4
    rw [← e] at hg
    rw [hg, List.getElem_replicate]
    simp only [madeCells, Array.toList_map, Array.toList_range, List.getElem?_map, List.getElem?_range hi, Option.map_some]
    rcases (show i % 4 = 0 ∨ i % 4 = 1 ∨ i % 4 = 2 ∨ i % 4 = 3 by omega) with h | h | h | h <;> simp [h, Pn.cells, pz]
  · rw [List.getElem?_eq_none (by simp [madeCells]; omega), List.getElem?_eq_none (by omega)]
theorem Own.cellAt {w : World} {B g n c : Nat} {l : List Pn} (h : Own w B (.slice (some ⟨g, 0, none⟩) n c) l) (k : Nat) (hk : k < l.length) :
    w.cell? ⟨g, k * 4, none⟩ = some (.int .i64 l[k].area) ∧ w.cell? ⟨g, k * 4 + 1, none⟩ = some (.int .i64 l[k].job) ∧ w.cell? ⟨g, k * 4 + 2, none⟩ = some (.int .i64 l[k].sex) ∧ w.cell? ⟨g, k * 4 + 3, none⟩ = some (.int .i64 l[k].pay) ∧ ∀ o, w.frozen? ⟨g, o, none⟩ = false := by
  obtain ⟨b, o, hA, _, c0, c1, c2, c3⟩ := (Own.row h).at_ k hk
  injection hA with hA
  injection hA with h1 h2 _
  subst h1 h2
  refine ⟨by simpa using c0, by simpa using c1, by simpa using c2, by simpa using c3, fun o => ?_⟩
  rcases h.2 with ⟨hv, _⟩ | ⟨g', cap, cur, hv, _, hh, _⟩
  · cases hv
  · injection hv with hv
    injection hv with hv
    injection hv with hv
    subst hv
    exact frozen_of_row w g o _ _ hh
theorem pcells_set (l : List Pn) (k : Nat) (hk : k < l.length) (p : Pn) : pcells (l.set k p) = ((((pcells l).set (k * 4) (.int .i64 p.area)).set (k * 4 + 1) (.int .i64 p.job)).set (k * 4 + 2) (.int .i64 p.sex)).set (k * 4 + 3) (.int .i64 p.pay) := by
  induction l generalizing k with
  | nil => simp at hk
  | cons q l ih =>
    cases k with
    | zero => simp [pcells, Pn.cells]
    | succ k =>
      have h := ih k (by simpa using hk)
      have e0 : (k + 1) * 4 = k * 4 + 4 := by omega
      simp only [pcells] at h
      simp only [List.set_cons_succ, pcells, List.flatMap_cons, Pn.cells, e0, List.cons_append, List.nil_append]
      rw [h]
theorem Own.setAt {w : World} {B g n c : Nat} {l : List Pn} (h : Own w B (.slice (some ⟨g, 0, none⟩) n c) l) (k : Nat) (hk : k < l.length) (p : Pn) :
    Own ((((w.setCell ⟨g, k * 4, none⟩ (.int .i64 p.area)).setCell ⟨g, k * 4 + 1, none⟩ (.int .i64 p.job)).setCell ⟨g, k * 4 + 2, none⟩ (.int .i64 p.sex)).setCell ⟨g, k * 4 + 3, none⟩ (.int .i64 p.pay)) B (.slice (some ⟨g, 0, none⟩) n c) (l.set k p) := by
  obtain ⟨h1, h2⟩ := h
  rcases h2 with ⟨hv, _⟩ | ⟨g', cap, cur, hv, hg, hh, hnc, hc, hsz, ht⟩
  · cases hv
  · have hgg : g' = g ∧ cap = c ∧ n = l.length := by
      injection hv with a1 a2 a3
      injection a1 with a1
      injection a1 with a1
      exact ⟨a1.symm, a3.symm, a2⟩
    obtain ⟨rfl, rfl, rfl⟩ := hgg
    refine ⟨by rw [pcells_length], .inr ⟨g', cap, (((cur.setIfInBounds (k * 4) (.int .i64 p.area)).setIfInBounds (k * 4 + 1) (.int .i64 p.job)).setIfInBounds (k * 4 + 2) (.int .i64 p.sex)).setIfInBounds (k * 4 + 3) (.int .i64 p.pay), by rw [List.length_set], hg, ?_, by rw [List.length_set]; exact hnc, hc, by simpa using hsz, ?_⟩⟩
    · simp [World.setCell, Array.getElem?_modify, hh]
    · simp only [Array.toList_setIfInBounds, List.length_set, List.take_set]
      rw [ht, pcells_set l k hk p]
theorem set_mid (l : List Pn) (k : Nat) (hk : k < l.length) : (l.take k ++ List.replicate (l.length - k) pz).set k l[k] = l.take (k + 1) ++ List.replicate (l.length - (k + 1)) pz := by
  have e : l.length - k = (l.length - (k + 1)) + 1 := by omega
  have hl : (l.take k).length = k := by simp; omega
  rw [e, List.replicate_succ, List.set_append_right _ _ (by omega), hl, Nat.sub_self, List.set_cons_zero, List.take_succ_eq_append_getElem hk, List.append_assoc]; rfl

/-- What 'toPersonS' hands back: the people anew, in one block of its own. -/
def Copied (l : List Pn) (w : World) (e : Ending) (w' : World) : Prop := ∃ g, e = .returned (.slice (some ⟨g, 0, none⟩) l.length l.length) ∧ w.heap.size ≤ g ∧ Own w' w.heap.size (.slice (some ⟨g, 0, none⟩) l.length l.length) l ∧ Below w.heap.size w w'
end Go.Proofs.Ytofnhiigojlmbaa
