/- Tables in memory: a cell of rows of one's own, read and written. -/
import Derived.Test.YtobgceebolmfcaaDoorA3
namespace Go.Proofs.YtobgceebolmfcaaDoor
open Go.RowKit
theorem Own1.slice {T : TypeId} {w : World} {B : Nat} {v : Value} {cs : List Value} (h : Own1 T w B v cs) (h0 : 0 < cs.length) : ∃ g c, v = .slice (some ⟨g, 0, none⟩) cs.length c := by
  rcases h.2 with ⟨_, e⟩ | ⟨g, cap, cur, rfl, _⟩
  · omega
  · exact ⟨g, cap, rfl⟩
theorem getD_at {α : Type} (l : List α) (d : α) {i : Nat} (h : i < l.length) : l[i]? = some (l.getD i d) := by rw [List.getD_eq_getElem?_getD, List.getElem?_eq_getElem h]; rfl
theorem Mine.cell {w : World} {B T : Nat} {v : Value} {ll : List (List Int)} (h : Mine w B T v ll) {i j : Nat} (hi : i < ll.length) (hj : j < (ll.getD i []).length) :
    ∃ g c gi ci, v = .slice (some ⟨g, 0, none⟩) ll.length c ∧ w.cell? ⟨g, i, none⟩ = some (.slice (some ⟨gi, 0, none⟩) (ll.getD i []).length ci) ∧ (B ≤ g ∧ g < T) ∧ (B ≤ gi ∧ gi < T) ∧ g ≠ gi ∧
      w.cell? ⟨gi, j, none⟩ = some (.int .i64 ((ll.getD i []).getD j 0)) ∧ w.frozen? ⟨gi, j, none⟩ = false ∧ ∀ x : Int, Mine (w.setCell ⟨gi, j, none⟩ (.int .i64 x)) B T v (ll.set i ((ll.getD i []).set j x)) := by
  obtain ⟨hT, hv, hs, ho, hr⟩ := h
  have hl := hr.1
  obtain ⟨g, c, rfl⟩ := ho.slice (by omega)
  have hgT := hv g rfl
  have hgB := (ho.ob g rfl).1
  obtain ⟨hri, hbi⟩ := hr.2.1 i hi
  have hj' : j < (icells (ll.getD i [])).length := by rw [icells_len]; exact hj
  obtain ⟨gi, ci, hvi⟩ := hri.slice (by omega)
  rw [icells_len] at hvi
  have hgi := hbi gi (by rw [hvi]; rfl)
  have hgiB := (hri.ob gi (by rw [hvi]; rfl)).1
  have hne : g ≠ gi := fun e => hgi.2 (by rw [e]; rfl)
  have hc0 : w.cell? ⟨g, i, none⟩ = hs[i]? := (ho.cellAt i (by omega)).1
  have hri2 := hri
  rw [hvi] at hri2
  obtain ⟨hc1, hf1⟩ := hri2.cellAt j hj'
  refine ⟨g, c, gi, ci, by rw [hl], by rw [hc0, getD_at hs nilS (by omega), hvi], ⟨hgB, hgT⟩, ⟨hgiB, hgi.1⟩, hne, by rw [hc1]; exact icells_get hj, hf1, fun x => ?_⟩
  have hk : ∀ k, k ≠ gi → (w.setCell ⟨gi, j, none⟩ (.int .i64 x)).heap[k]? = w.heap[k]? := fun k hk => Below.heap_setCell w ⟨gi, j, none⟩ _ k hk
  refine ⟨by simpa [World.setCell] using hT, hv, hs, ho.same fun k e => hk k fun ekg => hne (by have e2 : some g = some k := e; injection e2 with e2; omega), ⟨by rw [List.length_set]; exact hl, fun i' hi' => ?_, fun a b k hab hb => ?_⟩⟩
  · rw [List.length_set] at hi'
    by_cases e : i = i'
    · subst e
      have e1 : (ll.set i ((ll.getD i []).set j x)).getD i [] = (ll.getD i []).set j x := by rw [List.getD_eq_getElem?_getD, List.getElem?_set_self hi]; rfl
      rw [e1]
      refine ⟨?_, hbi⟩
      have := hri2.setAt j (.int .i64 x)
      rw [hvi]
      have e2 : icells ((ll.getD i []).set j x) = (icells (ll.getD i [])).set j (.int .i64 x) := by simp [icells, List.map_set]
      rw [e2]; exact this
    · have e1 : (ll.set i ((ll.getD i []).set j x)).getD i' [] = ll.getD i' [] := by rw [List.getD_eq_getElem?_getD, List.getElem?_set_ne e, List.getD_eq_getElem?_getD]
      rw [e1]
      obtain ⟨h1, h2⟩ := hr.2.1 i' hi'
      refine ⟨h1.same fun k ek => hk k fun ekg => ?_, h2⟩
      subst ekg
      rcases Nat.lt_or_ge i i' with hlt | hge
      · exact hr.2.2 i i' k hlt hi' (by rw [hvi]; rfl) ek
      · exact hr.2.2 i' i k (by omega) hi ek (by rw [hvi]; rfl)
  · rw [List.length_set] at hb
    exact hr.2.2 a b k hab hb
end Go.Proofs.YtobgceebolmfcaaDoor
