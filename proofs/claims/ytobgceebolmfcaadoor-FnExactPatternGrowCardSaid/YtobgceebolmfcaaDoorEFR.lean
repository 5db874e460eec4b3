/- Rows of integers that come in as data. -/
import Derived.Test.YtobgceebolmfcaaDoorRows
import Derived.Test.YtobgceebolmfcaaDoorEIA
import Derived.Test.YtobgceebolmfcaaDoorA6
import Derived.WalkKit
import Derived.ProofKit
import Derived.OpenShut
import Derived.ShutString
import Derived.ChangeOld
import Derived.Below
import Derived.Deep.Slices
import Derived.Deep.Fields
import Derived.Lib.SmallJoins
namespace Go.Proofs.YtobgceebolmfcaaDoor
open Go.ChangeShapes Go.WideShapes Go.ChangeAt Go.RowKit Go.Deep Go.Joins
theorem ownR : ownKnob Tryd.prog.godebug = none := by kernel_rfl
theorem laidOutR : laidOutB Tryd.prog = true := by kernel_rfl
theorem cellsN : Tryd.prog.cellsOf TN = 1 := by kernel_rfl
theorem cellsI : Tryd.prog.cellsOf TI = 1 := by kernel_rfl
section
variable {H : Type} {enc : TypeId × Value → H} {W : World} {spare : Nat → Bool} {held : Bool} {fuel : Nat}
theorem introw_of_trod {cs : List Value} {x : DataW H × List MemPlace} (h : DataW.trod enc Tryd.prog W 0 spare held fuel TI cs = some x) :
    ∃ A len cap, ∃ y : List Int, cs = [.slice A len cap] ∧ y.length = len ∧ len ≤ cap ∧ cap ≤ maxLen ∧ Row W W.heap.size A (icells y) := by
  rcases open_slice1 Tryd.underlying30 cellsN h with ⟨hcs, _⟩ | ⟨ad, len, cap, m, n, V, D, Pl, hcs, _, hl, hm, hmm, _, hi⟩
  · exact ⟨none, 0, 0, [], hcs, rfl, Nat.le_refl _, by simp [maxLen], .inl rfl⟩
  · have hlm : len ≤ m := by rw [hmm]; split <;> omega
    have hp : ∀ i, i < len → ∃ k : Int, W.cell? (ad.add i) = some (.int .i64 k) := by
      intro i hil
      obtain ⟨hc, ht⟩ := hi i (by omega)
      obtain ⟨k, hk, _⟩ := DataW.trod_int Tryd.underlying3 ht
      injection hk with hk
      exact ⟨k, by rw [hc, hk]⟩
    obtain ⟨f, hf⟩ := choose_lt hp
    refine ⟨some ad, len, cap, (List.range len).map f, hcs, by simp, hl, hm, ?_⟩
    by_cases h0 : len = 0
    · left; subst h0; rfl
    · right
      obtain ⟨b, o, spot⟩ := ad
      have hc0 := hf 0 (by omega)
      have hspot : spot = none := by simpa [Addr.add] using World.cell?_spot hc0
      subst hspot
      refine ⟨b, o, rfl, ?_, fun j u hu => ?_⟩
      · have := block_lt_of_cell hc0
        simpa [Addr.add] using this
      · have hj : j < len := by have := (List.getElem?_eq_some_iff.1 hu).1; rw [icells_len] at this; simpa using this
        have hg := icells_get (x := (List.range len).map f) (k := j) (by simpa using hj)
        rw [hg] at hu
        have hv : ((List.range len).map f).getD j 0 = f j := by rw [List.getD_eq_getElem?_getD, List.getElem?_map, List.getElem?_range hj]; rfl
        rw [hv] at hu
        have hc := hf j hj
        rw [Addr.add_lit] at hc
        rw [hc]; exact hu
theorem rows_of_trod' {a : Option Addr} {len cap : Nat} {x : DataW H × List MemPlace} (h : DataW.trod enc Tryd.prog W 0 spare held fuel TII [.slice a len cap] = some x) :
    ∃ ll : List (List Int), ll.length = len ∧ len ≤ cap ∧ cap ≤ maxLen ∧ LL W W.heap.size a ll := by
  rcases open_slice1 Tryd.underlying23 cellsI h with ⟨hcs, _⟩ | ⟨ad, len', cap', m, n, V, D, Pl, hcs, _, hl, hm, hmm, _, hi⟩
  · simp at hcs
    obtain ⟨rfl, rfl, rfl⟩ := hcs
    exact ⟨[], rfl, Nat.le_refl _, by simp [maxLen], LL.nil _ _ _⟩
  · simp at hcs
    obtain ⟨rfl, rfl, rfl⟩ := hcs
    have hlm : len ≤ m := by rw [hmm]; split <;> omega
    have hp : ∀ i, i < len → ∃ q : Option Addr × Nat × List Int, W.cell? (ad.add i) = some (.slice q.1 q.2.2.length q.2.1) ∧ q.2.2.length ≤ q.2.1 ∧ q.2.1 ≤ maxLen ∧ Row W W.heap.size q.1 (icells q.2.2) := by
      intro i hil
      obtain ⟨hc, ht⟩ := hi i (by omega)
      obtain ⟨A, l, c, y, hv, hy, h1, h2, h3⟩ := introw_of_trod ht
      injection hv with hv
      subst hy
      exact ⟨(A, c, y), by rw [hc, hv], h1, h2, h3⟩
    obtain ⟨f, hf⟩ := choose_lt hp
    refine ⟨(List.range len).map fun i => (f i).2.2, by simp, hl, hm, (List.range len).map fun i => Value.slice (f i).1 (f i).2.2.length (f i).2.1, by simp, ?_, fun i hil => ?_⟩
    · by_cases h0 : len = 0
      · left; subst h0; rfl
      · right
        obtain ⟨b, o, spot⟩ := ad
        have hc0 := (hf 0 (by omega)).1
        have hspot : spot = none := by simpa [Addr.add] using World.cell?_spot hc0
        subst hspot
        refine ⟨b, o, rfl, ?_, fun j u hu => ?_⟩
        · have := block_lt_of_cell hc0
          simpa [Addr.add] using this
        · have hj : j < len := by have := (List.getElem?_eq_some_iff.1 hu).1; simpa using this
          rw [List.getElem?_map, List.getElem?_range hj] at hu
          have hc := (hf j hj).1
          rw [Addr.add_lit] at hc
          rw [hc]; exact hu
    · have hil2 : i < len := by simpa using hil
      have e : ((List.range len).map fun i => (f i).2.2).getD i [] = (f i).2.2 := by rw [List.getD_eq_getElem?_getD, List.getElem?_map, List.getElem?_range hil2]; rfl
      rw [e]
      obtain ⟨_, h1, h2, h3⟩ := hf i hil2
      exact ⟨(f i).1, (f i).2.1, by rw [List.getElem?_map, List.getElem?_range hil2]; rfl, h1, h2, h3⟩
theorem rows_of_trod {a : Option Addr} {len cap : Nat} {x : DataW H × List MemPlace} (h : DataW.trod enc Tryd.prog W 0 spare held fuel TII [.slice a len cap] = some x) :
    ∃ ll : List (List Int), ll.length = len ∧ len ≤ cap ∧ len ≤ maxLen ∧ LL W W.heap.size a ll := by
  obtain ⟨l, h1, h2, h3, h4⟩ := rows_of_trod' h
  exact ⟨l, h1, h2, Nat.le_trans h2 h3, h4⟩
theorem isR_of_trod {a : Option Addr} {len cap : Nat} {x : DataW H × List MemPlace} (h : DataW.trod enc Tryd.prog W 0 spare held fuel TII [.slice a len cap] = some x) : ∃ ll, IsR W (.slice a len cap) ll := by
  obtain ⟨l, rfl, h2, h3, h4⟩ := rows_of_trod' h
  exact ⟨l, a, cap, rfl, h2, h3, h4⟩
end
end Go.Proofs.YtobgceebolmfcaaDoor
