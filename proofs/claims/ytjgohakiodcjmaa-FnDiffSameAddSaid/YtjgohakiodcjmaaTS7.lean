/- Contracts of the model: flags counted, small cells. -/
import Derived.Test.YtjgohakiodcjmaaTS6
set_option maxRecDepth 100000
namespace Go.Proofs.Ytjgohakiodcjmaa
open Go.RowKit
theorem cntB_take (r : List Bool) {x : Nat} (h : x < r.length) : cntB (r.take (x + 1)) = cntB (r.take x) + if r.getD x false = true then 1 else 0 := by
  rw [List.take_succ_eq_append_getElem h, getD_of _ _ h]
  simp only [cntB, List.filter_append, List.length_append]
  cases r[x] <;> simp
theorem mmany_take (m : Mk) {k : Nat} (h : k < m.length) : mmany (m.take (k + 1)) = mmany (m.take k) + cntB (m.getD k []) := by
  rw [List.take_succ_eq_append_getElem h, mmany_app, getD_of _ _ h]; simp [mmany]
theorem cntB_tle (r : List Bool) (x : Nat) : cntB (r.take x) ≤ cntB r := by
  have e : cntB r = cntB (r.take x) + cntB (r.drop x) := by
    simp only [cntB]; rw [← List.length_append, ← List.filter_append, List.take_append_drop]
  omega
theorem mmany_tle (m : Mk) (k : Nat) : mmany (m.take k) ≤ mmany m := by have := m_maskMany m k; omega
def OutMT (m : Mk) (t : Bool) (w : World) (e : Ending) (w' : World) : Prop := ∃ v, e = .returned (.tuple #[v, .bool t]) ∧ InM w' w.heap.size w'.heap.size v m ∧ Below w.heap.size w w'
theorem take_snocM (t : Tb) (k : Int) (i : Nat) (hi : i < t.length) : msmall (t.take (i + 1)) k = msmall (t.take i) k ++ [small k (t.getD i [])] := by
  rw [take_snocT t i hi]; simp [msmall]
theorem small_snoc (k : Int) (r : List Int) (x : Nat) (hx : x < r.length) : small k (r.take (x + 1)) = small k (r.take x) ++ [decide (0 < r.getD x 0) && decide (r.getD x 0 < k)] := by
  rw [List.take_succ_eq_append_getElem hx, getD_of _ _ hx]; simp only [small, List.map_append, List.map_cons, List.map_nil]
theorem small_len (k : Int) (r : List Int) : (small k r).length = r.length := by simp [small]
theorem MineB.lower {w : World} {B B' T : Nat} {v : Value} {ll : Mk} (h : MineB w B T v ll) (hB : B' ≤ B) : MineB w B' T v ll := by
  obtain ⟨hT, hv, hs, ho, hr⟩ := h
  exact ⟨hT, hv, hs, ho.less hB, hr.1, fun i hi => ⟨(hr.2.1 i hi).1.less hB, (hr.2.1 i hi).2⟩, hr.2.2⟩
end Go.Proofs.Ytjgohakiodcjmaa
