/- Ladders in memory, by their value. -/
import Derived.Test.YtbbgakbobefplaaLS
import Derived.Test.YtbbgakbobefplaaKW
namespace Go.Proofs.Ytbbgakbobefplaa
open Go.RowKit
def IsR (w : World) (v : Value) (ll : List (List Int)) : Prop := ∃ A c, v = .slice A ll.length c ∧ ll.length ≤ c ∧ c ≤ maxLen ∧ LL w w.heap.size A ll
abbrev InR (w : World) (B T : Nat) (v : Value) (ll : List (List Int)) : Prop := Mine w B T v ll
section
variable {w w' : World} {B T : Nat} {v : Value} {ll : List (List Int)}
theorem IsR.below (h : IsR w v ll) (hb : Below w.heap.size w w') : IsR w' v ll := by
  obtain ⟨A, c, hv, h1, h2, h3⟩ := h
  exact ⟨A, c, hv, h1, h2, h3.moved hb⟩
theorem Mine.is (h : Mine w B T v ll) : IsR w v ll := by
  obtain ⟨A, c, hv, h1, h2, h3⟩ := h.own.form
  exact ⟨A, c, hv, h1, h2, h3⟩
end
end Go.Proofs.Ytbbgakbobefplaa
