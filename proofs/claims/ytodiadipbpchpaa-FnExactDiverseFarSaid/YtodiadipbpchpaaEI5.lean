/- Exact laws over rows of integers: marks are held. -/
import Derived.Test.YtodiadipbpchpaaEI4
namespace Go.Proofs.Ytodiadipbpchpaa
open Go.RowKit
theorem Mine.far {w w' : World} {B T B' T' : Nat} {v : Value} {ll : List (List Int)} (h : Mine w B T v ll) (hw : Within w w' B' T') (hd : T ≤ B' ∨ T' ≤ B) : Mine w' B T v ll :=
  h.same hw.2.2.2.1 fun k h1 h2 => hw.2.2.2.2 k (Nat.lt_of_lt_of_le h2 h.1) (by omega)
theorem Mine.le {w : World} {B T : Nat} {v : Value} {ll : List (List Int)} (h : Mine w B T v ll) : T ≤ w.heap.size := h.1
theorem Mine.sl {w : World} {B T : Nat} {v : Value} {ll : List (List Int)} (h : Mine w B T v ll) : ∃ A c, v = .slice A ll.length c := by
  obtain ⟨A, c, hv, _⟩ := h.own.form
  exact ⟨A, c, hv⟩
end Go.Proofs.Ytodiadipbpchpaa
