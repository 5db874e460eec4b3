/- Contracts of the model: tables of people. -/
import Derived.Test.YtobgceebolmfcaaDoorTSA
import Derived.Test.YtobgceebolmfcaaDoorA4
namespace Go.Proofs.YtobgceebolmfcaaDoor
open Go.RowKit
theorem tabOf_zero : tabOf [] = zeros 4 4 := rfl
theorem tabOf_take (l : List Pn) {k : Nat} (hk : k < l.length) {a b : Nat} (ha : a < 4) (hb : b < 4) (h1 : l[k].area = a) (h2 : l[k].job = b) :
    tabOf (l.take (k + 1)) = (tabOf (l.take k)).set a (((tabOf (l.take k)).getD a []).set b (((tabOf (l.take k)).getD a []).getD b 0 + 1)) := by
  rw [List.take_succ_eq_append_getElem hk]; exact tabOf_snoc _ _ ha hb h1 h2
theorem tabOf_rlen (l : List Pn) {i : Nat} (hi : i < 4) : ((tabOf l).getD i []).length = 4 := by rw [tabOf_row l hi]; simp
end Go.Proofs.YtobgceebolmfcaaDoor
