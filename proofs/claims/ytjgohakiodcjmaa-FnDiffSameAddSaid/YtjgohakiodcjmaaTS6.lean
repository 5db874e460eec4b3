/- Contracts of the model: tables copied; masks that are valid, masks counted. -/
import Derived.Test.YtjgohakiodcjmaaTS5
import Derived.Test.YtjgohakiodcjmaaMW
set_option maxRecDepth 100000
namespace Go.Proofs.Ytjgohakiodcjmaa
open Go.RowKit
theorem take_snocT (t : Tb) (k : Nat) (hk : k < t.length) : t.take (k + 1) = t.take k ++ [t.getD k []] := by
  rw [List.take_succ_eq_append_getElem hk, getD_of _ _ hk]
end Go.Proofs.Ytjgohakiodcjmaa
