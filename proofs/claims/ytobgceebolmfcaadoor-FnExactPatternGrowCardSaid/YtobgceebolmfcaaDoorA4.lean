/- People in memory, by their value. Words for 'append(append([]Person{}, list...), p)' in a drawn region. samePeople, by values. -/
import Derived.Test.YtobgceebolmfcaaDoorA2
import Derived.Deep.RegionLaw
import Derived.Test.YtobgceebolmfcaaDoorA1
namespace Go.Proofs.YtobgceebolmfcaaDoor
open Go.RowKit
def Drawn (R q : Nat) (w : World) (e : Ending) (w' : World) : Prop :=
  ∃ p : Pn, e = .returned p.val ∧ okP p = true ∧ RdN w' R (q + 5) ∧ w.grownBy w' (some R)
end Go.Proofs.YtobgceebolmfcaaDoor
namespace Go.Proofs.YtobgceebolmfcaaDoor
open Go.RowKit
end Go.Proofs.YtobgceebolmfcaaDoor
namespace Go.Proofs.YtobgceebolmfcaaDoor
open Go.RowKit
end Go.Proofs.YtobgceebolmfcaaDoor
namespace Go.Proofs.YtobgceebolmfcaaDoor
open Go.RowKit
end Go.Proofs.YtobgceebolmfcaaDoor
namespace Go.Proofs.YtobgceebolmfcaaDoor
open Go.RowKit
theorem modCutA (m n : Nat) : ∃ k : Nat, (m : Int) % ((n : Int) + 1) = k ∧ k ≤ n :=
  ⟨m % (n + 1), by simp, by have := Nat.mod_lt m (show 0 < n + 1 by omega); omega⟩
end Go.Proofs.YtobgceebolmfcaaDoor
namespace Go.Proofs.YtobgceebolmfcaaDoor
open Go.RowKit
end Go.Proofs.YtobgceebolmfcaaDoor
