/-  -/
import Derived.Test.YtobgceebolmfcaaDoorA4
namespace Go.Proofs.YtobgceebolmfcaaDoor
open Go.RowKit
def pz : Pn := ⟨0, 0, 0, 0⟩
def eqP (p q : Pn) : Bool := decide (p.area = q.area) && decide (p.job = q.job) && decide (p.sex = q.sex) && decide (p.pay = q.pay)
end Go.Proofs.YtobgceebolmfcaaDoor
namespace Go.Proofs.YtobgceebolmfcaaDoor
open Go.RowKit
end Go.Proofs.YtobgceebolmfcaaDoor
namespace Go.Proofs.YtobgceebolmfcaaDoor
open Go.RowKit
end Go.Proofs.YtobgceebolmfcaaDoor
