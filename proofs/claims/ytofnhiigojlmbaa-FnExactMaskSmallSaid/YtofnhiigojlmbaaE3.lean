import Derived.Test.YtofnhiigojlmbaaE2
namespace Go.Proofs.Ytofnhiigojlmbaa
open Go.RowKit
theorem eqP_self (p : Pn) : eqP p p = true := by simp [eqP]
end Go.Proofs.Ytofnhiigojlmbaa
