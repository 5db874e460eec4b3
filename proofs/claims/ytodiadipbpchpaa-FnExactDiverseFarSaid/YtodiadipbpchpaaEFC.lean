/- Recodings that come in as data. -/
import Derived.Test.YtodiadipbpchpaaRows
import Derived.Test.YtodiadipbpchpaaA2
import Derived.WalkKit
import Derived.ProofKit
import Derived.OpenShut
import Derived.ChangeOld
import Derived.Below
import Derived.Lib.SmallJoins
namespace Go.Proofs.Ytodiadipbpchpaa
open Go.ChangeShapes Go.WideShapes Go.ChangeAt Go.RowKit Go.Joins
theorem cellsLC : Try.prog.cellsOf 35 = 3 := by kernel_rfl
end Go.Proofs.Ytodiadipbpchpaa
