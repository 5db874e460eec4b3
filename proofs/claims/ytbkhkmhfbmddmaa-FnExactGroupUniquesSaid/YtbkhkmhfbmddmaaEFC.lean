/- Recodings that come in as data. -/
import Derived.Test.YtbkhkmhfbmddmaaRows
import Derived.Test.YtbkhkmhfbmddmaaG2
import Derived.WalkKit
import Derived.ProofKit
import Derived.OpenShut
import Derived.ChangeOld
import Derived.Below
import Derived.Lib.SmallJoins
namespace Go.Proofs.Ytbkhkmhfbmddmaa
open Go.ChangeShapes Go.WideShapes Go.ChangeAt Go.RowKit Go.Joins
theorem cellsLC : Try.prog.cellsOf 24 = 3 := by kernel_rfl
end Go.Proofs.Ytbkhkmhfbmddmaa
