/- The laws' helpers of chapter 11: masks compared. -/
import Derived.Test.YtflelekpcbmmbaaTL1
namespace Go.Proofs.Ytflelekpcbmmbaa
open Go.RowKit
end Go.Proofs.Ytflelekpcbmmbaa
