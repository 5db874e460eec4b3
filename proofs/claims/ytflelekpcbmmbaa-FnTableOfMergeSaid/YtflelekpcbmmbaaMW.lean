/- Rows of flags that are somebody's own; masks. -/
import Derived.Test.YtflelekpcbmmbaaA3
import Derived.Test.YtflelekpcbmmbaaTW
namespace Go.Proofs.Ytflelekpcbmmbaa
open Go.RowKit
end Go.Proofs.Ytflelekpcbmmbaa
