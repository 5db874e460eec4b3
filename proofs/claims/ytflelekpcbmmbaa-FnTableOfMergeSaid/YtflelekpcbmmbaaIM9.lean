/- Contracts of the program: small cells. -/
import Derived.Test.YtflelekpcbmmbaaIM8
import Derived.Test.YtflelekpcbmmbaaTS7
namespace Go.Proofs.Ytflelekpcbmmbaa
open Go.RowKit Go.Shelf
attribute [local go_sem] Oper.semAt_some
end Go.Proofs.Ytflelekpcbmmbaa
