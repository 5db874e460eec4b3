/- Contracts of the model: flags counted, small cells. -/
import Derived.Test.YtflelekpcbmmbaaTS6
namespace Go.Proofs.Ytflelekpcbmmbaa
open Go.RowKit
end Go.Proofs.Ytflelekpcbmmbaa
