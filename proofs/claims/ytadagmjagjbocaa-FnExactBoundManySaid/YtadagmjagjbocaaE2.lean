import Derived.Test.YtadagmjagjbocaaE1
import Derived.Test.YtadagmjagjbocaaA4
namespace Go.Proofs.Ytadagmjagjbocaa
open Go.RowKit
end Go.Proofs.Ytadagmjagjbocaa
