import Derived.Test.YtadagmjagjbocaaE2
namespace Go.Proofs.Ytadagmjagjbocaa
open Go.RowKit
end Go.Proofs.Ytadagmjagjbocaa
