import Derived.Test.YtbkhkmhfbmddmaaT2
namespace Go.Proofs.Ytbkhkmhfbmddmaa
open Go.RowKit
end Go.Proofs.Ytbkhkmhfbmddmaa
