import Derived.Test.YtbkhkmhfbmddmaaL5
namespace Go.Proofs.Ytbkhkmhfbmddmaa
open Go.RowKit
end Go.Proofs.Ytbkhkmhfbmddmaa
