import Derived.Test.YtfcbnfemnfnadaaL5
namespace Go.Proofs.Ytfcbnfemnfnadaa
open Go.RowKit
end Go.Proofs.Ytfcbnfemnfnadaa
