/- The laws' helpers of chapter 11: masks compared. -/
import Derived.Test.YtofnhiigojlmbaaTL1
namespace Go.Proofs.Ytofnhiigojlmbaa
open Go.RowKit
end Go.Proofs.Ytofnhiigojlmbaa
