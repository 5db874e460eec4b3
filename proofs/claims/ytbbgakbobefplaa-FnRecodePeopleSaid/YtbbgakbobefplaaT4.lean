import Derived.Test.YtbbgakbobefplaaT3
namespace Go.Proofs.Ytbbgakbobefplaa
open Go.RowKit
end Go.Proofs.Ytbbgakbobefplaa
