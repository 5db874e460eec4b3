import Derived.Test.YtbbgakbobefplaaL5
namespace Go.Proofs.Ytbbgakbobefplaa
open Go.RowKit
end Go.Proofs.Ytbbgakbobefplaa
