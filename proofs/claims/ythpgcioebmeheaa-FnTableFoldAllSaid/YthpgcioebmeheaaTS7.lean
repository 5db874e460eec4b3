/- Contracts of the model: flags counted, small cells. -/
import Derived.Test.YthpgcioebmeheaaTS6
namespace Go.Proofs.Ythpgcioebmeheaa
open Go.RowKit
end Go.Proofs.Ythpgcioebmeheaa
