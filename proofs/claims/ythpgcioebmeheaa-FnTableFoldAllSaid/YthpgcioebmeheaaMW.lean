/- Rows of flags that are somebody's own; masks. -/
import Derived.Test.YthpgcioebmeheaaA3
import Derived.Test.YthpgcioebmeheaaTW
namespace Go.Proofs.Ythpgcioebmeheaa
open Go.RowKit
end Go.Proofs.Ythpgcioebmeheaa
