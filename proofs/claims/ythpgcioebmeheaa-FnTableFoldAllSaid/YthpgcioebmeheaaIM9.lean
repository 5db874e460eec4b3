/- Contracts of the program: small cells. -/
import Derived.Test.YthpgcioebmeheaaIM8
import Derived.Test.YthpgcioebmeheaaTS7
namespace Go.Proofs.Ythpgcioebmeheaa
open Go.RowKit Go.Shelf
attribute [local go_sem] Oper.semAt_some
end Go.Proofs.Ythpgcioebmeheaa
