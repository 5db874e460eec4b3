/- Contracts of the program: tables of people. -/
import Derived.Test.YtilidnekijckhaaIM8
import Derived.Test.YtilidnekijckhaaTS3
import Derived.Test.YtilidnekijckhaaA4
import Derived.StillTailTactics
namespace Go.Proofs.Ytilidnekijckhaa
open Go.RowKit Go.Shelf
end Go.Proofs.Ytilidnekijckhaa
