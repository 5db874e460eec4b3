/- Contracts of the program: tables of people. -/
import Derived.Test.YtcmnbodnjemjoaaIM8
import Derived.Test.YtcmnbodnjemjoaaTS3
import Derived.Test.YtcmnbodnjemjoaaA4
import Derived.StillTailTactics
namespace Go.Proofs.Ytcmnbodnjemjoaa
open Go.RowKit Go.Shelf
end Go.Proofs.Ytcmnbodnjemjoaa
