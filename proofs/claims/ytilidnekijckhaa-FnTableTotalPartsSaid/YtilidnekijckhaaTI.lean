/- The contracts of the program's tables and masks, together. -/
import Derived.Test.YtilidnekijckhaaIM5
import Derived.Test.YtilidnekijckhaaIM7
import Derived.Test.YtilidnekijckhaaIM8
import Derived.Test.YtilidnekijckhaaIM9
import Derived.Test.YtilidnekijckhaaIM10
import Derived.Test.YtilidnekijckhaaIM11
import Derived.Test.YtilidnekijckhaaIM12
import Derived.Test.YtilidnekijckhaaTS9
namespace Go.Proofs.Ytilidnekijckhaa
end Go.Proofs.Ytilidnekijckhaa
