/- The contracts of the program's tables and masks, together. -/
import Derived.Test.YtcmnbodnjemjoaaIM5
import Derived.Test.YtcmnbodnjemjoaaIM7
import Derived.Test.YtcmnbodnjemjoaaIM8
import Derived.Test.YtcmnbodnjemjoaaIM9
import Derived.Test.YtcmnbodnjemjoaaIM10
import Derived.Test.YtcmnbodnjemjoaaIM11
import Derived.Test.YtcmnbodnjemjoaaIM12
import Derived.Test.YtcmnbodnjemjoaaTS9
namespace Go.Proofs.Ytcmnbodnjemjoaa
end Go.Proofs.Ytcmnbodnjemjoaa
