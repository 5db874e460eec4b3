/- The contracts of the program's tables and masks, together. -/
import Derived.Test.YtmmabdioncgkoaaIM5
import Derived.Test.YtmmabdioncgkoaaIM7
import Derived.Test.YtmmabdioncgkoaaIM8
import Derived.Test.YtmmabdioncgkoaaIM9
import Derived.Test.YtmmabdioncgkoaaIM10
import Derived.Test.YtmmabdioncgkoaaIM11
import Derived.Test.YtmmabdioncgkoaaIM12
import Derived.Test.YtmmabdioncgkoaaTS9
namespace Go.Proofs.Ytmmabdioncgkoaa
end Go.Proofs.Ytmmabdioncgkoaa
