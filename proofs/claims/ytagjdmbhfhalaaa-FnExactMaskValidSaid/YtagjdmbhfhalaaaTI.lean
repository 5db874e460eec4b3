/- The contracts of the program's tables and masks, together. -/
import Derived.Test.YtagjdmbhfhalaaaIM5
import Derived.Test.YtagjdmbhfhalaaaIM7
import Derived.Test.YtagjdmbhfhalaaaIM8
import Derived.Test.YtagjdmbhfhalaaaIM9
import Derived.Test.YtagjdmbhfhalaaaIM10
import Derived.Test.YtagjdmbhfhalaaaIM11
import Derived.Test.YtagjdmbhfhalaaaIM12
import Derived.Test.YtagjdmbhfhalaaaTS9
namespace Go.Proofs.Ytagjdmbhfhalaaa
end Go.Proofs.Ytagjdmbhfhalaaa
