/- Contracts of the program: people of small groups, those that are kept, costs. -/
import Derived.Test.YtaaljmmnfgghfaaAI
import Derived.Test.YtaaljmmnfgghfaaAS
namespace Go.Proofs.Ytaaljmmnfgghfaa
open Go.RowKit
end Go.Proofs.Ytaaljmmnfgghfaa
