/- The contracts of the program's tables and masks, together. -/
import Derived.Test.YtofnhiigojlmbaaIM5
import Derived.Test.YtofnhiigojlmbaaIM7
import Derived.Test.YtofnhiigojlmbaaIM8
import Derived.Test.YtofnhiigojlmbaaIM9
import Derived.Test.YtofnhiigojlmbaaIM10
import Derived.Test.YtofnhiigojlmbaaIM11
import Derived.Test.YtofnhiigojlmbaaIM12
import Derived.Test.YtofnhiigojlmbaaTS9
namespace Go.Proofs.Ytofnhiigojlmbaa
end Go.Proofs.Ytofnhiigojlmbaa
