/- The contracts of the program's tables and masks, together. -/
import Derived.Test.YtflelekpcbmmbaaIM5
import Derived.Test.YtflelekpcbmmbaaIM7
import Derived.Test.YtflelekpcbmmbaaIM8
import Derived.Test.YtflelekpcbmmbaaIM9
import Derived.Test.YtflelekpcbmmbaaIM10
import Derived.Test.YtflelekpcbmmbaaIM11
import Derived.Test.YtflelekpcbmmbaaIM12
import Derived.Test.YtflelekpcbmmbaaTS9
namespace Go.Proofs.Ytflelekpcbmmbaa
end Go.Proofs.Ytflelekpcbmmbaa
