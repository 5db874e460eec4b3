/- The contracts of the program's tables and masks, together. -/
import Derived.Test.YthpgcioebmeheaaIM5
import Derived.Test.YthpgcioebmeheaaIM7
import Derived.Test.YthpgcioebmeheaaIM8
import Derived.Test.YthpgcioebmeheaaIM9
import Derived.Test.YthpgcioebmeheaaIM10
import Derived.Test.YthpgcioebmeheaaIM11
import Derived.Test.YthpgcioebmeheaaIM12
import Derived.Test.YthpgcioebmeheaaTS9
namespace Go.Proofs.Ythpgcioebmeheaa
end Go.Proofs.Ythpgcioebmeheaa
