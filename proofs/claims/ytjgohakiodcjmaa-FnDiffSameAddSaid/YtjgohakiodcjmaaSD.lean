/- The model's differences of tables. -/
import Derived.Test.YtjgohakiodcjmaaDF
import Derived.Test.YtjgohakiodcjmaaTS7
import Derived.Test.YtjgohakiodcjmaaRQ
namespace Go.Proofs.Ytjgohakiodcjmaa
open Go.RowKit
end Go.Proofs.Ytjgohakiodcjmaa
