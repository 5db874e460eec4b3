/- Contracts of the model: finer recodings. -/
import Derived.Test.YtbbgakbobefplaaG3
namespace Go.Proofs.Ytbbgakbobefplaa
open Go.RowKit
theorem finer_no {ll : List (List Int)} {a b : Rc} (h : rcOk ll a = false ∨ rcOk ll b = false) : rcFiner ll a b = false := by
  rcases h with h | h <;> simp [rcFiner, h]
end Go.Proofs.Ytbbgakbobefplaa
