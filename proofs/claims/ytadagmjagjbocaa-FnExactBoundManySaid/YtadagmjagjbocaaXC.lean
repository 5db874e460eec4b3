/- Recodings by value: what exact laws ask of them. -/
import Derived.Test.YtadagmjagjbocaaA2
import Derived.Test.YtadagmjagjbocaaXR
namespace Go.Proofs.Ytadagmjagjbocaa
open Go.RowKit
theorem eqR_arg (ll : List (List Int)) (v u : Value) (_hl : ll.length + tot ll ≤ 1048576) (w : World) (h1 : IsR w v ll) (h2 : IsR w u ll) : Calls Try.prog 14 #[v, u] w (Back (.bool true) w) := eqR_is ll v u w h1 h2
theorem eqR_res (ll : List (List Int)) (v u : Value) (_hl : ll.length + tot ll ≤ 1048576) (w : World) (h1 : IsR w v ll) (h2 : IsR w u ll) : Calls Try.prog 14 #[v, u] w (Back (.bool true) w) := eqR_is ll v u w h1 h2
end Go.Proofs.Ytadagmjagjbocaa
