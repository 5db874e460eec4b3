/- Recodings by value: what exact laws ask of them. -/
import Derived.Test.YtmmabdioncgkoaaA2
import Derived.Test.YtmmabdioncgkoaaXR
namespace Go.Proofs.Ytmmabdioncgkoaa
open Go.RowKit
theorem eqP_arg (l : List Pn) (v u : Value) (hl : l.length ≤ 1048576) (w : World) (h1 : IsP w v l) (h2 : IsP w u l) : Calls Try.prog 21 #[v, u] w (Back (.bool true) w) := eqP_is l v u hl w h1 h2
theorem eqR_arg (ll : List (List Int)) (v u : Value) (_hl : ll.length + tot ll ≤ 1048576) (w : World) (h1 : IsR w v ll) (h2 : IsR w u ll) : Calls Try.prog 16 #[v, u] w (Back (.bool true) w) := eqR_is ll v u w h1 h2
theorem eqP_res (l : List Pn) (v u : Value) (hl : l.length ≤ 1048576) (w : World) (h1 : IsP w v l) (h2 : IsP w u l) : Calls Try.prog 21 #[v, u] w (Back (.bool true) w) := eqP_is l v u hl w h1 h2
theorem eqR_res (ll : List (List Int)) (v u : Value) (_hl : ll.length + tot ll ≤ 1048576) (w : World) (h1 : IsR w v ll) (h2 : IsR w u ll) : Calls Try.prog 16 #[v, u] w (Back (.bool true) w) := eqR_is ll v u w h1 h2
theorem heldR_res (K : Nat) (hK : K ≤ 100000000) (ll : List (List Int)) (hl : ll.length + tot ll ≤ 1048576) (v : Value) (w : World) (h : IsR w v (curK K ll ll.length)) :
    Calls Try.prog 24 #[v, .int .i64 K] w fun e w' => e = .returned (.int .i64 ((K + tot ll : Nat) : Int)) ∧ w = w' := heldR_is K hK ll hl v w h
end Go.Proofs.Ytmmabdioncgkoaa
