/- Recodings by value: what exact laws ask of them. -/
import Derived.Test.YtofobkamnolddaaA2
import Derived.Test.YtofobkamnolddaaXR
namespace Go.Proofs.Ytofobkamnolddaa
open Go.RowKit
theorem toRc_any (r : Rc) (w : World) : Calls Try.prog 13 #[r.val] w (Back r.val w) := by
  go_enter Try.func13, Try.ntmps13
  go_wp2
  refine bodyPost_ret (v := r.val) (by simp [results, Try.results13, go_sem]) rfl ⟨rfl, ?_⟩
  exact (((Below.refl _ _).alloc (Nat.le_refl _) _).alloc (by simp) _).alloc (by simp; omega) _
theorem eqP_arg (l : List Pn) (v u : Value) (hl : l.length ≤ 1048576) (w : World) (h1 : IsP w v l) (h2 : IsP w u l) : Calls Try.prog 15 #[v, u] w (Back (.bool true) w) := eqP_is l v u hl w h1 h2
theorem eqR_arg (ll : List (List Int)) (v u : Value) (_hl : ll.length + tot ll ≤ 1048576) (w : World) (h1 : IsR w v ll) (h2 : IsR w u ll) : Calls Try.prog 16 #[v, u] w (Back (.bool true) w) := eqR_is ll v u w h1 h2
theorem eqP_res (l : List Pn) (v u : Value) (hl : l.length ≤ 1048576) (w : World) (h1 : IsP w v l) (h2 : IsP w u l) : Calls Try.prog 15 #[v, u] w (Back (.bool true) w) := eqP_is l v u hl w h1 h2
theorem eqR_res (ll : List (List Int)) (v u : Value) (_hl : ll.length + tot ll ≤ 1048576) (w : World) (h1 : IsR w v ll) (h2 : IsR w u ll) : Calls Try.prog 16 #[v, u] w (Back (.bool true) w) := eqR_is ll v u w h1 h2
theorem heldP_res (K : Nat) (hK : K ≤ 100000000) (l : List Pn) (hl : l.length ≤ 1048576) (v : Value) (w : World) (h : IsP w v (marksK K l.length)) :
    Calls Try.prog 23 #[v, .int .i64 K] w fun e w' => e = .returned (.int .i64 ((K + 4 * l.length : Nat) : Int)) ∧ w = w' := heldP_is K hK l.length hl v w h
end Go.Proofs.Ytofobkamnolddaa
