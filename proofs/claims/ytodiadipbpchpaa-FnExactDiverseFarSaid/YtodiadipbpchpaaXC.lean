/- Recodings by value: what exact laws ask of them. -/
import Derived.Test.YtodiadipbpchpaaA2
import Derived.Test.YtodiadipbpchpaaXR
set_option maxRecDepth 100000
namespace Go.Proofs.Ytodiadipbpchpaa
open Go.RowKit
theorem toRc_any (r : Rc) (w : World) : Calls Try.prog 20 #[r.val] w (Back r.val w) := by
  go_enter Try.func20, Try.ntmps20
  go_wp2
  refine bodyPost_ret (v := r.val) (by simp [results, Try.results20, go_sem]) rfl ⟨rfl, ?_⟩
  exact (((Below.refl _ _).alloc (Nat.le_refl _) _).alloc (by simp) _).alloc (by simp; omega) _
theorem eqP_arg (l : List Pn) (v u : Value) (hl : l.length ≤ 1048576) (w : World) (h1 : IsP w v l) (h2 : IsP w u l) : Calls Try.prog 22 #[v, u] w (Back (.bool true) w) := eqP_is l v u hl w h1 h2
theorem eqR_arg (ll : List (List Int)) (v u : Value) (_hl : ll.length + tot ll ≤ 1048576) (w : World) (h1 : IsR w v ll) (h2 : IsR w u ll) : Calls Try.prog 23 #[v, u] w (Back (.bool true) w) := eqR_is ll v u w h1 h2
theorem eqP_res (l : List Pn) (v u : Value) (hl : l.length ≤ 1048576) (w : World) (h1 : IsP w v l) (h2 : IsP w u l) : Calls Try.prog 22 #[v, u] w (Back (.bool true) w) := eqP_is l v u hl w h1 h2
theorem eqR_res (ll : List (List Int)) (v u : Value) (_hl : ll.length + tot ll ≤ 1048576) (w : World) (h1 : IsR w v ll) (h2 : IsR w u ll) : Calls Try.prog 23 #[v, u] w (Back (.bool true) w) := eqR_is ll v u w h1 h2
end Go.Proofs.Ytodiadipbpchpaa
