/- The best recoding: contracts of the program and of the model for the laws. -/
import Derived.Test.YtghhhdcbpcdhfaaAB2
import Derived.Test.YtghhhdcbpcdhfaaAD2
namespace Go.Proofs.Ytghhhdcbpcdhfaa
open Go.RowKit
theorem iBest_some (W : World) (l : List Pn) (v : Value) (hv : IsP W v l) (ll : List (List Int)) (u : Value) (hu : IsR W u ll) (k drop : Int) (r : Rc) (hg : abest l ll k drop = some r) (w : World) (hb : Below W.heap.size W w) :
    Calls Try.prog 12 #[v, u, .int .i64 k, .int .i64 drop] w (Back (.tuple #[.agg #[.int .i64 r.area, .int .i64 r.job, .int .i64 r.sex], .bool true]) W) := iABest_is W l v hv ll u hu k drop (some r) hg w hb
theorem iBest_none (W : World) (l : List Pn) (v : Value) (hv : IsP W v l) (ll : List (List Int)) (u : Value) (hu : IsR W u ll) (k drop : Int) (hg : abest l ll k drop = none) (w : World) (hb : Below W.heap.size W w) :
    Calls Try.prog 12 #[v, u, .int .i64 k, .int .i64 drop] w (Back (.tuple #[.agg #[.int .i64 0, .int .i64 0, .int .i64 0], .bool false]) W) := iABest_is W l v hv ll u hu k drop none hg w hb
theorem sBest_some (W : World) (l : List Pn) (v : Value) (hv : IsP W v l) (ll : List (List Int)) (u : Value) (hu : IsR W u ll) (k drop : Int) (r : Rc) (hg : abest l ll k drop = some r) (w : World) (hb : Below W.heap.size W w) :
    Calls Try.prog 13 #[v, u, .int .i64 k, .int .i64 drop] w (Back (.tuple #[.agg #[.int .i64 r.area, .int .i64 r.job, .int .i64 r.sex], .bool true]) W) := sABest_is W l v hv ll u hu k drop (some r) hg w hb
theorem sBest_none (W : World) (l : List Pn) (v : Value) (hv : IsP W v l) (ll : List (List Int)) (u : Value) (hu : IsR W u ll) (k drop : Int) (hg : abest l ll k drop = none) (w : World) (hb : Below W.heap.size W w) :
    Calls Try.prog 13 #[v, u, .int .i64 k, .int .i64 drop] w (Back (.tuple #[.agg #[.int .i64 0, .int .i64 0, .int .i64 0], .bool false]) W) := sABest_is W l v hv ll u hu k drop none hg w hb
theorem iBest_low (W : World) (l : List Pn) (v : Value) (hv : IsP W v l) (ll : List (List Int)) (u : Value) (hu : IsR W u ll) (k drop : Int) (hg : abest l ll k drop = some rlow) (w : World) (hb : Below W.heap.size W w) :
    Calls Try.prog 12 #[v, u, .int .i64 k, .int .i64 drop] w (Back (.tuple #[.agg #[.int .i64 0, .int .i64 0, .int .i64 0], .bool true]) W) := iABest_is W l v hv ll u hu k drop (some rlow) hg w hb
end Go.Proofs.Ytghhhdcbpcdhfaa
