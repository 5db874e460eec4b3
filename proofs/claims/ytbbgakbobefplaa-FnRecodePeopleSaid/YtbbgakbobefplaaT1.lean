import Derived.Test.YtbbgakbobefplaaChecked
import Derived.Test.YtbbgakbobefplaaBase
import Derived.Test.YtbbgakbobefplaaK2
namespace Go.Proofs.Ytbbgakbobefplaa
open Go.RowKit
def inC (c n : Int) : Bool := decide (0 ≤ c) && decide (c < n)
def okP (p : Pn) : Bool := inC p.area 4 && inC p.job 4 && inC p.sex 2 && decide (0 ≤ p.pay) && decide (p.pay ≤ 999)
/-- a code that is asked for: -1 or one of the first n. -/
def ask1 (c n : Int) : Bool := decide (-1 ≤ c) && decide (c < n)
def ask3 (a j s : Int) : Bool := ask1 a 4 && ask1 j 4 && ask1 s 2
def fit1 (c a : Int) : Bool := decide (a < 0) || decide (c = a)
def fit3 (p : Pn) (a j s : Int) : Bool := fit1 p.area a && fit1 p.job j && fit1 p.sex s
theorem inCodes_any (c n : Int) (w : World) : Calls Try.prog 39 #[.int .i64 c, .int .i64 n] w fun e w' => e = .returned (.bool (inC c n)) ∧ w = w' := by
  go_enter Try.func39, Try.ntmps39
  go_wp2
  all_goals (go_ret; exact ⟨retb (by rw [Bool.eq_iff_iff]; simp [inC]; try omega), rfl⟩)
theorem asksCode_any (c n : Int) (h : 0 ≤ n) (w : World) : Calls Try.prog 53 #[.int .i64 c, .int .i64 n] w fun e w' => e = .returned (.bool (ask1 c n)) ∧ w = w' := by
  go_enter Try.func53, Try.ntmps53
  go_wp2
  all_goals (go_ret; exact ⟨retb (by rw [Bool.eq_iff_iff]; simp [ask1]; try omega), rfl⟩)
theorem fitsCode_any (c a : Int) (h : -1 ≤ a) (w : World) : Calls Try.prog 55 #[.int .i64 c, .int .i64 a] w fun e w' => e = .returned (.bool (fit1 c a)) ∧ w = w' := by
  go_enter Try.func55, Try.ntmps55
  go_wp2
  all_goals (go_ret; exact ⟨retb (by rw [Bool.eq_iff_iff]; simp [fit1]; try omega), rfl⟩)
theorem personValid_any (p : Pn) (w : World) : Calls Try.prog 36 #[p.val] w fun e w' => e = .returned (.bool (okP p)) ∧ w.alloc (.cells p.cells.toArray 33) = w' := by
  unfold Pn.val
  go_enter Try.func36, Try.ntmps36
  go_wp2
  all_goals (go_ret; exact ⟨retb (by rw [Bool.eq_iff_iff]; simp [okP, inC]; try omega), rfl⟩)
theorem sPersonValid_any (p : Pn) (w : World) : Calls Try.prog 62 #[p.val] w fun e w' => e = .returned (.bool (okP p)) ∧ w.alloc (.cells p.cells.toArray 33) = w' := by
  unfold Pn.val
  go_enter Try.func62, Try.ntmps62
  go_wp2
  all_goals (go_ret; exact ⟨retb (by rw [Bool.eq_iff_iff]; simp [okP, inC]; try omega), rfl⟩)
end Go.Proofs.Ytbbgakbobefplaa
