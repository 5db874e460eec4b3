import Derived.Test.YtcfcimfhpbjjnaaChecked
import Derived.Test.YtcfcimfhpbjjnaaBase
namespace Go.Proofs.Ytcfcimfhpbjjnaa
open Go.RowKit
def inC (c n : Int) : Bool := decide (0 ≤ c) && decide (c < n)
def in3 (x a b : Int) : Bool := decide (a ≤ x) && decide (x ≤ b)
def okP (p : Pn) : Bool := inC p.area 4 && inC p.job 4 && inC p.sex 2 && decide (0 ≤ p.pay) && decide (p.pay ≤ 999)
/-- a code that is asked for: -1 or one of the first n. -/
def ask1 (c n : Int) : Bool := decide (-1 ≤ c) && decide (c < n)
def ask3 (a j s : Int) : Bool := ask1 a 4 && ask1 j 4 && ask1 s 2
def fit1 (c a : Int) : Bool := decide (a < 0) || decide (c = a)
def fit3 (p : Pn) (a j s : Int) : Bool := fit1 p.area a && fit1 p.job j && fit1 p.sex s
theorem retb {x y : Bool} (h : x = y) : Ending.returned (.bool x) = .returned (.bool y) := by rw [h]
theorem reti {x y : Int} (h : x = y) : Ending.returned (.int .i64 x) = .returned (.int .i64 y) := by rw [h]

theorem inCodes_any (c n : Int) (w : World) : Calls Try.prog 39 #[.int .i64 c, .int .i64 n] w fun e w' => e = .returned (.bool (inC c n)) ∧ w = w' := by
  go_enter Try.func39, Try.ntmps39
  go_wp2
  all_goals (go_ret; exact ⟨retb (by rw [Bool.eq_iff_iff]; simp [inC]; try omega), rfl⟩)
theorem l6In_any (x a b : Int) (w : World) : Calls Try.prog 40 #[.int .i64 x, .int .i64 a, .int .i64 b] w fun e w' => e = .returned (.bool (in3 x a b)) ∧ w = w' := by
  go_enter Try.func40, Try.ntmps40
  go_wp2
  all_goals (go_ret; exact ⟨retb (by rw [Bool.eq_iff_iff]; simp [in3]; try omega), rfl⟩)
theorem asksCode_any (c n : Int) (h : 0 ≤ n) (w : World) : Calls Try.prog 49 #[.int .i64 c, .int .i64 n] w fun e w' => e = .returned (.bool (ask1 c n)) ∧ w = w' := by
  go_enter Try.func49, Try.ntmps49
  go_wp2
  all_goals (go_ret; exact ⟨retb (by rw [Bool.eq_iff_iff]; simp [ask1]; try omega), rfl⟩)
theorem fitsCode_any (c a : Int) (h : -1 ≤ a) (w : World) : Calls Try.prog 50 #[.int .i64 c, .int .i64 a] w fun e w' => e = .returned (.bool (fit1 c a)) ∧ w = w' := by
  go_enter Try.func50, Try.ntmps50
  go_wp2
  all_goals (go_ret; exact ⟨retb (by rw [Bool.eq_iff_iff]; simp [fit1]; try omega), rfl⟩)
theorem l1Ask_any (a j s : Int) (w : World) : Calls Try.prog 47 #[.int .i64 a, .int .i64 j, .int .i64 s] w fun e w' => e = .returned (.bool (ask3 a j s)) ∧ w = w' := by
  go_enter Try.func47, Try.ntmps47
  go_wp2
  all_goals (go_ret; exact ⟨retb (by rw [Bool.eq_iff_iff]; simp [ask3, ask1]; try omega), rfl⟩)
theorem personValid_any (p : Pn) (w : World) : Calls Try.prog 15 #[p.val] w fun e w' => e = .returned (.bool (okP p)) ∧ w.alloc (.cells p.cells.toArray 24) = w' := by
  unfold Pn.val
  go_enter Try.func15, Try.ntmps15
  go_wp2
  all_goals (go_ret; exact ⟨retb (by rw [Bool.eq_iff_iff]; simp [okP, inC]; try omega), rfl⟩)
theorem sPersonValid_any (p : Pn) (w : World) : Calls Try.prog 16 #[p.val] w fun e w' => e = .returned (.bool (okP p)) ∧ w.alloc (.cells p.cells.toArray 24) = w' := by
  unfold Pn.val
  go_enter Try.func16, Try.ntmps16
  go_wp2
  all_goals (go_ret; exact ⟨retb (by rw [Bool.eq_iff_iff]; simp [okP, inC]; try omega), rfl⟩)
theorem l1Is_any (p : Pn) (a j s : Int) (w : World) : Calls Try.prog 48 #[p.val, .int .i64 a, .int .i64 j, .int .i64 s] w fun e w' => e = .returned (.bool (fit3 p a j s)) ∧ w.alloc (.cells p.cells.toArray 24) = w' := by
  unfold Pn.val
  go_enter Try.func48, Try.ntmps48
  go_wp2
  all_goals (go_ret; exact ⟨retb (by rw [Bool.eq_iff_iff]; simp [fit3, fit1]; try omega), rfl⟩)
end Go.Proofs.Ytcfcimfhpbjjnaa
