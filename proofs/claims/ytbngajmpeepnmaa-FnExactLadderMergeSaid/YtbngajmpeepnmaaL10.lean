import Derived.Test.YtbngajmpeepnmaaL9
import Derived.Test.YtbngajmpeepnmaaLI4
namespace Go.Proofs.Ytbngajmpeepnmaa
open Go.RowKit
/-- A value is handed back, and nothing of W has turned. -/
def Gives (v : Value) (W : World) (e : Ending) (w' : World) : Prop := e = .returned v ∧ Below W.heap.size W w'
/-- Rows are handed back in memory, and whether they were told. -/
def GivesLL (k : Nat) (m : List (List Int)) (t : Bool) (W : World) (e : Ending) (w' : World) : Prop :=
  ∃ A c, e = .returned (.tuple #[.slice A k c, .bool t]) ∧ LL w' w'.heap.size A m ∧ k ≤ c ∧ c ≤ maxLen ∧ Below W.heap.size W w'
theorem LL.see {W w : World} {A : Option Addr} {ll : List (List Int)} (h : LL W W.heap.size A ll) (hb : Below W.heap.size W w) : LL w w.heap.size A ll := h.moved hb
theorem QR.gives {v : Value} {W w w' : World} {e : Ending} (hb : Below W.heap.size W w) (h : QR v w e w') : Gives v W e w' := by
  obtain ⟨he, m, rfl⟩ := h; exact ⟨he, below_draws hb m⟩
theorem PairQ.gives {x : Int} {t : Bool} {W w w' : World} {e : Ending} (hb : Below W.heap.size W w) (h : PairQ x t w e w') : Gives (.tuple #[.int .i64 x, .bool t]) W e w' := by
  obtain ⟨he, m, rfl⟩ := h; exact ⟨he, below_draws hb m⟩
theorem Merged.gives {l : List (List Int)} {t : Bool} {W w w' : World} {e : Ending} (hb : Below W.heap.size W w) (h : Merged l t w e w') : GivesLL l.length l t W e w' := by
  obtain ⟨v, he, ho, hb2⟩ := h
  obtain ⟨A, c, rfl, h1, h2, h3⟩ := ho.own.form
  exact ⟨A, c, he, h3, h1, h2, hb.trans (hb2.mono hb.size)⟩
theorem sValid_at (W : World) (ll : List (List Int)) (n : Nat) (hn : n = ll.length) (A : Option Addr) (c : Nat) (hr : LL W W.heap.size A ll) (hl : ll.length ≤ maxLen) (t : Bool) (ht : ladOk ll = t) (w : World) (hb : Below W.heap.size W w) :
    Calls Try.prog 18 #[.slice A n c] w (Gives (.bool t) W) := by
  subst ht; exact (sLadder_at ll n hn A c w (hr.see hb) hl).mono fun _ _ h => h.gives hb
theorem iValid_at (W : World) (ll : List (List Int)) (n : Nat) (hn : n = ll.length) (A : Option Addr) (c : Nat) (hr : LL W W.heap.size A ll) (hl : ll.length ≤ maxLen) (t : Bool) (ht : ladOk ll = t) (w : World) (hb : Below W.heap.size W w) :
    Calls Try.prog 20 #[.slice A n c] w (Gives (.bool t) W) := by
  subst ht; exact (iLadder_at ll n hn A c w (hr.see hb) hl).mono fun _ _ h => h.gives hb
theorem sCode_at (W : World) (ll : List (List Int)) (n : Nat) (hn : n = ll.length) (A : Option Addr) (c : Nat) (hr : LL W W.heap.size A ll) (hl : ll.length ≤ maxLen) (level code x : Int) (t : Bool) (hx : lcode ll level code = x) (ht : codeOk ll level code = t) (w : World) (hb : Below W.heap.size W w) :
    Calls Try.prog 11 #[.slice A n c, .int .i64 level, .int .i64 code] w (Gives (.tuple #[.int .i64 x, .bool t]) W) := by
  subst hx ht; exact (sLadCode_any ll A n c hn hl level code w (hr.see hb)).mono fun _ _ h => h.gives hb
theorem iCode_at (W : World) (ll : List (List Int)) (n : Nat) (hn : n = ll.length) (A : Option Addr) (c : Nat) (hr : LL W W.heap.size A ll) (hl : ll.length ≤ maxLen) (level code x : Int) (t : Bool) (hx : lcode ll level code = x) (ht : codeOk ll level code = t) (w : World) (hb : Below W.heap.size W w) :
    Calls Try.prog 10 #[.slice A n c, .int .i64 level, .int .i64 code] w (Gives (.tuple #[.int .i64 x, .bool t]) W) := by
  subst hx ht; exact (iLadCode_any ll A n c hn hl level code w (hr.see hb)).mono fun _ _ h => h.gives hb
theorem sGroups_at (W : World) (ll : List (List Int)) (n : Nat) (hn : n = ll.length) (A : Option Addr) (c : Nat) (hr : LL W W.heap.size A ll) (hl : ll.length ≤ maxLen) (level x : Int) (hx : lgroups ll level = x) (w : World) (hb : Below W.heap.size W w) :
    Calls Try.prog 22 #[.slice A n c, .int .i64 level] w (Gives (.int .i64 x) W) := by
  subst hx; exact (sGroups_any ll A n c hn hl level w (hr.see hb)).mono fun _ _ h => h.gives hb
theorem iGroups_at (W : World) (ll : List (List Int)) (n : Nat) (hn : n = ll.length) (A : Option Addr) (c : Nat) (hr : LL W W.heap.size A ll) (hl : ll.length ≤ maxLen) (level x : Int) (hx : lgroups ll level = x) (w : World) (hb : Below W.heap.size W w) :
    Calls Try.prog 16 #[.slice A n c, .int .i64 level] w (Gives (.int .i64 x) W) := by
  subst hx; exact (iGroups_any ll A n c hn hl level w (hr.see hb)).mono fun _ _ h => h.gives hb
theorem sMerge_at (W : World) (ll : List (List Int)) (n : Nat) (hn : n = ll.length) (A : Option Addr) (c : Nat) (hr : LL W W.heap.size A ll) (hl : ll.length ≤ maxLen) (a b : Int) (k : Nat) (m : List (List Int)) (t : Bool) (hk : k = m.length) (hm : lmerge ll a b = m) (ht : mergeOk ll a b = t) (w : World) (hb : Below W.heap.size W w) :
    Calls Try.prog 14 #[.slice A n c, .int .i64 a, .int .i64 b] w (GivesLL k m t W) := by
  subst hk hm ht; exact (sMerge_any ll A n c hn hl a b w (hr.see hb)).mono fun _ _ h => h.gives hb
theorem iMerge_at (W : World) (ll : List (List Int)) (n : Nat) (hn : n = ll.length) (A : Option Addr) (c : Nat) (hr : LL W W.heap.size A ll) (hl : ll.length ≤ maxLen) (a b : Int) (k : Nat) (m : List (List Int)) (t : Bool) (hk : k = m.length) (hm : lmerge ll a b = m) (ht : mergeOk ll a b = t) (w : World) (hb : Below W.heap.size W w) :
    Calls Try.prog 13 #[.slice A n c, .int .i64 a, .int .i64 b] w (GivesLL k m t W) := by
  subst hk hm ht; exact (iMerge_any ll A n c hn hl a b w (hr.see hb)).mono fun _ _ h => h.gives hb
theorem same_at (W : World) (ll : List (List Int)) (A B : Option Addr) (n1 n2 c d : Nat) (h1 : n1 = ll.length) (h2 : n2 = ll.length) (hl : ll.length ≤ maxLen) (ha : LL W W.heap.size A ll) (hb : LL W W.heap.size B ll) (w : World) (h : Below W.heap.size W w) :
    Calls Try.prog 15 #[.slice A n1 c, .slice B n2 d] w (Gives (.bool true) W) :=
  (sameRows_at ll A B n1 n2 c d h1 h2 hl w (ha.see h) (hb.see h)).mono fun _ _ k => k.gives h
end Go.Proofs.Ytbngajmpeepnmaa
