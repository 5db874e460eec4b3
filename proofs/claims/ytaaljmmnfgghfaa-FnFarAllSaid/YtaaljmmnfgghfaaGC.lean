/- The contracts of chapter 3, by values. -/
import Derived.Test.YtaaljmmnfgghfaaA5
import Derived.Test.YtaaljmmnfgghfaaA4
import Derived.Test.YtaaljmmnfgghfaaA6
import Derived.Test.YtaaljmmnfgghfaaGI
namespace Go.Proofs.Ytaaljmmnfgghfaa
open Go.RowKit
/-- People of the caller's own, and whether they were told. -/
def OutP (m : List Pn) (t : Bool) (w : World) (e : Ending) (w' : World) : Prop := ∃ v, e = .returned (.tuple #[v, .bool t]) ∧ InP w' w.heap.size w'.heap.size v m ∧ Below w.heap.size w w'
def recOut (l : List Pn) (ll : List (List Int)) (r : Rc) : List Pn := if grOk l ll r = true then recL ll r l else []
theorem sRcValid_is (W : World) (ll : List (List Int)) (u : Value) (hu : IsR W u ll) (r : Rc) (g : Bool) (hg : rcOk ll r = g) (w : World) (hb : Below W.heap.size W w) :
    Calls Try.prog 57 #[u, r.val] w (Back (.bool g) W) := by
  subst hg
  obtain ⟨A2, c2, rfl, b1, b2, b3⟩ := hu
  exact (sRcValid_any ll _ rfl A2 c2 (Nat.le_trans b1 b2) r w (b3.moved hb)).mono fun _ _ h => ⟨h.1, hb.trans (h.2.mono hb.size)⟩
theorem iRcValid_is (W : World) (ll : List (List Int)) (u : Value) (hu : IsR W u ll) (r : Rc) (g : Bool) (hg : rcOk ll r = g) (w : World) (hb : Below W.heap.size W w) :
    Calls Try.prog 37 #[u, r.val] w (Back (.bool g) W) := by
  subst hg
  obtain ⟨A2, c2, rfl, b1, b2, b3⟩ := hu
  exact (iRcValid_any ll _ rfl A2 c2 (Nat.le_trans b1 b2) r w (b3.moved hb)).mono fun _ _ h => ⟨h.1, hb.trans (h.2.mono hb.size)⟩
theorem sGSize_is (W : World) (l : List Pn) (v : Value) (hv : IsP W v l) (ll : List (List Int)) (u : Value) (hu : IsR W u ll) (r : Rc) (k : Int) (g : Int) (hg : gsize l ll r k = g) (w : World) (hb : Below W.heap.size W w) :
    Calls Try.prog 28 #[v, u, r.val, .int .i64 k] w (Back (.int .i64 g) W) := by
  subst hg
  obtain ⟨A, c, rfl, a1, a2, a3⟩ := hv
  obtain ⟨A2, c2, rfl, b1, b2, b3⟩ := hu
  exact (sGSize_any l _ rfl A c (Nat.le_trans a1 a2) ll _ rfl A2 c2 (Nat.le_trans b1 b2) r k w (a3.moved hb) (b3.moved hb)).mono fun _ _ h => ⟨h.1, hb.trans (h.2.mono hb.size)⟩
theorem iGSize_is (W : World) (l : List Pn) (v : Value) (hv : IsP W v l) (ll : List (List Int)) (u : Value) (hu : IsR W u ll) (r : Rc) (k : Int) (g : Int) (hg : gsize l ll r k = g) (w : World) (hb : Below W.heap.size W w) :
    Calls Try.prog 16 #[v, u, r.val, .int .i64 k] w (Back (.int .i64 g) W) := by
  subst hg
  obtain ⟨A, c, rfl, a1, a2, a3⟩ := hv
  obtain ⟨A2, c2, rfl, b1, b2, b3⟩ := hu
  exact (iGSize_any l _ rfl A c (Nat.le_trans a1 a2) ll _ rfl A2 c2 (Nat.le_trans b1 b2) r k w (a3.moved hb) (b3.moved hb)).mono fun _ _ h => ⟨h.1, hb.trans (h.2.mono hb.size)⟩
theorem sRecP_is (W : World) (l : List Pn) (v : Value) (hv : IsP W v l) (ll : List (List Int)) (u : Value) (hu : IsR W u ll) (r : Rc) (m : List Pn) (t : Bool) (hg : recOut l ll r = m) (ht : grOk l ll r = t) (w : World) (hb : Below W.heap.size W w) :
    Calls Try.prog 29 #[v, u, r.val] w (OutP m t w) := by
  subst hg ht
  obtain ⟨A, c, rfl, a1, a2, a3⟩ := hv
  obtain ⟨A2, c2, rfl, b1, b2, b3⟩ := hu
  cases hok : grOk l ll r
  · have e : recOut l ll r = [] := by simp [recOut, hok]
    rw [e]
    refine (sRecPeople_no l _ rfl A c (Nat.le_trans a1 a2) ll _ rfl A2 c2 (Nat.le_trans b1 b2) r hok w (a3.moved hb) (b3.moved hb)).mono ?_
    rintro e w' ⟨v, he, ho, hb2⟩
    exact ⟨v, he, InP.of ho, hb2⟩
  · have e : recOut l ll r = recL ll r l := by simp [recOut, hok]
    rw [e]
    refine (sRecPeople_yes l _ rfl A c ll _ rfl A2 c2 r hok w (a3.moved hb) (b3.moved hb)).mono ?_
    rintro e w' ⟨v, he, ho, hb2⟩
    exact ⟨v, he, InP.of ho, hb2⟩
theorem iRecP_is (W : World) (l : List Pn) (v : Value) (hv : IsP W v l) (ll : List (List Int)) (u : Value) (hu : IsR W u ll) (r : Rc) (m : List Pn) (t : Bool) (hg : recOut l ll r = m) (ht : grOk l ll r = t) (w : World) (hb : Below W.heap.size W w) :
    Calls Try.prog 18 #[v, u, r.val] w (OutP m t w) := by
  subst hg ht
  obtain ⟨A, c, rfl, a1, a2, a3⟩ := hv
  obtain ⟨A2, c2, rfl, b1, b2, b3⟩ := hu
  cases hok : grOk l ll r
  · have e : recOut l ll r = [] := by simp [recOut, hok]
    rw [e]
    refine (iRecPeople_no l _ rfl A c (Nat.le_trans a1 a2) ll _ rfl A2 c2 (Nat.le_trans b1 b2) r hok w (a3.moved hb) (b3.moved hb)).mono ?_
    rintro e w' ⟨v, he, ho, hb2⟩
    exact ⟨v, he, InP.of ho, hb2⟩
  · have e : recOut l ll r = recL ll r l := by simp [recOut, hok]
    rw [e]
    refine (iRecPeople_yes l _ rfl A c ll _ rfl A2 c2 r hok w (a3.moved hb) (b3.moved hb)).mono ?_
    rintro e w' ⟨v, he, ho, hb2⟩
    exact ⟨v, he, InP.of ho, hb2⟩
end Go.Proofs.Ytaaljmmnfgghfaa
