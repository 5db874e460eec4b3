import Derived.Test.YtbbgakbobefplaaBase
namespace Go.Proofs.Ytbbgakbobefplaa
open Go.RowKit

/-- Block b is one node of the program's linked list: a person and the pointer to the next node. -/
def Nd (t : TypeId) (w : World) (b : Nat) (p : Pn) (x : Value) : Prop := w.heap[b]? = some (.cells #[.int .i64 p.area, .int .i64 p.job, .int .i64 p.sex, .int .i64 p.pay, x] t (0, 0))
def Chain (t : TypeId) (w : World) : Nat → Value → List Pn → Prop
  | _, v, [] => v = .pointer none
  | lo, v, p :: l => ∃ b x, lo ≤ b ∧ v = .pointer (some ⟨b, 0, none⟩) ∧ Nd t w b p x ∧ Chain t w (b + 1) x l
/-- From node h by next pointers through the people f to node m. -/
def Path (t : TypeId) (w : World) : Nat → List Pn → Nat → Prop
  | h, [], m => h = m
  | h, p :: f, m => ∃ b, h < b ∧ (∃ q, Nd t w h q (.pointer (some ⟨b, 0, none⟩))) ∧ (∃ x, Nd t w b p x) ∧ Path t w b f m

section
variable {t : TypeId} {w w' : World} {b h m : Nat} {p q : Pn} {x y : Value}
theorem Nd.lt (hn : Nd t w b p x) : b < w.heap.size := by
  rcases Nat.lt_or_ge b w.heap.size with hlt | hge
  · exact hlt
  · unfold Nd at hn; rw [Array.getElem?_eq_none hge] at hn; cases hn
theorem Nd.cells (hn : Nd t w b p x) : w.cell? ⟨b, 0, none⟩ = some (.int .i64 p.area) ∧ w.cell? ⟨b, 1, none⟩ = some (.int .i64 p.job) ∧ w.cell? ⟨b, 2, none⟩ = some (.int .i64 p.sex) ∧
    w.cell? ⟨b, 3, none⟩ = some (.int .i64 p.pay) ∧ w.cell? ⟨b, 4, none⟩ = some x ∧ w.frozen? ⟨b, 4, none⟩ = false :=
  ⟨cell_of_row w b 0 _ _ _ hn, cell_of_row w b 1 _ _ _ hn, cell_of_row w b 2 _ _ _ hn, cell_of_row w b 3 _ _ _ hn, cell_of_row w b 4 _ _ _ hn, frozen_of_row w b 4 _ _ hn⟩
theorem Nd.inj (h1 : Nd t w b p x) (h2 : Nd t w b q y) : p = q ∧ x = y := by
  unfold Nd at h1 h2
  rw [h1] at h2
  simp only [Option.some.injEq, Obj.cells.injEq, Array.mk.injEq, List.cons.injEq, Value.int.injEq, true_and, and_true] at h2
  obtain ⟨a1, a2, a3, a4, a5⟩ := h2
  cases p; cases q; simp_all
theorem Nd.keep (hn : Nd t w b p x) (hk : w'.heap[b]? = w.heap[b]?) : Nd t w' b p x := hk.trans hn
theorem Nd.alloc (hn : Nd t w b p x) (o : Obj) : Nd t (w.alloc o) b p x := hn.keep (Below.heap_alloc w o b hn.lt)
theorem Nd.new (w : World) (t : TypeId) (p : Pn) (x : Value) : Nd t (w.alloc (.cells #[.int .i64 p.area, .int .i64 p.job, .int .i64 p.sex, .int .i64 p.pay, x] t)) w.heap.size p x := heap_alloc_new w _
theorem Nd.set_ (hn : Nd t w b p x) (y : Value) : Nd t (w.setCell ⟨b, 4, none⟩ y) b p y := by
  unfold Nd at hn ⊢
  simp [World.setCell, Array.getElem?_modify, hn]
theorem Nd.far (hn : Nd t w b p x) (hne : b ≠ m) (o : Nat) (y : Value) : Nd t (w.setCell ⟨m, o, none⟩ y) b p x :=
  hn.keep (Below.heap_setCell w ⟨m, o, none⟩ y b hne)
theorem Chain.keep {l : List Pn} : ∀ {lo : Nat} {v : Value}, Chain t w lo v l → (∀ b, lo ≤ b → b < w.heap.size → w'.heap[b]? = w.heap[b]?) → Chain t w' lo v l := by
  induction l with
  | nil => intro lo v hc _; exact hc
  | cons p l ih =>
    intro lo v hc hk
    obtain ⟨b, x, hlo, hv, hn, hc⟩ := hc
    exact ⟨b, x, hlo, hv, hn.keep (hk b hlo hn.lt), ih hc fun b' hb' hlt => hk b' (by omega) hlt⟩
theorem Chain.less {l : List Pn} {lo lo' : Nat} {v : Value} (hc : Chain t w lo v l) (hl : lo' ≤ lo) : Chain t w lo' v l := by
  cases l with
  | nil => exact hc
  | cons p l => obtain ⟨b, x, hlo, r⟩ := hc; exact ⟨b, x, by omega, r⟩
theorem Path.le {f : List Pn} : ∀ {h : Nat}, Path t w h f m → h ≤ m := by
  induction f with
  | nil => intro h hp; exact Nat.le_of_eq hp
  | cons p f ih => intro h hp; obtain ⟨b, hlt, _, _, hp⟩ := hp; have := ih hp; omega
theorem Path.keep {f : List Pn} : ∀ {h : Nat}, Path t w h f m → (∀ b, b < w.heap.size → w'.heap[b]? = w.heap[b]?) → Path t w' h f m := by
  induction f with
  | nil => intro h hp _; exact hp
  | cons p f ih =>
    intro h hp hk
    obtain ⟨b, hlt, ⟨q, hq⟩, ⟨x, hx⟩, hp⟩ := hp
    exact ⟨b, hlt, ⟨q, hq.keep (hk _ hq.lt)⟩, ⟨x, hx.keep (hk _ hx.lt)⟩, ih hp hk⟩
theorem Path.alloc {f : List Pn} (hp : Path t w h f m) (o : Obj) : Path t (w.alloc o) h f m := hp.keep fun b hb => Below.heap_alloc w o b hb
theorem Path.set_ {f : List Pn} (y : Value) : ∀ {h : Nat}, Path t w h f m → Path t (w.setCell ⟨m, 4, none⟩ y) h f m := by
  induction f with
  | nil => intro h hp; exact hp
  | cons p f ih =>
    intro h hp
    obtain ⟨b, hlt, ⟨q, hq⟩, ⟨x, hx⟩, hp⟩ := hp
    have hle := hp.le
    refine ⟨b, hlt, ⟨q, hq.far (by omega) 4 y⟩, ?_, ih hp⟩
    by_cases e : b = m
    · subst e; exact ⟨y, hx.set_ y⟩
    · exact ⟨x, hx.far e 4 y⟩
theorem Path.snoc {f : List Pn} : ∀ {h : Nat}, Path t w h f m → m < b → Nd t w m q (.pointer (some ⟨b, 0, none⟩)) → Nd t w b p x → Path t w h (f ++ [p]) b := by
  induction f with
  | nil => intro h hp hlt hq hn; cases hp; exact ⟨b, hlt, ⟨q, hq⟩, ⟨x, hn⟩, rfl⟩
  | cons p' f ih =>
    intro h hp hlt hq hn
    obtain ⟨b', hlt', hq', hx', hp⟩ := hp
    exact ⟨b', hlt', hq', hx', ih hp hlt hq hn⟩
theorem Path.chain {f l : List Pn} : ∀ {h : Nat}, Path t w h f m → Nd t w m q x → Chain t w (m + 1) x l → ∃ q' y, Nd t w h q' y ∧ Chain t w (h + 1) y (f ++ l) := by
  induction f with
  | nil => intro h hp hn hc; cases hp; exact ⟨q, x, hn, hc⟩
  | cons p f ih =>
    intro h hp hn hc
    obtain ⟨b, hlt, ⟨q', hq'⟩, ⟨x', hx'⟩, hp⟩ := hp
    obtain ⟨q'', y, hn', hc'⟩ := ih hp hn hc
    obtain ⟨rfl, rfl⟩ := hn'.inj hx'
    exact ⟨q', _, hq', b, y, hlt, rfl, hn', hc'⟩
end
end Go.Proofs.Ytbbgakbobefplaa
