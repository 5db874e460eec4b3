/- Two new rows in two variables, whatever the order. -/
import Derived.Test.YtobgceebolmfcaaDoorIMC
import Derived.OrdersHeld
namespace Go.Proofs.YtobgceebolmfcaaDoor
open Go.RowKit Go.Shelf
section
variable {P : Program} {ops : Array Oper}
theorem region_held_wide {β : Type} {F : β → World → Prop} {A : β → Act} {S : World → Prop} {n id : Nat} {K : Exit → Act → World → Prop} {a : Act} {w : World} (hm : P.follows .mixedOrders = true)
    (hK : ∀ x y, F x y → K .normal (A x) y)
    (h : wpAnyH P .any ops (fun e a y => e = .normal ∧ ∃ x, F x y ∧ a = A x) S ops.size (Array.replicate ops.size false) a w.drew) : (Code.region id ops true).wpIn Fence.wide n P K a w :=
  wpIn_wide.2 (wp_mono (wp_region_held hm h) fun e a y h => by obtain ⟨rfl, x, hx, rfl⟩ := h; exact hK x y hx)
end
abbrev rowV (B n : Nat) : Value := .slice (some ⟨B, 0, none⟩) n n
def Dj (a b : Option Nat) : Prop := ∀ k, a = some k → b ≠ some k
/-- What is there behind a part of the operations. -/
structure St (V y : World) (q d : Nat) (m1 m2 p1 p2 : Option Nat) (s1 : Value) : Prop where
  below : Below V.heap.size V y
  lt : ∀ k, (m1 = some k ∨ m2 = some k ∨ p1 = some k ∨ p2 = some k) → V.heap.size ≤ k ∧ k < y.heap.size
  f1 : ∀ B, m1 = some B → Own1 TN y V.heap.size (rowV B q) (icells (zrow q))
  f2 : ∀ B, m2 = some B → Own1 TN y V.heap.size (rowV B d) (icells (zrow d))
  g1 : ∀ B, p1 = some B → Boxed y B TI s1
  g2 : ∀ B, p2 = some B → Boxed y B TI (.slice none 0 0)
  d12 : Dj m1 m2
  dp : Dj p1 p2
  d1p : Dj m1 p1
  d1r : Dj m1 p2
  d2p : Dj m2 p1
  d2r : Dj m2 p2
variable {V y y' : World} {q d : Nat} {m1 m2 p1 p2 : Option Nat} {s1 : Value}
theorem St.start (V : World) (q d : Nat) (s : Value) : St V V.drew q d none none none none s := by
  refine ⟨(Below.refl _ _).drew, ?_, ?_, ?_, ?_, ?_, ?_, ?_, ?_, ?_, ?_, ?_⟩ <;> intro k h <;> simp at h
theorem St.later (h : St V y q d m1 m2 p1 p2 s1) (hb : Below y.heap.size y y') : St V y' q d m1 m2 p1 p2 s1 := by
  have hz := h.below.size
  refine ⟨h.below.trans (hb.mono hz), fun k hk => ⟨(h.lt k hk).1, Nat.lt_of_lt_of_le (h.lt k hk).2 hb.size⟩, fun B e => (h.f1 B e).below hb, fun B e => (h.f2 B e).below hb, fun B e => ?_, fun B e => ?_, h.d12, h.dp, h.d1p, h.d1r, h.d2p, h.d2r⟩
  · exact (hb.block B (h.lt B (by simp [e])).2).trans (h.g1 B e)
  · exact (hb.block B (h.lt B (by simp [e])).2).trans (h.g2 B e)
theorem dj_new {a : Option Nat} {n : Nat} (h : ∀ k, a = some k → k < n) : Dj a (some n) := fun k e e2 => by injection e2 with e2; have := h k e; omega
theorem dj_new' {a : Option Nat} {n : Nat} (h : ∀ k, a = some k → k < n) : Dj (some n) a := fun k e e2 => by injection e with e; have := h k e2; omega
theorem St.make1 (h : St V y q d none m2 p1 p2 s1) (hb : Below y.heap.size y y') (ho : Own1 TN y' y.heap.size (rowV y.heap.size q) (icells (zrow q))) : St V y' q d (some y.heap.size) m2 p1 p2 s1 := by
  have h2 := h.later hb
  have hz := h.below.size
  have hlt : y.heap.size < y'.heap.size := (ho.ob _ rfl).2
  exact ⟨h2.below, fun k hk => by
    rcases hk with hk | hk
    · injection hk with hk; omega
    · exact h2.lt k (.inr hk), fun B e => by injection e with e; subst e; exact ho.less hz, h2.f2, h2.g1, h2.g2, dj_new' fun k e => (h.lt k (by simp [e])).2, h2.dp, dj_new' fun k e => (h.lt k (by simp [e])).2, dj_new' fun k e => (h.lt k (by simp [e])).2, h2.d2p, h2.d2r⟩
theorem St.make2 (h : St V y q d m1 none p1 p2 s1) (hb : Below y.heap.size y y') (ho : Own1 TN y' y.heap.size (rowV y.heap.size d) (icells (zrow d))) : St V y' q d m1 (some y.heap.size) p1 p2 s1 := by
  have h2 := h.later hb
  have hz := h.below.size
  have hlt : y.heap.size < y'.heap.size := (ho.ob _ rfl).2
  exact ⟨h2.below, fun k hk => by
    rcases hk with hk | hk | hk
    · exact h2.lt k (.inl hk)
    · injection hk with hk; omega
    · exact h2.lt k (.inr (.inr hk)), h2.f1, fun B e => by injection e with e; subst e; exact ho.less hz, h2.g1, h2.g2, dj_new fun k e => (h.lt k (by simp [e])).2, h2.dp, h2.d1p, h2.d1r, dj_new' fun k e => (h.lt k (by simp [e])).2, dj_new' fun k e => (h.lt k (by simp [e])).2⟩
theorem St.alloc1 (h : St V y q d m1 m2 none p2 (.slice none 0 0)) : St V (y.alloc (.cells #[.slice none 0 0] TI)) q d m1 m2 (some y.heap.size) p2 (.slice none 0 0) := by
  have h2 := h.later ((Below.refl y.heap.size y).alloc (Nat.le_refl _) (.cells #[.slice none 0 0] TI))
  have hz := h.below.size
  exact ⟨h2.below, fun k hk => by
    rcases hk with hk | hk | hk | hk
    · exact h2.lt k (.inl hk)
    · exact h2.lt k (.inr (.inl hk))
    · injection hk with hk; subst hk; exact ⟨hz, by simp⟩
    · exact h2.lt k (.inr (.inr (.inr hk))), h2.f1, h2.f2, fun B e => by injection e with e; subst e; exact heap_alloc_new _ _, h2.g2, h2.d12, dj_new' fun k e => (h.lt k (by simp [e])).2, dj_new fun k e => (h.lt k (by simp [e])).2, h2.d1r, dj_new fun k e => (h.lt k (by simp [e])).2, h2.d2r⟩
theorem St.alloc2 (h : St V y q d m1 m2 p1 none s1) : St V (y.alloc (.cells #[.slice none 0 0] TI)) q d m1 m2 p1 (some y.heap.size) s1 := by
  have h2 := h.later ((Below.refl y.heap.size y).alloc (Nat.le_refl _) (.cells #[.slice none 0 0] TI))
  have hz := h.below.size
  exact ⟨h2.below, fun k hk => by
    rcases hk with hk | hk | hk | hk
    · exact h2.lt k (.inl hk)
    · exact h2.lt k (.inr (.inl hk))
    · exact h2.lt k (.inr (.inr (.inl hk)))
    · injection hk with hk; subst hk; exact ⟨hz, by simp⟩, h2.f1, h2.f2, h2.g1, fun B e => by injection e with e; subst e; exact heap_alloc_new _ _, h2.d12, dj_new fun k e => (h.lt k (by simp [e])).2, h2.d1p, dj_new fun k e => (h.lt k (by simp [e])).2, h2.d2p, dj_new fun k e => (h.lt k (by simp [e])).2⟩
theorem own1_set {T : TypeId} {B P n : Nat} {u : Value} {cs : List Value} (h : Own1 T y V.heap.size (rowV B n) cs) (hne : B ≠ P) : Own1 T (y.setCell ⟨P, 0, none⟩ u) V.heap.size (rowV B n) cs :=
  h.same fun k e => by
    have e2 : some B = some k := e
    injection e2 with e2
    exact Below.heap_setCell y ⟨P, 0, none⟩ u k (by show k ≠ P; omega)
theorem St.store1 {B P : Nat} (h : St V y q d (some B) m2 (some P) p2 (.slice none 0 0)) : St V (y.setCell ⟨P, 0, none⟩ (rowV B q)) q d (some B) m2 (some P) p2 (rowV B q) := by
  have hz := (h.lt P (by simp)).1
  refine ⟨h.below.setCell (p := ⟨P, 0, none⟩) hz _, fun k hk => by rw [World.size_setCell]; exact h.lt k hk, fun B' e => own1_set (h.f1 B' e) fun e2 => by injection e with e; subst e; exact h.d1p _ rfl (by rw [e2]), fun B' e => own1_set (h.f2 B' e) fun e2 => h.d2p _ e (by rw [e2]), fun B' e => ?_, fun B' e => ?_, h.d12, h.dp, h.d1p, h.d1r, h.d2p, h.d2r⟩
  · injection e with e; subst e; exact (h.g1 P rfl).set _
  · exact (h.g2 B' e).other (fun e2 => h.dp P rfl (by rw [e, e2])) _
/-- What is there behind all of them. -/
def Fin2 (V : World) (q d : Nat) (x : Nat × Nat × Nat × Nat) (y : World) : Prop :=
  Below V.heap.size V y ∧ Own1 TN y V.heap.size (rowV x.1 q) (icells (zrow q)) ∧ Own1 TN y V.heap.size (rowV x.2.1 d) (icells (zrow d)) ∧ Boxed y x.2.2.1 TI (rowV x.1 q) ∧ Boxed y x.2.2.2 TI (rowV x.2.1 d) ∧
    x.1 ≠ x.2.1 ∧ x.2.2.1 ≠ x.2.2.2 ∧ x.1 ≠ x.2.2.1 ∧ x.1 ≠ x.2.2.2 ∧ x.2.1 ≠ x.2.2.1 ∧ x.2.1 ≠ x.2.2.2 ∧ V.heap.size ≤ x.2.2.1 ∧ V.heap.size ≤ x.2.2.2
theorem St.store2 {B B2 P P2 : Nat} (h : St V y q d (some B) (some B2) (some P) (some P2) (rowV B q)) : Fin2 V q d (B, B2, P, P2) (y.setCell ⟨P2, 0, none⟩ (rowV B2 d)) := by
  have hz := (h.lt P2 (by simp)).1
  have n1 : ∀ {a b : Nat}, Dj (some a) (some b) → a ≠ b := fun hd e => hd _ rfl (by rw [e])
  exact ⟨h.below.setCell (p := ⟨P2, 0, none⟩) hz _, own1_set (h.f1 B rfl) (n1 h.d1r), own1_set (h.f2 B2 rfl) (n1 h.d2r), (h.g1 P rfl).other (n1 h.dp) _, (h.g2 P2 rfl).set _, n1 h.d12, n1 h.dp, n1 h.d1p, n1 h.d1r, n1 h.d2p, n1 h.d2r, (h.lt P (by simp)).1, hz⟩
theorem wp_mkrow {o : Oper} {a : Act} {w : World} {K : Act → World → Prop} {Q : Exit → Act → World → Prop} (l : Operand) (ho : o.op = .makeSlice TI l l) (n : Nat) (hn : n ≤ 4) (hl : a.eval l = .int .i64 (n : Int))
    (h : ∀ w', Below w.heap.size w w' → Own1 TN w' w.heap.size (rowV w.heap.size n) (icells (zrow n)) → K (a.put o.dst (rowV w.heap.size n)) w') : o.wp Tryd.prog a w K Q := by
  obtain ⟨i0, hi0, hz0, hs0, hs1⟩ := info_parts (P := Tryd.prog) (e := TN) (z := .int .i64 0) (size := 1) (bytes := 8) (by kernel_rfl)
  obtain ⟨w', hrun, h2, h3⟩ := run_make_full (P := Tryd.prog) w w.heap.size TI TN i0 (.int .i64 0) 1 Tryd.underlying30 hi0 hz0 hs0 .i64 .i64 n (by rw [hs1]; omega) (by simp only [maxLen]; omega) (Nat.le_refl _)
  have e : (Value.int IntKind.i64 0).cells = #[.int .i64 0] := rfl
  rw [e, made_one] at h2
  unfold Oper.wp
  simp [execOp, ho, hl, hrun, Result.andThen]
  exact h w' ((Below.refl _ _).grown h3 (Nat.le_refl _) (fun k hk => by cases hk)) (by unfold Own1; rw [zrow_cells, List.length_replicate]; exact h2)
end Go.Proofs.YtobgceebolmfcaaDoor
