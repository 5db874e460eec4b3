/- Three things in memory that lie apart. -/
import Derived.Test.YtcmnbodnjemjoaaTI
import Derived.Test.YtcmnbodnjemjoaaTL4
namespace Go.Proofs.Ytcmnbodnjemjoaa
open Go.RowKit
/-- P hangs on the blocks of f alone. -/
def Hangs (P : World → Prop) (f : Nat → Prop) : Prop := ∀ w w' : World, w.heap.size ≤ w'.heap.size → (∀ k, f k → w'.heap[k]? = w.heap[k]?) → P w → P w'
/-- a, b, c hold in w; each hangs on blocks made since W, and no block serves two of them. -/
structure Tri (W w : World) (a b c : World → Prop) (fa fb fc : Nat → Prop) : Prop where
  lo : Below W.heap.size W w
  pa : a w
  pb : b w
  pc : c w
  sa : Hangs a fa
  sb : Hangs b fb
  sc : Hangs c fc
  la : ∀ k, fa k → W.heap.size ≤ k ∧ k < w.heap.size
  lb : ∀ k, fb k → W.heap.size ≤ k ∧ k < w.heap.size
  lc : ∀ k, fc k → W.heap.size ≤ k ∧ k < w.heap.size
  ab : ∀ k, fa k → ¬ fb k
  ac : ∀ k, fa k → ¬ fc k
  bc : ∀ k, fb k → ¬ fc k
section
variable {W w w' : World} {a b c a' : World → Prop} {fa fb fc fa' : Nat → Prop}
theorem Tri.sab (h : Tri W w a b c fa fb fc) : Tri W w b a c fb fa fc :=
  ⟨h.lo, h.pb, h.pa, h.pc, h.sb, h.sa, h.sc, h.lb, h.la, h.lc, fun k x y => h.ab k y x, h.bc, h.ac⟩
theorem Tri.sac (h : Tri W w a b c fa fb fc) : Tri W w c b a fc fb fa :=
  ⟨h.lo, h.pc, h.pb, h.pa, h.sc, h.sb, h.sa, h.lc, h.lb, h.la, fun k x y => h.bc k y x, fun k x y => h.ac k y x, fun k x y => h.ab k y x⟩
theorem Tri.grow (h : Tri W w a b c fa fb fc) (hlo : Below W.heap.size W w') (hz : w.heap.size ≤ w'.heap.size) (hk : ∀ k, k < w.heap.size → ¬ fa k → w'.heap[k]? = w.heap[k]?) (hp : a' w') (hs : Hangs a' fa')
    (hf : ∀ k, fa' k → (fa k ∨ w.heap.size ≤ k) ∧ k < w'.heap.size) : Tri W w' a' b c fa' fb fc := by
  refine ⟨hlo, hp, h.sb w w' hz (fun k x => hk k (h.lb k x).2 fun e => h.ab k e x) h.pb, h.sc w w' hz (fun k x => hk k (h.lc k x).2 fun e => h.ac k e x) h.pc, hs, h.sb, h.sc, fun k x => ?_,
    fun k x => ⟨(h.lb k x).1, Nat.lt_of_lt_of_le (h.lb k x).2 hz⟩, fun k x => ⟨(h.lc k x).1, Nat.lt_of_lt_of_le (h.lc k x).2 hz⟩, fun k x y => ?_, fun k x y => ?_, h.bc⟩
  · obtain ⟨h1 | h1, h2⟩ := hf k x
    · exact ⟨(h.la k h1).1, h2⟩
    · exact ⟨Nat.le_trans h.lo.size h1, h2⟩
  · rcases (hf k x).1 with h1 | h1
    · exact h.ab k h1 y
    · have := (h.lb k y).2; omega
  · rcases (hf k x).1 with h1 | h1
    · exact h.ac k h1 y
    · have := (h.lc k y).2; omega
def nilP : World → Prop := fun _ => True
def nilF : Nat → Prop := fun _ => False
def rowP (N : Nat) (v : Value) (x : List Int) : World → Prop := fun w => Own1 TN w N v (icells x)
def obF (v : Value) : Nat → Prop := fun k => v.ownBlock = some k
def litP (g : Nat) (T : TypeId) (x : Value) : World → Prop := fun w => w.heap[g]? = some (.cells #[x] T (0, 0))
def onF (g : Nat) : Nat → Prop := fun k => k = g
def copP (B T : Nat) (v : Value) (t : Tb) : World → Prop := fun w => Mine w B T v t
def rgF (B T : Nat) : Nat → Prop := fun k => B ≤ k ∧ k < T
theorem hangs_nil : Hangs nilP nilF := fun _ _ _ _ h => h
theorem hangs_row (N : Nat) (v : Value) (x : List Int) : Hangs (rowP N v x) (obF v) := fun _ _ _ hk h => Own1.same h fun k e => hk k e
theorem hangs_lit (g : Nat) (T : TypeId) (x : Value) : Hangs (litP g T x) (onF g) := fun _ _ _ hk h => (hk g rfl).trans h
theorem hangs_cop (B T : Nat) (v : Value) (t : Tb) : Hangs (copP B T v t) (rgF B T) := fun _ _ hz hk h => Mine.same h hz fun k x y => hk k ⟨x, y⟩
theorem Tri.start (W : World) : Tri W W nilP nilP nilP nilF nilF nilF :=
  ⟨Below.refl _ _, trivial, trivial, trivial, hangs_nil, hangs_nil, hangs_nil, fun _ h => h.elim, fun _ h => h.elim, fun _ h => h.elim, fun _ h => h.elim, fun _ h => h.elim, fun _ h => h.elim⟩
theorem Tri.drew (h : Tri W w a b c fa fb fc) : Tri W w.drew a b c fa fb fc :=
  ⟨h.lo.drew, h.sa w w.drew (Nat.le_refl _) (fun _ _ => rfl) h.pa, h.sb w w.drew (Nat.le_refl _) (fun _ _ => rfl) h.pb, h.sc w w.drew (Nat.le_refl _) (fun _ _ => rfl) h.pc, h.sa, h.sb, h.sc, h.la, h.lb, h.lc, h.ab, h.ac, h.bc⟩
theorem Tri.new0 (h : Tri W w nilP b c nilF fb fc) : Tri W (w.alloc (.cells #[] TN)) (rowP W.heap.size (.slice (some ⟨w.heap.size, 0, none⟩) 0 0) []) b c (obF (.slice (some ⟨w.heap.size, 0, none⟩) 0 0)) fb fc :=
  h.grow (h.lo.alloc h.lo.size _) (by simp) (fun k hk _ => Below.heap_alloc w _ k hk) (own1_new h.lo.size) (hangs_row _ _ _) fun k e => by
    have e2 : some w.heap.size = some k := e
    injection e2 with e2
    subst e2
    exact ⟨.inr (Nat.le_refl _), by simp⟩
theorem Tri.lit (h : Tri W w a nilP c fa nilF fc) (T : TypeId) (x : Value) : Tri W (w.alloc (.cells #[x] T)) a (litP w.heap.size T x) c fa (onF w.heap.size) fc :=
  (h.sab.grow (h.lo.alloc h.lo.size _) (by simp) (fun k hk _ => Below.heap_alloc w _ k hk) (heap_alloc_new w _) (hangs_lit _ _ _) fun k e => by
    have e2 : k = w.heap.size := e
    subst e2
    exact ⟨.inr (Nat.le_refl _), by simp⟩).sab
theorem Tri.copy (h : Tri W w a b nilP fa fb nilF) {v : Value} {t : Tb} (ho : InR w' w.heap.size w'.heap.size v t) (hb : Below w.heap.size w w') : Tri W w' a b (copP w.heap.size w'.heap.size v t) fa fb (rgF w.heap.size w'.heap.size) :=
  (h.sac.grow (h.lo.trans (hb.mono h.lo.size)) hb.size (fun k hk _ => hb.block k hk) ho (hangs_cop _ _ _ _) fun _ e => ⟨.inr e.1, e.2⟩).sac
theorem Tri.dropB (h : Tri W w a b c fa fb fc) : Tri W w a nilP c fa nilF fc :=
  ⟨h.lo, h.pa, trivial, h.pc, h.sa, hangs_nil, h.sc, h.la, fun _ h => h.elim, h.lc, fun _ _ h => h.elim, h.ac, fun _ h => h.elim⟩
theorem Tri.app {v v' : Value} {x y : List Int} (h : Tri W w (rowP W.heap.size v x) b c (obF v) fb fc) (ho : Own1 TN w' W.heap.size v' (icells y)) (hg : w.grownBy w' v.ownBlock) (hat : v'.ownBlock = v.ownBlock ∨ v'.ownBlock = some w.heap.size) :
    Tri W w' (rowP W.heap.size v' y) b c (obF v') fb fc :=
  h.grow (h.lo.grown hg h.lo.size fun k e => (h.la k e).1) hg.size (fun k hk hn => hg.block k hk fun e => hn e.symm) ho (hangs_row _ _ _) fun k e => by
    have e1 : v'.ownBlock = some k := e
    refine ⟨?_, (ho.ob k e1).2⟩
    rcases hat with q | q
    · exact .inl (by show v.ownBlock = some k; rw [← q]; exact e1)
    · rw [q] at e1; injection e1 with e1; exact .inr (by omega)
end
theorem row_at (w' : World) (g : Nat) (T : TypeId) (hv : Value) (hg : w'.heap[g]? = some (.cells #[hv] T (0, 0))) : Row w' (g + 1) (some ⟨g, 0, none⟩) [hv] :=
  .inr ⟨_, 0, rfl, Nat.lt_succ_self _, fun j u hu => by rw [Nat.zero_add, cell_of_row _ _ j #[hv] T (0, 0) hg]; simpa using hu⟩
section
variable {W w : World} {b c : World → Prop} {fb fc : Nat → Prop} {ops : Array Oper} {o : Oper} {a : Act} {K : Act → World → Prop} {Q : Exit → Act → World → Prop} {E : Prop}
theorem step_row (hgd : o.guard = none) (s x : Operand) (ho : o.op = .call { callee := .builtin .append, args := #[s, x], argTypes := #[TI, TI] }) {v : Value} (hS : Tri W w (rowP W.heap.size v []) b c (obF v) fb fc) (hs : a.eval s = v)
    (A : Option Addr) (n d : Nat) (r0 : List Int) (hx : a.eval x = .slice A n d) (hn : n = r0.length) (hr : Row W W.heap.size A (icells r0)) (hlen : r0.length ≤ 1000)
    (h : ∀ v' w', Tri W w' (rowP W.heap.size v' r0) b c (obF v') fb fc → K (a.put o.dst v') w') : if Region.wanted o (yielded ops a.tmps) = true then Oper.wp Try.prog o a w K Q else E :=
  step1 one_I hgd s x ho W.heap.size v (icells []) hs hS.pa W.heap.size A n d (icells r0) (by rw [icells_len]; exact hn) hx (hr.below hS.lo (Nat.le_refl _)) (icells_one r0) (by rw [icells_len, icells_len]; simp; omega) hS.lo.size
    fun v' w' h2 h3 h4 => h v' w' (hS.app h2 h3 h4)
theorem step_one (hgd : o.guard = none) (s x : Operand) (ho : o.op = .call { callee := .builtin .append, args := #[s, x], argTypes := #[TI, TI] }) {v : Value} {r0 : List Int} {g : Nat} {z : Int}
    (hS : Tri W w (rowP W.heap.size v r0) (litP g TN (.int .i64 z)) c (obF v) (onF g) fc) (hs : a.eval s = v) (hx : a.eval x = .slice (some ⟨g, 0, none⟩) 1 1) (hlen : r0.length ≤ 1000)
    (h : ∀ v' w', Tri W w' (rowP W.heap.size v' (r0 ++ [z])) nilP c (obF v') nilF fc → K (a.put o.dst v') w') : if Region.wanted o (yielded ops a.tmps) = true then Oper.wp Try.prog o a w K Q else E :=
  step1 one_I hgd s x ho W.heap.size v (icells r0) hs hS.pa (g + 1) (some ⟨g, 0, none⟩) 1 1 (icells [z]) rfl hx (row_at w g TN _ hS.pb) (icells_one [z]) (by rw [icells_len, icells_len]; simp; omega) hS.lo.size
    fun v' w' h2 h3 h4 => h v' w' (Tri.dropB (hS.app (by rw [icells_app]; exact h2) h3 h4))
theorem step_rows (hgd : o.guard = none) (s x : Operand) (ho : o.op = .call { callee := .builtin .append, args := #[s, x], argTypes := #[TII, TII] }) {v u : Value} {r : List Int} {g B T : Nat} {t : Tb}
    (hS : Tri W w (rowP W.heap.size v r) (litP g TI v) (copP B T u t) (obF v) (onF g) (rgF B T)) (hs : a.eval s = u) (hx : a.eval x = .slice (some ⟨g, 0, none⟩) 1 1) (hlen : t.length ≤ 1000)
    (h : ∀ v' w', IsR w' v' (t ++ [r]) → Below W.heap.size W w' → K (a.put o.dst v') w') : if Region.wanted o (yielded ops a.tmps) = true then Oper.wp Try.prog o a w K Q else E := by
  obtain ⟨hT, huT, hs0, ho0, hr0⟩ := (show Mine w B T u t from hS.pc)
  have hpa : Own1 TN w W.heap.size v (icells r) := hS.pa
  have hw : Region.wanted o (yielded ops a.tmps) = true := by simp [Region.wanted, hgd]
  rw [if_pos hw]
  have hub : ∀ k, u.ownBlock = some k → B ≤ k ∧ k < T := fun k e => ⟨(ho0.ob k e).1, huT k e⟩
  have hh : Heads w 0 u.ownBlock [v] [r] := hpa.head (Nat.zero_le _) u.ownBlock fun k e e2 => hS.ac k e (hub k e2.symm)
  have hown : OwnLL w 0 0 u t := ⟨hs0, ho0.less (Nat.zero_le _), hr0.heads.less (Nat.zero_le _)⟩
  refine wp_appendLL s x ho 0 0 u t hs hown (g + 1) _ 1 1 [v] [r] rfl hx (row_at w g TI v hS.pb) hh (by simp; omega) (Nat.zero_le _) fun v' w' h2 h3 => h v' w' ?_ ?_
  · obtain ⟨A, c, hv, h1, h2, h3⟩ := h2.form
    exact ⟨A, c, hv, h1, h2, h3⟩
  · exact hS.lo.grown h3 hS.lo.size fun k e => (hS.lc k (hub k e)).1
end
end Go.Proofs.Ytcmnbodnjemjoaa
