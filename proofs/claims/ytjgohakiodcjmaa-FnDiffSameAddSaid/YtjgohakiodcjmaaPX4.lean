/- Laws of chapter 15 on people. -/
import Derived.Test.YtjgohakiodcjmaaSS
import Derived.Test.YtjgohakiodcjmaaPG
import Derived.Test.YtjgohakiodcjmaaDP
import Derived.Test.YtjgohakiodcjmaaS9
import Derived.Test.YtjgohakiodcjmaaID2
import Derived.Test.YtjgohakiodcjmaaSD
import Derived.Test.YtjgohakiodcjmaaIM12
import Derived.Test.YtjgohakiodcjmaaTLA
import Derived.Test.YtjgohakiodcjmaaPX1
import Derived.OrdersHeld
import Derived.Deep.RegionHeld3
import Derived.Deep.CutRange
import Derived.Maps.AppendAt
set_option maxRecDepth 100000
namespace Go.Proofs.Ytjgohakiodcjmaa
open Go.RowKit

section
variable {W w w' : World} {a b a' : World → Prop} {fa fb fa' : Nat → Prop}
def HangsP (P : World → Prop) (f : Nat → Prop) : Prop := ∀ w w' : World, (∀ k, f k → w'.heap[k]? = w.heap[k]?) → P w → P w'
structure Duo (W w : World) (a b : World → Prop) (fa fb : Nat → Prop) : Prop where
  lo : Below W.heap.size W w
  pa : a w
  pb : b w
  sa : HangsP a fa
  sb : HangsP b fb
  la : ∀ k, fa k → W.heap.size ≤ k ∧ k < w.heap.size
  lb : ∀ k, fb k → W.heap.size ≤ k ∧ k < w.heap.size
  ab : ∀ k, fa k → ¬ fb k
theorem Duo.swap (h : Duo W w a b fa fb) : Duo W w b a fb fa := ⟨h.lo, h.pb, h.pa, h.sb, h.sa, h.lb, h.la, fun k x y => h.ab k y x⟩
theorem Duo.grow (h : Duo W w a b fa fb) (hlo : Below W.heap.size W w') (hz : w.heap.size ≤ w'.heap.size) (hk : ∀ k, k < w.heap.size → ¬ fa k → w'.heap[k]? = w.heap[k]?) (hp : a' w') (hs : HangsP a' fa')
    (hf : ∀ k, fa' k → (fa k ∨ w.heap.size ≤ k) ∧ k < w'.heap.size) : Duo W w' a' b fa' fb := by
  refine ⟨hlo, hp, h.sb w w' (fun k x => hk k (h.lb k x).2 fun e => h.ab k e x) h.pb, hs, h.sb, fun k x => ?_, fun k x => ⟨(h.lb k x).1, Nat.lt_of_lt_of_le (h.lb k x).2 hz⟩, fun k x y => ?_⟩
  · obtain ⟨h1 | h1, h2⟩ := hf k x
    · exact ⟨(h.la k h1).1, h2⟩
    · exact ⟨Nat.le_trans h.lo.size h1, h2⟩
  · rcases (hf k x).1 with h1 | h1
    · exact h.ab k h1 y
    · have := (h.lb k y).2; omega
/-- A list in memory and a person laid down for it, so far as they are there. -/
def chP (N : Nat) (p : Pn) (ov : Option (Value × List Pn)) (og : Option Nat) : World → Prop := fun w =>
  (∀ v l, ov = some (v, l) → Own w N v l) ∧ (∀ g, og = some g → w.heap[g]? = some (lit1 p)) ∧ ∀ v l g, ov = some (v, l) → og = some g → v.ownBlock ≠ some g
def chF (ov : Option (Value × List Pn)) (og : Option Nat) : Nat → Prop := fun k => (∃ v l, ov = some (v, l) ∧ v.ownBlock = some k) ∨ og = some k
theorem hangs_ch (N : Nat) (p : Pn) (ov : Option (Value × List Pn)) (og : Option Nat) : HangsP (chP N p ov og) (chF ov og) := fun _ _ hk h =>
  ⟨fun v l e => (h.1 v l e).same fun k e2 => hk k (.inl ⟨v, l, e, e2⟩), fun g e => (hk g (.inr e)).trans (h.2.1 g e), h.2.2⟩
abbrev Dt (W w : World) (p : Pn) (o1 : Option (Value × List Pn)) (g1 : Option Nat) (o2 : Option (Value × List Pn)) (g2 : Option Nat) : Prop :=
  Duo W w (chP W.heap.size p o1 g1) (chP W.heap.size p o2 g2) (chF o1 g1) (chF o2 g2)
variable {p : Pn} {o1 o2 : Option (Value × List Pn)} {g1 g2 : Option Nat}
theorem Dt.start (W : World) (p : Pn) : Dt W W.drew p none none none none :=
  ⟨(Below.refl _ _).drew, ⟨fun _ _ e => (by cases e), fun _ e => (by cases e), fun _ _ _ e => (by cases e)⟩, ⟨fun _ _ e => (by cases e), fun _ e => (by cases e), fun _ _ _ e => (by cases e)⟩, hangs_ch _ _ _ _, hangs_ch _ _ _ _,
    fun k h => (by rcases h with ⟨_, _, e, _⟩ | e <;> cases e), fun k h => (by rcases h with ⟨_, _, e, _⟩ | e <;> cases e), fun k h => (by rcases h with ⟨_, _, e, _⟩ | e <;> cases e)⟩
theorem Dt.new (h : Dt W w p none g1 o2 g2) : Dt W (w.alloc (.cells #[] TP)) p (some (.slice (some ⟨w.heap.size, 0, none⟩) 0 0, [])) g1 o2 g2 :=
  Duo.grow h (h.lo.alloc h.lo.size _) (by simp) (fun k hk _ => Below.heap_alloc w _ k hk)
    ⟨fun v l e => by injection e with e; injection e with e1 e2; subst e1; subst e2; exact own_new W w h.lo,
     fun g e => (Below.heap_alloc w _ g (h.la g (.inr e)).2).trans (h.pa.2.1 g e),
     fun v l g e e2 e3 => by
      injection e with e; injection e with e1 _; subst e1
      have e4 : some w.heap.size = some g := e3
      injection e4 with e4
      have := (h.la g (.inr e2)).2; omega⟩
    (hangs_ch _ _ _ _) fun k hf => by
      rcases hf with ⟨v, l, e, e2⟩ | e
      · injection e with e; injection e with e1 _; subst e1
        have e4 : some w.heap.size = some k := e2
        injection e4 with e4
        subst e4
        exact ⟨.inr (Nat.le_refl _), by simp⟩
      · exact ⟨.inl (.inr e), by have := (h.la k (.inr e)).2; simp; omega⟩
theorem Dt.lit (h : Dt W w p o1 none o2 g2) : Dt W (w.alloc (lit1 p)) p o1 (some w.heap.size) o2 g2 :=
  Duo.grow h (h.lo.alloc h.lo.size _) (by simp) (fun k hk _ => Below.heap_alloc w _ k hk)
    ⟨fun v l e => (h.pa.1 v l e).alloc _, fun g e => by injection e with e; subst e; exact heap_alloc_new w _,
     fun v l g e e2 e3 => by
      injection e2 with e2
      have := (h.la g (.inl ⟨v, l, e, e3⟩)).2; omega⟩
    (hangs_ch _ _ _ _) fun k hf => by
      rcases hf with ⟨v, l, e, e2⟩ | e
      · exact ⟨.inl (.inl ⟨v, l, e, e2⟩), by have := (h.la k (.inl ⟨v, l, e, e2⟩)).2; simp; omega⟩
      · injection e with e; subst e
        exact ⟨.inr (Nat.le_refl _), by simp⟩
theorem Dt.app {v v' : Value} {x y : List Pn} (h : Dt W w p (some (v, x)) g1 o2 g2) (ho : Own w' W.heap.size v' y) (hg : w.grownBy w' v.ownBlock) (hat : v'.ownBlock = v.ownBlock ∨ v'.ownBlock = some w.heap.size) :
    Dt W w' p (some (v', y)) g1 o2 g2 :=
  Duo.grow h (h.lo.grown hg h.lo.size fun k e => (h.la k (.inl ⟨v, x, rfl, e⟩)).1) hg.size (fun k hk hn => hg.block k hk fun e => hn (.inl ⟨v, x, rfl, e.symm⟩))
    ⟨fun v l e => by injection e with e; injection e with e1 e2; subst e1; subst e2; exact ho,
     fun g e => (hg.block g (h.la g (.inr e)).2 fun e2 => h.pa.2.2 v x g rfl e e2.symm).trans (h.pa.2.1 g e),
     fun v2 l g e e2 e3 => by
      injection e with e; injection e with e1 _; subst e1
      rcases hat with q | q
      · exact h.pa.2.2 v x g rfl e2 (by rw [← q]; exact e3)
      · rw [q] at e3; injection e3 with e3; have := (h.la g (.inr e2)).2; omega⟩
    (hangs_ch _ _ _ _) fun k hf => by
      rcases hf with ⟨v2, l, e, e2⟩ | e
      · injection e with e; injection e with e1 _; subst e1
        refine ⟨?_, (World.ownsRow.lt ho k e2).2⟩
        rcases hat with q | q
        · exact .inl (.inl ⟨v, x, rfl, by rw [← q]; exact e2⟩)
        · rw [q] at e2; injection e2 with e2; exact .inr (by omega)
      · exact ⟨.inl (.inr e), Nat.lt_of_lt_of_le (h.la k (.inr e)).2 hg.size⟩
theorem Dt.drop (h : Dt W w p o1 g1 o2 g2) : Dt W w p o1 none o2 g2 :=
  Duo.grow h h.lo (Nat.le_refl _) (fun _ _ _ => rfl) ⟨h.pa.1, fun _ e => by (cases e), fun _ _ _ _ e => by (cases e)⟩ (hangs_ch _ _ _ _) fun k hf => by
    rcases hf with ⟨v, l, e, e2⟩ | e
    · exact ⟨.inl (.inl ⟨v, l, e, e2⟩), (h.la k (.inl ⟨v, l, e, e2⟩)).2⟩
    · cases e
theorem Dt.swap (h : Dt W w p o1 g1 o2 g2) : Dt W w p o2 g2 o1 g1 := Duo.swap h
end
set_option maxRecDepth 100000 in
theorem run_append_peopleA (w : World) (ty : TypeId) (base : Nat) (v : Value) (l : List Pn) (hown : Own w base v l) (Bd : Nat) (B : Option Addr) (m d : Nat) (l2 : List Pn) (hm : m = l2.length) (hr : Row w Bd B (pcells l2))
    (hlen : l.length + l2.length ≤ 1000000) (hbase : base ≤ w.heap.size) :
    ∃ v' w', (Builtin.append_ #[TPS, TPS] ty #[v, .slice B m d]).run Try.prog w = .ok v' w' ∧ Own w' base v' (l ++ l2) ∧ w.grownBy w' v.ownBlock ∧ (v'.ownBlock = v.ownBlock ∨ v'.ownBlock = some w.heap.size) := by
  subst hm
  obtain ⟨i0, hi0, hz0, hz1, hz2⟩ := info_parts info_P
  have ht : Try.prog.underlying TPS = some (.slice TP) := Try.underlying23
  have hl : (pcells l2).length = l2.length * 4 := pcells_length l2
  have fin : ∀ (v' : Value) (w' : World), w'.ownsRow base TP 4 v' (l.length + l2.length) (pcells l ++ pcells l2) → Own w' base v' (l ++ l2) := fun v' w' h => by
    unfold Own; rw [pcells_app, List.length_append]; exact h
  rcases B with _ | ad
  · have h0 : l2 = [] := by
      rcases hr with hr | ⟨b, o, hA, _⟩
      · rw [hr] at hl; exact List.eq_nil_of_length_eq_zero (by simp at hl; omega)
      · cases hA
    subst h0
    refine ⟨v, w, ?_, by simpa using hown, World.grownBy.refl w _, .inl rfl⟩
    rcases hown.2 with ⟨rfl, h0⟩ | ⟨g, cap, cur, rfl, _, _, hnc, _⟩
    · simp [Builtin.append_, run_underlying ht, sizeOf, typeInfo, hi0, Builtin.lenOf, Builtin.firstCells]
    · simp [Builtin.append_, run_underlying ht, sizeOf, typeInfo, hi0, Builtin.lenOf, Builtin.firstCells, hnc, storeCells]
  · have hcells : ∀ j u, (pcells l2)[j]? = some u → w.cell? (ad.add j) = some u := by
      intro j u hu
      rcases hr with hr | ⟨b, o, hA, hb, hc⟩
      · rw [hr] at hu; simp at hu
      · injection hA with hA
        subst hA
        rw [Addr.add_lit]; exact hc j u hu
    obtain ⟨v', w', hrun, h2, h3, _, h4⟩ := run_append_own_at (P := Try.prog) w base TPS ty TP i0 _ 4 32 ht hi0 hz0 hz1 hz2 rfl (by omega) v l.length (pcells l) hown ad l2.length d (pcells l2) hl hcells (pcells_one_cell l2) (by simp only [maxLen]; omega) (by omega) hbase
    exact ⟨v', w', hrun, fin v' w' h2, h3, h4⟩
section
variable {W w : World} {p : Pn} {o2 : Option (Value × List Pn)} {g1 g2 : Option Nat} {o : Oper} {a : Act} {K : Act → World → Prop} {Q : Exit → Act → World → Prop}
theorem wp_copyP (s x : Operand) (ho : o.op = .call { callee := .builtin .append, args := #[s, x], argTypes := #[TPS, TPS] }) {v : Value} (hs : a.eval s = v) (hS : Dt W w p (some (v, [])) g1 o2 g2)
    (A : Option Addr) (n d : Nat) (l : List Pn) (hx : a.eval x = .slice A n d) (hn : n = l.length) (hr : Row W W.heap.size A (pcells l)) (hl : l.length ≤ 1000)
    (h : ∀ v' w', Dt W w' p (some (v', l)) g1 o2 g2 → K (a.put o.dst v') w') : o.wp Try.prog a w K Q := by
  obtain ⟨v', w', hrun, h2, h3, h4⟩ := run_append_peopleA w o.type W.heap.size v [] (hS.pa.1 v [] rfl) W.heap.size A n d l hn (hr.below hS.lo (Nat.le_refl _)) (by simp; omega) hS.lo.size
  unfold Oper.wp execOp
  simp only [ho, resolve, invoke, builtin, Sem.run_bind, Sem.run_pure, Result.andThen_ok, List.map_toArray, List.map_cons, List.map_nil, hs, hx, hrun]
  exact h v' w' (hS.app (by simpa using h2) h3 h4)
theorem wp_moreP (s x : Operand) (ho : o.op = .call { callee := .builtin .append, args := #[s, x], argTypes := #[TPS, TPS] }) {v : Value} {l : List Pn} {g : Nat} (hs : a.eval s = v) (hS : Dt W w p (some (v, l)) (some g) o2 g2)
    (hx : a.eval x = .slice (some ⟨g, 0, none⟩) 1 1) (hl : l.length ≤ 1000)
    (h : ∀ v' w', Dt W w' p (some (v', l ++ [p])) none o2 g2 → K (a.put o.dst v') w') : o.wp Try.prog a w K Q := by
  obtain ⟨v', w', hrun, h2, h3, h4⟩ := run_append_peopleA w o.type W.heap.size v l (hS.pa.1 v l rfl) (g + 1) _ 1 1 [p] rfl (rowA (hS.pa.2.1 g rfl) (Nat.lt_succ_self _)) (by simp; omega) hS.lo.size
  unfold Oper.wp execOp
  simp only [ho, resolve, invoke, builtin, Sem.run_bind, Sem.run_pure, Result.andThen_ok, List.map_toArray, List.map_cons, List.map_nil, hs, hx, hrun]
  exact h v' w' (hS.app h2 h3 h4).drop
theorem castL {H : Nat → Array Bool → Act → World → Prop} {n : Nat} {l l' : Array Bool} (h : l = l') (h2 : H n l' a w) : H n l a w := h ▸ h2
theorem capture {P : Program} {md : Region.Mode} {ops : Array Oper} {S : World → Prop} {n : Nat} {l : Array Bool} (h : ∀ H : Nat → Array Bool → Act → World → Prop, H = wpAnyH P md ops Q S → H n l a w) : wpAnyH P md ops Q S n l a w := h _ rfl
end
set_option maxHeartbeats 4000000 in
theorem w_DiffSameAdd (A : Option Addr) (n c : Nat) (hnc : n ≤ c) (hn : n ≤ maxLen) (A2 : Option Addr) (m c2 : Nat) (_hmc : m ≤ c2) (hm : m ≤ maxLen) (w : World) (hb : Bytes w w.heap.size A n) (_hb2 : Bytes w w.heap.size A2 m) :
    Calls Try.prog 8 #[.slice A n c, .slice A2 m c2] w fun e w' => e = .returned (.bool true) ∧ Below w.heap.size w w' := by
  have hn2 := hn
  have hm2 := hm
  unfold maxLen at hn2 hm2
  rcases (show 1048576 < n ∨ (¬ 1048576 < n ∧ 1048576 < m) ∨ ¬ 1048576 < n ∧ ¬ 1048576 < m by omega) with hbig | ⟨hbig, hbig2⟩ | ⟨hbig, hbig2⟩
  · go_enter Try.func8, Try.ntmps8
    go_wp2
    go_ret
    exact ⟨rfl, Below.refl _ _⟩
  · go_enter Try.func8, Try.ntmps8
    go_wp2
    go_ret
    exact ⟨rfl, Below.refl _ _⟩
  · go_enter Try.func8, Try.ntmps8
    go_wp2_with fail
    refine (dDiffSame_any A n c hnc hn _ hb).mono ?_
    rintro e W ⟨v, a, v2, b, rfl, hv, hu, hla, hlb, hbW⟩
    have HV := Lib.hid hv
    have HU := Lib.hid hu
    have HB := Lib.hid hbW
    clear hv hu hbW
    obtain ⟨A0, c0, hv0, _, _, _⟩ := id HV.out
    obtain ⟨A1, c1, hv1, _, _, _⟩ := id HU.out
    obtain ⟨x, hx⟩ : ∃ x, a.length = x := ⟨_, rfl⟩
    obtain ⟨y, hy⟩ : ∃ y, b.length = y := ⟨_, rfl⟩
    have HLA := Lib.hid hx
    have HLB := Lib.hid hy
    rw [hx] at hv0 hla
    rw [hy] at hv1 hlb
    subst hv0 hv1
    clear hx hy
    obtain ⟨g, hg⟩ : ∃ g, dsame a b = g := ⟨_, rfl⟩
    have HG := Lib.hid hg
    clear hg
    go_wp2_with fail
    refine (iDSame_is W a _ HV.out b _ HU.out g HG.out _ (Below.refl _ _)).mono ?_
    rintro e w1 ⟨rfl, b1⟩
    go_wp2_with fail
    refine (sDSame_is W a _ HV.out b _ HU.out g HG.out _ b1).mono ?_
    rintro e w2 ⟨rfl, b2⟩
    clear b1
    by_cases hg0 : g < 0
    · go_wp2
      go_ret
      exact ⟨rfl, HB.out.trans (b2.mono HB.out.size)⟩
    obtain ⟨ha, hb3, hgs⟩ := dsame_ok (a := a) (b := b) (by rw [HG.out]; exact hg0)
    rw [HG.out] at hgs
    have O1 := Lib.hid ha
    have O2 := Lib.hid hb3
    have HGS := Lib.hid hgs
    by_cases hx0 : x = 0
    · subst hx0
      go_wp2
      go_ret
      exact ⟨by first | rfl | exact retb (by simp) | exact retb (by simp; omega), HB.out.trans (b2.mono HB.out.size)⟩
    have hx40 : ¬ x = 40 := by omega
    have hy40 : ¬ y = 40 := by omega
    obtain ⟨r, hr, hrx⟩ := modN m x (by omega)
    have hxn : ((x : Int) == 0) = false := by rw [beq_eq_false_iff_ne]; omega
    have hxm : ((x : Int) == 40) = false := by rw [beq_eq_false_iff_ne]; omega
    have hyn : ((y : Int) == 40) = false := by rw [beq_eq_false_iff_ne]; omega
    have hgb : g ≤ 40 := by
      have h1 := smN_le b a
      rw [HLB.out] at h1
      rw [hgs]; omega
    have hra : r < a.length := by rw [HLA.out]; exact hrx
    obtain ⟨p, hp⟩ : ∃ p, a[r] = p := ⟨_, rfl⟩
    have HPO := Lib.hid (show okP p = true from okL_mem ha p (by rw [← hp]; exact List.getElem_mem _))
    have HSU := Lib.hid (show dsame (a ++ [p]) (b ++ [p]) = g + 1 by rw [hgs]; exact dsame_add ha hb3 (by rw [HLA.out]; omega) (by rw [HLB.out]; omega) HPO.out)
    obtain ⟨A9, c9, hv9, _, _, hrow0⟩ := HV.out.below b2
    injection hv9 with e1 e2 e3
    subst e1
    subst e3
    clear e2
    obtain ⟨A8, c8, hv8, _, _, hrowb⟩ := HU.out.below b2
    injection hv8 with e1 e2 e3
    subst e1
    subst e3
    clear e2
    obtain ⟨bl, ol, hAl, hbl, q0, q1, q2, q3⟩ := hrow0.at_ r hra
    subst hAl
    rw [hp] at q0 q1 q2 q3
    have hri : (r : Int) < (x : Int) := by omega
    have hr0 : (0 : Int) ≤ (r : Int) := by omega
    have hxi : (0 : Int) < (x : Int) := by omega
    have HRA := Lib.hid hrow0
    have HRB := Lib.hid hrowb
    clear ha hb3 hgs hp hra HGS hrow0 hrowb
    obtain ⟨Z, hZ⟩ : ∃ Z, w2.heap.size = Z := ⟨_, rfl⟩
    obtain ⟨W5, hW5⟩ : ∃ W5, W5 = w2.alloc (lit1 p) := ⟨_, rfl⟩
    have hb5 : Below w2.heap.size w2 W5 := by rw [hW5]; exact (Below.refl _ _).alloc (Nat.le_refl _) _
    have hQ : W5.heap[Z]? = some (lit1 p) := by rw [hW5, ← hZ]; exact heap_alloc_new w2 _
    have hZ5 : Z < W5.heap.size := (Array.getElem?_eq_some_iff.1 hQ).1
    have HCE := Lib.hid (show ∀ w' : World, Below W5.heap.size W5 w' → (w'.cell? ⟨Z, 0, none⟩ = some (.int .i64 p.area) ∧ w'.cell? ⟨Z, 1, none⟩ = some (.int .i64 p.job) ∧ w'.cell? ⟨Z, 2, none⟩ = some (.int .i64 p.sex) ∧ w'.cell? ⟨Z, 3, none⟩ = some (.int .i64 p.pay)) from fun w' h =>
      have hq := (h.block Z hZ5).trans hQ
      ⟨cell_of_row w' Z 0 _ _ _ hq, cell_of_row w' Z 1 _ _ _ hq, cell_of_row w' Z 2 _ _ _ hq, cell_of_row w' Z 3 _ _ _ hq⟩)
    have HR1 := Lib.hid ((HRA.out.below hb5 (Nat.le_refl _)).more hb5.size)
    have HR2 := Lib.hid ((HRB.out.below hb5 (Nat.le_refl _)).more hb5.size)
    have HB5 := Lib.hid (HB.out.trans ((b2.trans (hb5.mono b2.size)).mono HB.out.size))
    have hwg : IntKind.i64.wrap (g + 1) = g + 1 := IntWalk.i64_in _ (by omega)
    have HLX := Lib.hid (show a.length ≤ 1000 by rw [HLA.out]; omega)
    have HLY := Lib.hid (show b.length ≤ 1000 by rw [HLB.out]; omega)
    have hmx : Try.prog.follows .mixedOrders = true := by kernel_rfl
    have HW5 := Lib.hid hW5.symm
    have HZ := Lib.hid hZ
    clear hQ hb5 hW5 hZ HRA HRB
    go_upto_region 11 with fail
    rw [HZ.out, HW5.out]
    clear q0 q1 q2 q3 HV HU hr
    refine wp_region_held (S := fun y => Below W5.heap.size W5 y) hmx ?_
    refine capture fun H hH => ?_
    change H _ _ _ W5.drew
    have nd_0_2_4_5_6_8_10_11 : ∀ (u62 : Value) (u64 : Value) (q1 : Nat) (u67 : Value) (u68 : Value) (u70 : Value) (q2 : Nat) (u73 : Value) (z : World), Dt W5 z p (some (u67, a ++ [p])) none (some (u73, b ++ [p])) none → H 3 #[true, true, true, true, true, true, true, true, true, true, true, true, false, true, true, false, false] { tmps := #[Value.slice A n c, Value.slice A2 m c2, undef, undef, Value.bool false, Value.slice (some { block := bl, off := ol }) x c0, Value.slice A1 y c1, Value.int IntKind.i64 g, Value.int IntKind.i64 g, Value.pointer (some { block := Z, off := 0 }), Value.slice A n c, Value.int IntKind.i64 (n : Int), Value.bool (decide (1048576 < (n : Int))), Value.bool (decide (1048576 < (n : Int))), Value.slice A2 m c2, Value.int IntKind.i64 (m : Int), Value.bool (decide (1048576 < (m : Int))), Value.bool (decide (1048576 < (n : Int)) || decide (1048576 < (m : Int))), Value.tuple #[Value.slice (some { block := bl, off := ol }) x c0, Value.slice A1 y c1], Value.slice A n c, Value.tuple #[Value.slice (some { block := bl, off := ol }) x c0, Value.slice A1 y c1], Value.slice (some { block := bl, off := ol }) x c0, Value.slice A1 y c1, Value.slice (some { block := bl, off := ol }) x c0, Value.slice A1 y c1, Value.int IntKind.i64 g, Value.slice (some { block := bl, off := ol }) x c0, Value.slice A1 y c1, Value.int IntKind.i64 g, Value.int IntKind.i64 g, Value.int IntKind.i64 g, Value.bool false, Value.bool false, Value.int IntKind.i64 g, Value.bool (decide (g < 0)), Value.bool (decide (g < 0)), undef, undef, undef, Value.slice (some { block := bl, off := ol }) x c0, Value.int IntKind.i64 (x : Int), Value.bool false, Value.bool false, Value.slice (some { block := bl, off := ol }) x c0, Value.int IntKind.i64 (x : Int), Value.bool false, Value.bool false, Value.bool false, Value.slice A1 y c1, Value.int IntKind.i64 (y : Int), Value.bool false, Value.bool false, undef, undef, Value.slice (some { block := bl, off := ol }) x c0, Value.slice A2 m c2, Value.int IntKind.i64 (m : Int), Value.slice (some { block := bl, off := ol }) x c0, Value.int IntKind.i64 (x : Int), Value.int IntKind.i64 ((m : Int) % (x : Int)), Value.pointer (some { block := bl, off := ol + r * 4 }), Value.agg #[Value.int IntKind.i64 p.area, Value.int IntKind.i64 p.job, Value.int IntKind.i64 p.sex, Value.int IntKind.i64 p.pay], u62, Value.slice (some { block := bl, off := ol }) x c0, u64, Value.agg #[Value.int IntKind.i64 p.area, Value.int IntKind.i64 p.job, Value.int IntKind.i64 p.sex, Value.int IntKind.i64 p.pay], Value.slice (some { block := q1, off := 0 }) 1 1, u67, u68, Value.slice A1 y c1, u70, Value.agg #[Value.int IntKind.i64 p.area, Value.int IntKind.i64 p.job, Value.int IntKind.i64 p.sex, Value.int IntKind.i64 p.pay], Value.slice (some { block := q2, off := 0 }) 1 1, u73, undef, Value.int IntKind.i64 g, Value.int IntKind.i64 (g + 1), undef], defers := [] } z := by
      intro u62 u64 q1 u67 u68 u70 q2 u73 z sx
      rw [hH]
      refine wpAnyH_all (rs := [12]) (by kernel_rfl) (by simp) (fun i hi => ?_)
      simp only [List.mem_cons, List.not_mem_nil, or_false] at hi
      subst hi
      unfold wpOp
      simp only [List.getElem?_toArray, List.getElem?_cons_succ, List.getElem?_cons_zero]
      rw [if_pos (by rfl)]
      left
      unfold Oper.wp
      go_simp
      refine (iDSame_is z (a ++ [p]) u67 (sx.pa.1 _ _ rfl).isP' (b ++ [p]) u73 (sx.pb.1 _ _ rfl).isP' (g + 1) HSU.out z (Below.refl _ _)).mono ?_
      rintro e z1 ⟨rfl, b6⟩
      have hz1 := Lib.hid (show Below W5.heap.size W5 z1 from sx.lo.trans (b6.mono sx.lo.size))
      refine ⟨hz1.out, ?_⟩
      clear sx b6
      (try simp only [Act.put])
      (try simp only [List.getElem_toArray])
      (try simp only [List.getElem_cons_succ])
      (try simp only [List.getElem_cons_zero])
      (try simp only [List.setIfInBounds_toArray])
      (try simp only [List.set_cons_succ])
      (try simp only [List.set_cons_zero])
      refine wpAnyH_all (rs := [15]) (by kernel_rfl) (by simp) (fun i hi => ?_)
      simp only [List.mem_cons, List.not_mem_nil, or_false] at hi
      subst hi
      unfold wpOp
      simp only [List.getElem?_toArray, List.getElem?_cons_succ, List.getElem?_cons_zero]
      rw [if_pos (by rfl)]
      left
      unfold Oper.wp
      go_simp
      refine ⟨hz1.out, ?_⟩
      (try simp only [Act.put])
      (try simp only [List.getElem_toArray])
      (try simp only [List.getElem_cons_succ])
      (try simp only [List.getElem_cons_zero])
      (try simp only [List.setIfInBounds_toArray])
      (try simp only [List.set_cons_succ])
      (try simp only [List.set_cons_zero])
      refine wpAnyH_all (rs := [16]) (by kernel_rfl) (by simp) (fun i hi => ?_)
      simp only [List.mem_cons, List.not_mem_nil, or_false] at hi
      subst hi
      unfold wpOp
      simp only [List.getElem?_toArray, List.getElem?_cons_succ, List.getElem?_cons_zero]
      rw [if_pos (by rfl)]
      left
      unfold Oper.wp
      go_simp
      refine ⟨hz1.out, ?_⟩
      (try simp only [Act.put])
      (try simp only [List.getElem_toArray])
      (try simp only [List.getElem_cons_succ])
      (try simp only [List.getElem_cons_zero])
      (try simp only [List.setIfInBounds_toArray])
      (try simp only [List.set_cons_succ])
      (try simp only [List.set_cons_zero])
      refine wpAnyH_done (by kernel_rfl) ?_ _
      go_wp2
      go_ret
      exact ⟨by first | rfl | exact retb (by simp), HB5.out.trans (hz1.out.mono HB5.out.size)⟩
    have nd_0_2_4_5_6_8_10 : ∀ (u62 : Value) (u64 : Value) (q1 : Nat) (u67 : Value) (u68 : Value) (u70 : Value) (q2 : Nat) (z : World), Dt W5 z p (some (u67, a ++ [p])) none (some (u70, b)) (some q2) → H 4 #[true, true, true, true, true, true, true, true, true, true, true, false, false, true, true, false, false] { tmps := #[Value.slice A n c, Value.slice A2 m c2, undef, undef, Value.bool false, Value.slice (some { block := bl, off := ol }) x c0, Value.slice A1 y c1, Value.int IntKind.i64 g, Value.int IntKind.i64 g, Value.pointer (some { block := Z, off := 0 }), Value.slice A n c, Value.int IntKind.i64 (n : Int), Value.bool (decide (1048576 < (n : Int))), Value.bool (decide (1048576 < (n : Int))), Value.slice A2 m c2, Value.int IntKind.i64 (m : Int), Value.bool (decide (1048576 < (m : Int))), Value.bool (decide (1048576 < (n : Int)) || decide (1048576 < (m : Int))), Value.tuple #[Value.slice (some { block := bl, off := ol }) x c0, Value.slice A1 y c1], Value.slice A n c, Value.tuple #[Value.slice (some { block := bl, off := ol }) x c0, Value.slice A1 y c1], Value.slice (some { block := bl, off := ol }) x c0, Value.slice A1 y c1, Value.slice (some { block := bl, off := ol }) x c0, Value.slice A1 y c1, Value.int IntKind.i64 g, Value.slice (some { block := bl, off := ol }) x c0, Value.slice A1 y c1, Value.int IntKind.i64 g, Value.int IntKind.i64 g, Value.int IntKind.i64 g, Value.bool false, Value.bool false, Value.int IntKind.i64 g, Value.bool (decide (g < 0)), Value.bool (decide (g < 0)), undef, undef, undef, Value.slice (some { block := bl, off := ol }) x c0, Value.int IntKind.i64 (x : Int), Value.bool false, Value.bool false, Value.slice (some { block := bl, off := ol }) x c0, Value.int IntKind.i64 (x : Int), Value.bool false, Value.bool false, Value.bool false, Value.slice A1 y c1, Value.int IntKind.i64 (y : Int), Value.bool false, Value.bool false, undef, undef, Value.slice (some { block := bl, off := ol }) x c0, Value.slice A2 m c2, Value.int IntKind.i64 (m : Int), Value.slice (some { block := bl, off := ol }) x c0, Value.int IntKind.i64 (x : Int), Value.int IntKind.i64 ((m : Int) % (x : Int)), Value.pointer (some { block := bl, off := ol + r * 4 }), Value.agg #[Value.int IntKind.i64 p.area, Value.int IntKind.i64 p.job, Value.int IntKind.i64 p.sex, Value.int IntKind.i64 p.pay], u62, Value.slice (some { block := bl, off := ol }) x c0, u64, Value.agg #[Value.int IntKind.i64 p.area, Value.int IntKind.i64 p.job, Value.int IntKind.i64 p.sex, Value.int IntKind.i64 p.pay], Value.slice (some { block := q1, off := 0 }) 1 1, u67, u68, Value.slice A1 y c1, u70, Value.agg #[Value.int IntKind.i64 p.area, Value.int IntKind.i64 p.job, Value.int IntKind.i64 p.sex, Value.int IntKind.i64 p.pay], Value.slice (some { block := q2, off := 0 }) 1 1, undef, undef, Value.int IntKind.i64 g, Value.int IntKind.i64 (g + 1), undef], defers := [] } z := by
      intro u62 u64 q1 u67 u68 u70 q2 z sx
      rw [hH]
      refine wpAnyH_all (rs := [11]) (by kernel_rfl) (by simp) (fun i hi => ?_)
      simp only [List.mem_cons, List.not_mem_nil, or_false] at hi
      subst hi
      unfold wpOp
      simp only [List.getElem?_toArray, List.getElem?_cons_succ, List.getElem?_cons_zero]
      rw [if_pos (by rfl)]
      left
      refine wp_moreP (.tmp 70) (.tmp 72) rfl rfl (Dt.swap sx) rfl HLY.out fun v9 z9 sy9 => ?_
      have sy := Dt.swap sy9
      refine ⟨sy.lo, ?_⟩
      (try simp only [Act.put])
      (try simp only [List.getElem_toArray])
      (try simp only [List.getElem_cons_succ])
      (try simp only [List.getElem_cons_zero])
      (try simp only [List.setIfInBounds_toArray])
      (try simp only [List.set_cons_succ])
      (try simp only [List.set_cons_zero])
      rw [← hH]
      exact castL (by kernel_rfl) (nd_0_2_4_5_6_8_10_11 u62 u64 q1 u67 u68 u70 q2 v9 _ sy)
    have nd_0_2_4_5_6_10 : ∀ (u62 : Value) (u64 : Value) (q1 : Nat) (u67 : Value) (u68 : Value) (q2 : Nat) (z : World), Dt W5 z p (some (u67, a ++ [p])) none (some (u68, [])) (some q2) → H 5 #[true, true, true, true, true, true, true, true, false, true, true, false, false, true, true, false, false] { tmps := #[Value.slice A n c, Value.slice A2 m c2, undef, undef, Value.bool false, Value.slice (some { block := bl, off := ol }) x c0, Value.slice A1 y c1, Value.int IntKind.i64 g, Value.int IntKind.i64 g, Value.pointer (some { block := Z, off := 0 }), Value.slice A n c, Value.int IntKind.i64 (n : Int), Value.bool (decide (1048576 < (n : Int))), Value.bool (decide (1048576 < (n : Int))), Value.slice A2 m c2, Value.int IntKind.i64 (m : Int), Value.bool (decide (1048576 < (m : Int))), Value.bool (decide (1048576 < (n : Int)) || decide (1048576 < (m : Int))), Value.tuple #[Value.slice (some { block := bl, off := ol }) x c0, Value.slice A1 y c1], Value.slice A n c, Value.tuple #[Value.slice (some { block := bl, off := ol }) x c0, Value.slice A1 y c1], Value.slice (some { block := bl, off := ol }) x c0, Value.slice A1 y c1, Value.slice (some { block := bl, off := ol }) x c0, Value.slice A1 y c1, Value.int IntKind.i64 g, Value.slice (some { block := bl, off := ol }) x c0, Value.slice A1 y c1, Value.int IntKind.i64 g, Value.int IntKind.i64 g, Value.int IntKind.i64 g, Value.bool false, Value.bool false, Value.int IntKind.i64 g, Value.bool (decide (g < 0)), Value.bool (decide (g < 0)), undef, undef, undef, Value.slice (some { block := bl, off := ol }) x c0, Value.int IntKind.i64 (x : Int), Value.bool false, Value.bool false, Value.slice (some { block := bl, off := ol }) x c0, Value.int IntKind.i64 (x : Int), Value.bool false, Value.bool false, Value.bool false, Value.slice A1 y c1, Value.int IntKind.i64 (y : Int), Value.bool false, Value.bool false, undef, undef, Value.slice (some { block := bl, off := ol }) x c0, Value.slice A2 m c2, Value.int IntKind.i64 (m : Int), Value.slice (some { block := bl, off := ol }) x c0, Value.int IntKind.i64 (x : Int), Value.int IntKind.i64 ((m : Int) % (x : Int)), Value.pointer (some { block := bl, off := ol + r * 4 }), Value.agg #[Value.int IntKind.i64 p.area, Value.int IntKind.i64 p.job, Value.int IntKind.i64 p.sex, Value.int IntKind.i64 p.pay], u62, Value.slice (some { block := bl, off := ol }) x c0, u64, Value.agg #[Value.int IntKind.i64 p.area, Value.int IntKind.i64 p.job, Value.int IntKind.i64 p.sex, Value.int IntKind.i64 p.pay], Value.slice (some { block := q1, off := 0 }) 1 1, u67, u68, Value.slice A1 y c1, undef, Value.agg #[Value.int IntKind.i64 p.area, Value.int IntKind.i64 p.job, Value.int IntKind.i64 p.sex, Value.int IntKind.i64 p.pay], Value.slice (some { block := q2, off := 0 }) 1 1, undef, undef, Value.int IntKind.i64 g, Value.int IntKind.i64 (g + 1), undef], defers := [] } z := by
      intro u62 u64 q1 u67 u68 q2 z sx
      rw [hH]
      refine wpAnyH_all (rs := [8]) (by kernel_rfl) (by simp) (fun i hi => ?_)
      simp only [List.mem_cons, List.not_mem_nil, or_false] at hi
      subst hi
      unfold wpOp
      simp only [List.getElem?_toArray, List.getElem?_cons_succ, List.getElem?_cons_zero]
      rw [if_pos (by rfl)]
      left
      refine wp_copyP (.tmp 68) (.tmp 69) rfl rfl (Dt.swap sx) _ _ _ b rfl HLB.out.symm HR2.out HLY.out fun v9 z9 sy9 => ?_
      have sy := Dt.swap sy9
      refine ⟨sy.lo, ?_⟩
      (try simp only [Act.put])
      (try simp only [List.getElem_toArray])
      (try simp only [List.getElem_cons_succ])
      (try simp only [List.getElem_cons_zero])
      (try simp only [List.setIfInBounds_toArray])
      (try simp only [List.set_cons_succ])
      (try simp only [List.set_cons_zero])
      rw [← hH]
      exact castL (by kernel_rfl) (nd_0_2_4_5_6_8_10 u62 u64 q1 u67 u68 v9 q2 _ sy)
    have nd_0_2_4_5_6_8 : ∀ (u62 : Value) (u64 : Value) (q1 : Nat) (u67 : Value) (u68 : Value) (u70 : Value) (z : World), Dt W5 z p (some (u67, a ++ [p])) none (some (u70, b)) none → H 5 #[true, true, true, true, true, true, true, true, true, true, false, false, false, true, true, false, false] { tmps := #[Value.slice A n c, Value.slice A2 m c2, undef, undef, Value.bool false, Value.slice (some { block := bl, off := ol }) x c0, Value.slice A1 y c1, Value.int IntKind.i64 g, Value.int IntKind.i64 g, Value.pointer (some { block := Z, off := 0 }), Value.slice A n c, Value.int IntKind.i64 (n : Int), Value.bool (decide (1048576 < (n : Int))), Value.bool (decide (1048576 < (n : Int))), Value.slice A2 m c2, Value.int IntKind.i64 (m : Int), Value.bool (decide (1048576 < (m : Int))), Value.bool (decide (1048576 < (n : Int)) || decide (1048576 < (m : Int))), Value.tuple #[Value.slice (some { block := bl, off := ol }) x c0, Value.slice A1 y c1], Value.slice A n c, Value.tuple #[Value.slice (some { block := bl, off := ol }) x c0, Value.slice A1 y c1], Value.slice (some { block := bl, off := ol }) x c0, Value.slice A1 y c1, Value.slice (some { block := bl, off := ol }) x c0, Value.slice A1 y c1, Value.int IntKind.i64 g, Value.slice (some { block := bl, off := ol }) x c0, Value.slice A1 y c1, Value.int IntKind.i64 g, Value.int IntKind.i64 g, Value.int IntKind.i64 g, Value.bool false, Value.bool false, Value.int IntKind.i64 g, Value.bool (decide (g < 0)), Value.bool (decide (g < 0)), undef, undef, undef, Value.slice (some { block := bl, off := ol }) x c0, Value.int IntKind.i64 (x : Int), Value.bool false, Value.bool false, Value.slice (some { block := bl, off := ol }) x c0, Value.int IntKind.i64 (x : Int), Value.bool false, Value.bool false, Value.bool false, Value.slice A1 y c1, Value.int IntKind.i64 (y : Int), Value.bool false, Value.bool false, undef, undef, Value.slice (some { block := bl, off := ol }) x c0, Value.slice A2 m c2, Value.int IntKind.i64 (m : Int), Value.slice (some { block := bl, off := ol }) x c0, Value.int IntKind.i64 (x : Int), Value.int IntKind.i64 ((m : Int) % (x : Int)), Value.pointer (some { block := bl, off := ol + r * 4 }), Value.agg #[Value.int IntKind.i64 p.area, Value.int IntKind.i64 p.job, Value.int IntKind.i64 p.sex, Value.int IntKind.i64 p.pay], u62, Value.slice (some { block := bl, off := ol }) x c0, u64, Value.agg #[Value.int IntKind.i64 p.area, Value.int IntKind.i64 p.job, Value.int IntKind.i64 p.sex, Value.int IntKind.i64 p.pay], Value.slice (some { block := q1, off := 0 }) 1 1, u67, u68, Value.slice A1 y c1, u70, Value.agg #[Value.int IntKind.i64 p.area, Value.int IntKind.i64 p.job, Value.int IntKind.i64 p.sex, Value.int IntKind.i64 p.pay], undef, undef, undef, Value.int IntKind.i64 g, Value.int IntKind.i64 (g + 1), undef], defers := [] } z := by
      intro u62 u64 q1 u67 u68 u70 z sx
      rw [hH]
      refine wpAnyH_all (rs := [10]) (by kernel_rfl) (by simp) (fun i hi => ?_)
      simp only [List.mem_cons, List.not_mem_nil, or_false] at hi
      subst hi
      unfold wpOp
      simp only [List.getElem?_toArray, List.getElem?_cons_succ, List.getElem?_cons_zero]
      rw [if_pos (by rfl)]
      left
      unfold Oper.wp
      go_simp
      have sy := Dt.swap (Dt.lit (Dt.swap sx))
      refine ⟨sy.lo, ?_⟩
      (try simp only [Act.put])
      (try simp only [List.getElem_toArray])
      (try simp only [List.getElem_cons_succ])
      (try simp only [List.getElem_cons_zero])
      (try simp only [List.setIfInBounds_toArray])
      (try simp only [List.set_cons_succ])
      (try simp only [List.set_cons_zero])
      rw [← hH]
      exact castL (by kernel_rfl) (nd_0_2_4_5_6_8_10 u62 u64 q1 u67 u68 u70 z.heap.size _ sy)
    have nd_0_2_4_6_10 : ∀ (u62 : Value) (u64 : Value) (q1 : Nat) (u68 : Value) (q2 : Nat) (z : World), Dt W5 z p (some (u64, a)) (some q1) (some (u68, [])) (some q2) → H 6 #[true, true, true, true, true, false, true, true, false, true, true, false, false, true, true, false, false] { tmps := #[Value.slice A n c, Value.slice A2 m c2, undef, undef, Value.bool false, Value.slice (some { block := bl, off := ol }) x c0, Value.slice A1 y c1, Value.int IntKind.i64 g, Value.int IntKind.i64 g, Value.pointer (some { block := Z, off := 0 }), Value.slice A n c, Value.int IntKind.i64 (n : Int), Value.bool (decide (1048576 < (n : Int))), Value.bool (decide (1048576 < (n : Int))), Value.slice A2 m c2, Value.int IntKind.i64 (m : Int), Value.bool (decide (1048576 < (m : Int))), Value.bool (decide (1048576 < (n : Int)) || decide (1048576 < (m : Int))), Value.tuple #[Value.slice (some { block := bl, off := ol }) x c0, Value.slice A1 y c1], Value.slice A n c, Value.tuple #[Value.slice (some { block := bl, off := ol }) x c0, Value.slice A1 y c1], Value.slice (some { block := bl, off := ol }) x c0, Value.slice A1 y c1, Value.slice (some { block := bl, off := ol }) x c0, Value.slice A1 y c1, Value.int IntKind.i64 g, Value.slice (some { block := bl, off := ol }) x c0, Value.slice A1 y c1, Value.int IntKind.i64 g, Value.int IntKind.i64 g, Value.int IntKind.i64 g, Value.bool false, Value.bool false, Value.int IntKind.i64 g, Value.bool (decide (g < 0)), Value.bool (decide (g < 0)), undef, undef, undef, Value.slice (some { block := bl, off := ol }) x c0, Value.int IntKind.i64 (x : Int), Value.bool false, Value.bool false, Value.slice (some { block := bl, off := ol }) x c0, Value.int IntKind.i64 (x : Int), Value.bool false, Value.bool false, Value.bool false, Value.slice A1 y c1, Value.int IntKind.i64 (y : Int), Value.bool false, Value.bool false, undef, undef, Value.slice (some { block := bl, off := ol }) x c0, Value.slice A2 m c2, Value.int IntKind.i64 (m : Int), Value.slice (some { block := bl, off := ol }) x c0, Value.int IntKind.i64 (x : Int), Value.int IntKind.i64 ((m : Int) % (x : Int)), Value.pointer (some { block := bl, off := ol + r * 4 }), Value.agg #[Value.int IntKind.i64 p.area, Value.int IntKind.i64 p.job, Value.int IntKind.i64 p.sex, Value.int IntKind.i64 p.pay], u62, Value.slice (some { block := bl, off := ol }) x c0, u64, Value.agg #[Value.int IntKind.i64 p.area, Value.int IntKind.i64 p.job, Value.int IntKind.i64 p.sex, Value.int IntKind.i64 p.pay], Value.slice (some { block := q1, off := 0 }) 1 1, undef, u68, Value.slice A1 y c1, undef, Value.agg #[Value.int IntKind.i64 p.area, Value.int IntKind.i64 p.job, Value.int IntKind.i64 p.sex, Value.int IntKind.i64 p.pay], Value.slice (some { block := q2, off := 0 }) 1 1, undef, undef, Value.int IntKind.i64 g, Value.int IntKind.i64 (g + 1), undef], defers := [] } z := by
      intro u62 u64 q1 u68 q2 z sx
      rw [hH]
      refine wpAnyH_all (rs := [5]) (by kernel_rfl) (by simp) (fun i hi => ?_)
      simp only [List.mem_cons, List.not_mem_nil, or_false] at hi
      subst hi
      unfold wpOp
      simp only [List.getElem?_toArray, List.getElem?_cons_succ, List.getElem?_cons_zero]
      rw [if_pos (by rfl)]
      left
      refine wp_moreP (.tmp 64) (.tmp 66) rfl rfl sx rfl HLX.out fun v9 z9 sy9 => ?_
      have sy := sy9
      refine ⟨sy.lo, ?_⟩
      (try simp only [Act.put])
      (try simp only [List.getElem_toArray])
      (try simp only [List.getElem_cons_succ])
      (try simp only [List.getElem_cons_zero])
      (try simp only [List.setIfInBounds_toArray])
      (try simp only [List.set_cons_succ])
      (try simp only [List.set_cons_zero])
      rw [← hH]
      exact castL (by kernel_rfl) (nd_0_2_4_5_6_10 u62 u64 q1 v9 u68 q2 _ sy)
    have nd_0_2_4_5_10 : ∀ (u62 : Value) (u64 : Value) (q1 : Nat) (u67 : Value) (q2 : Nat) (z : World), Dt W5 z p (some (u67, a ++ [p])) none none (some q2) → H 6 #[true, true, true, true, true, true, false, true, false, true, true, false, false, true, true, false, false] { tmps := #[Value.slice A n c, Value.slice A2 m c2, undef, undef, Value.bool false, Value.slice (some { block := bl, off := ol }) x c0, Value.slice A1 y c1, Value.int IntKind.i64 g, Value.int IntKind.i64 g, Value.pointer (some { block := Z, off := 0 }), Value.slice A n c, Value.int IntKind.i64 (n : Int), Value.bool (decide (1048576 < (n : Int))), Value.bool (decide (1048576 < (n : Int))), Value.slice A2 m c2, Value.int IntKind.i64 (m : Int), Value.bool (decide (1048576 < (m : Int))), Value.bool (decide (1048576 < (n : Int)) || decide (1048576 < (m : Int))), Value.tuple #[Value.slice (some { block := bl, off := ol }) x c0, Value.slice A1 y c1], Value.slice A n c, Value.tuple #[Value.slice (some { block := bl, off := ol }) x c0, Value.slice A1 y c1], Value.slice (some { block := bl, off := ol }) x c0, Value.slice A1 y c1, Value.slice (some { block := bl, off := ol }) x c0, Value.slice A1 y c1, Value.int IntKind.i64 g, Value.slice (some { block := bl, off := ol }) x c0, Value.slice A1 y c1, Value.int IntKind.i64 g, Value.int IntKind.i64 g, Value.int IntKind.i64 g, Value.bool false, Value.bool false, Value.int IntKind.i64 g, Value.bool (decide (g < 0)), Value.bool (decide (g < 0)), undef, undef, undef, Value.slice (some { block := bl, off := ol }) x c0, Value.int IntKind.i64 (x : Int), Value.bool false, Value.bool false, Value.slice (some { block := bl, off := ol }) x c0, Value.int IntKind.i64 (x : Int), Value.bool false, Value.bool false, Value.bool false, Value.slice A1 y c1, Value.int IntKind.i64 (y : Int), Value.bool false, Value.bool false, undef, undef, Value.slice (some { block := bl, off := ol }) x c0, Value.slice A2 m c2, Value.int IntKind.i64 (m : Int), Value.slice (some { block := bl, off := ol }) x c0, Value.int IntKind.i64 (x : Int), Value.int IntKind.i64 ((m : Int) % (x : Int)), Value.pointer (some { block := bl, off := ol + r * 4 }), Value.agg #[Value.int IntKind.i64 p.area, Value.int IntKind.i64 p.job, Value.int IntKind.i64 p.sex, Value.int IntKind.i64 p.pay], u62, Value.slice (some { block := bl, off := ol }) x c0, u64, Value.agg #[Value.int IntKind.i64 p.area, Value.int IntKind.i64 p.job, Value.int IntKind.i64 p.sex, Value.int IntKind.i64 p.pay], Value.slice (some { block := q1, off := 0 }) 1 1, u67, undef, Value.slice A1 y c1, undef, Value.agg #[Value.int IntKind.i64 p.area, Value.int IntKind.i64 p.job, Value.int IntKind.i64 p.sex, Value.int IntKind.i64 p.pay], Value.slice (some { block := q2, off := 0 }) 1 1, undef, undef, Value.int IntKind.i64 g, Value.int IntKind.i64 (g + 1), undef], defers := [] } z := by
      intro u62 u64 q1 u67 q2 z sx
      rw [hH]
      refine wpAnyH_all (rs := [6]) (by kernel_rfl) (by simp) (fun i hi => ?_)
      simp only [List.mem_cons, List.not_mem_nil, or_false] at hi
      subst hi
      unfold wpOp
      simp only [List.getElem?_toArray, List.getElem?_cons_succ, List.getElem?_cons_zero]
      rw [if_pos (by rfl)]
      left
      unfold Oper.wp
      go_simp
      have sy := Dt.swap (Dt.new (Dt.swap sx))
      refine ⟨sy.lo, ?_⟩
      (try simp only [Act.put])
      (try simp only [List.getElem_toArray])
      (try simp only [List.getElem_cons_succ])
      (try simp only [List.getElem_cons_zero])
      (try simp only [List.setIfInBounds_toArray])
      (try simp only [List.set_cons_succ])
      (try simp only [List.set_cons_zero])
      rw [← hH]
      exact castL (by kernel_rfl) (nd_0_2_4_5_6_10 u62 u64 q1 u67 (Value.slice (some { block := z.heap.size, off := 0 }) 0 0) q2 _ sy)
    have nd_0_2_4_5_6 : ∀ (u62 : Value) (u64 : Value) (q1 : Nat) (u67 : Value) (u68 : Value) (z : World), Dt W5 z p (some (u67, a ++ [p])) none (some (u68, [])) none → H 6 #[true, true, true, true, true, true, true, true, false, true, false, false, false, true, true, false, false] { tmps := #[Value.slice A n c, Value.slice A2 m c2, undef, undef, Value.bool false, Value.slice (some { block := bl, off := ol }) x c0, Value.slice A1 y c1, Value.int IntKind.i64 g, Value.int IntKind.i64 g, Value.pointer (some { block := Z, off := 0 }), Value.slice A n c, Value.int IntKind.i64 (n : Int), Value.bool (decide (1048576 < (n : Int))), Value.bool (decide (1048576 < (n : Int))), Value.slice A2 m c2, Value.int IntKind.i64 (m : Int), Value.bool (decide (1048576 < (m : Int))), Value.bool (decide (1048576 < (n : Int)) || decide (1048576 < (m : Int))), Value.tuple #[Value.slice (some { block := bl, off := ol }) x c0, Value.slice A1 y c1], Value.slice A n c, Value.tuple #[Value.slice (some { block := bl, off := ol }) x c0, Value.slice A1 y c1], Value.slice (some { block := bl, off := ol }) x c0, Value.slice A1 y c1, Value.slice (some { block := bl, off := ol }) x c0, Value.slice A1 y c1, Value.int IntKind.i64 g, Value.slice (some { block := bl, off := ol }) x c0, Value.slice A1 y c1, Value.int IntKind.i64 g, Value.int IntKind.i64 g, Value.int IntKind.i64 g, Value.bool false, Value.bool false, Value.int IntKind.i64 g, Value.bool (decide (g < 0)), Value.bool (decide (g < 0)), undef, undef, undef, Value.slice (some { block := bl, off := ol }) x c0, Value.int IntKind.i64 (x : Int), Value.bool false, Value.bool false, Value.slice (some { block := bl, off := ol }) x c0, Value.int IntKind.i64 (x : Int), Value.bool false, Value.bool false, Value.bool false, Value.slice A1 y c1, Value.int IntKind.i64 (y : Int), Value.bool false, Value.bool false, undef, undef, Value.slice (some { block := bl, off := ol }) x c0, Value.slice A2 m c2, Value.int IntKind.i64 (m : Int), Value.slice (some { block := bl, off := ol }) x c0, Value.int IntKind.i64 (x : Int), Value.int IntKind.i64 ((m : Int) % (x : Int)), Value.pointer (some { block := bl, off := ol + r * 4 }), Value.agg #[Value.int IntKind.i64 p.area, Value.int IntKind.i64 p.job, Value.int IntKind.i64 p.sex, Value.int IntKind.i64 p.pay], u62, Value.slice (some { block := bl, off := ol }) x c0, u64, Value.agg #[Value.int IntKind.i64 p.area, Value.int IntKind.i64 p.job, Value.int IntKind.i64 p.sex, Value.int IntKind.i64 p.pay], Value.slice (some { block := q1, off := 0 }) 1 1, u67, u68, Value.slice A1 y c1, undef, Value.agg #[Value.int IntKind.i64 p.area, Value.int IntKind.i64 p.job, Value.int IntKind.i64 p.sex, Value.int IntKind.i64 p.pay], undef, undef, undef, Value.int IntKind.i64 g, Value.int IntKind.i64 (g + 1), undef], defers := [] } z := by
      intro u62 u64 q1 u67 u68 z sx
      rw [hH]
      refine wpAnyH_all (rs := [8, 10]) (by kernel_rfl) (by simp) (fun i hi => ?_)
      simp only [List.mem_cons, List.not_mem_nil, or_false] at hi
      rcases hi with rfl | rfl
      · unfold wpOp
        simp only [List.getElem?_toArray, List.getElem?_cons_succ, List.getElem?_cons_zero]
        rw [if_pos (by rfl)]
        left
        refine wp_copyP (.tmp 68) (.tmp 69) rfl rfl (Dt.swap sx) _ _ _ b rfl HLB.out.symm HR2.out HLY.out fun v9 z9 sy9 => ?_
        have sy := Dt.swap sy9
        refine ⟨sy.lo, ?_⟩
        (try simp only [Act.put])
        (try simp only [List.getElem_toArray])
        (try simp only [List.getElem_cons_succ])
        (try simp only [List.getElem_cons_zero])
        (try simp only [List.setIfInBounds_toArray])
        (try simp only [List.set_cons_succ])
        (try simp only [List.set_cons_zero])
        rw [← hH]
        exact castL (by kernel_rfl) (nd_0_2_4_5_6_8 u62 u64 q1 u67 u68 v9 _ sy)
      · unfold wpOp
        simp only [List.getElem?_toArray, List.getElem?_cons_succ, List.getElem?_cons_zero]
        rw [if_pos (by rfl)]
        left
        unfold Oper.wp
        go_simp
        have sy := Dt.swap (Dt.lit (Dt.swap sx))
        refine ⟨sy.lo, ?_⟩
        (try simp only [Act.put])
        (try simp only [List.getElem_toArray])
        (try simp only [List.getElem_cons_succ])
        (try simp only [List.getElem_cons_zero])
        (try simp only [List.setIfInBounds_toArray])
        (try simp only [List.set_cons_succ])
        (try simp only [List.set_cons_zero])
        rw [← hH]
        exact castL (by kernel_rfl) (nd_0_2_4_5_6_10 u62 u64 q1 u67 u68 z.heap.size _ sy)
    have nd_0_4_6_10 : ∀ (u62 : Value) (q1 : Nat) (u68 : Value) (q2 : Nat) (z : World), Dt W5 z p (some (u62, [])) (some q1) (some (u68, [])) (some q2) → H 7 #[true, true, false, true, true, false, true, true, false, true, true, false, false, true, true, false, false] { tmps := #[Value.slice A n c, Value.slice A2 m c2, undef, undef, Value.bool false, Value.slice (some { block := bl, off := ol }) x c0, Value.slice A1 y c1, Value.int IntKind.i64 g, Value.int IntKind.i64 g, Value.pointer (some { block := Z, off := 0 }), Value.slice A n c, Value.int IntKind.i64 (n : Int), Value.bool (decide (1048576 < (n : Int))), Value.bool (decide (1048576 < (n : Int))), Value.slice A2 m c2, Value.int IntKind.i64 (m : Int), Value.bool (decide (1048576 < (m : Int))), Value.bool (decide (1048576 < (n : Int)) || decide (1048576 < (m : Int))), Value.tuple #[Value.slice (some { block := bl, off := ol }) x c0, Value.slice A1 y c1], Value.slice A n c, Value.tuple #[Value.slice (some { block := bl, off := ol }) x c0, Value.slice A1 y c1], Value.slice (some { block := bl, off := ol }) x c0, Value.slice A1 y c1, Value.slice (some { block := bl, off := ol }) x c0, Value.slice A1 y c1, Value.int IntKind.i64 g, Value.slice (some { block := bl, off := ol }) x c0, Value.slice A1 y c1, Value.int IntKind.i64 g, Value.int IntKind.i64 g, Value.int IntKind.i64 g, Value.bool false, Value.bool false, Value.int IntKind.i64 g, Value.bool (decide (g < 0)), Value.bool (decide (g < 0)), undef, undef, undef, Value.slice (some { block := bl, off := ol }) x c0, Value.int IntKind.i64 (x : Int), Value.bool false, Value.bool false, Value.slice (some { block := bl, off := ol }) x c0, Value.int IntKind.i64 (x : Int), Value.bool false, Value.bool false, Value.bool false, Value.slice A1 y c1, Value.int IntKind.i64 (y : Int), Value.bool false, Value.bool false, undef, undef, Value.slice (some { block := bl, off := ol }) x c0, Value.slice A2 m c2, Value.int IntKind.i64 (m : Int), Value.slice (some { block := bl, off := ol }) x c0, Value.int IntKind.i64 (x : Int), Value.int IntKind.i64 ((m : Int) % (x : Int)), Value.pointer (some { block := bl, off := ol + r * 4 }), Value.agg #[Value.int IntKind.i64 p.area, Value.int IntKind.i64 p.job, Value.int IntKind.i64 p.sex, Value.int IntKind.i64 p.pay], u62, Value.slice (some { block := bl, off := ol }) x c0, undef, Value.agg #[Value.int IntKind.i64 p.area, Value.int IntKind.i64 p.job, Value.int IntKind.i64 p.sex, Value.int IntKind.i64 p.pay], Value.slice (some { block := q1, off := 0 }) 1 1, undef, u68, Value.slice A1 y c1, undef, Value.agg #[Value.int IntKind.i64 p.area, Value.int IntKind.i64 p.job, Value.int IntKind.i64 p.sex, Value.int IntKind.i64 p.pay], Value.slice (some { block := q2, off := 0 }) 1 1, undef, undef, Value.int IntKind.i64 g, Value.int IntKind.i64 (g + 1), undef], defers := [] } z := by
      intro u62 q1 u68 q2 z sx
      rw [hH]
      refine wpAnyH_all (rs := [2]) (by kernel_rfl) (by simp) (fun i hi => ?_)
      simp only [List.mem_cons, List.not_mem_nil, or_false] at hi
      subst hi
      unfold wpOp
      simp only [List.getElem?_toArray, List.getElem?_cons_succ, List.getElem?_cons_zero]
      rw [if_pos (by rfl)]
      left
      refine wp_copyP (.tmp 62) (.tmp 63) rfl rfl sx _ _ _ a rfl HLA.out.symm HR1.out HLX.out fun v9 z9 sy9 => ?_
      have sy := sy9
      refine ⟨sy.lo, ?_⟩
      (try simp only [Act.put])
      (try simp only [List.getElem_toArray])
      (try simp only [List.getElem_cons_succ])
      (try simp only [List.getElem_cons_zero])
      (try simp only [List.setIfInBounds_toArray])
      (try simp only [List.set_cons_succ])
      (try simp only [List.set_cons_zero])
      rw [← hH]
      exact castL (by kernel_rfl) (nd_0_2_4_6_10 u62 v9 q1 u68 q2 _ sy)
    have nd_0_2_6_10 : ∀ (u62 : Value) (u64 : Value) (u68 : Value) (q2 : Nat) (z : World), Dt W5 z p (some (u64, a)) none (some (u68, [])) (some q2) → H 7 #[true, true, true, true, false, false, true, true, false, true, true, false, false, true, true, false, false] { tmps := #[Value.slice A n c, Value.slice A2 m c2, undef, undef, Value.bool false, Value.slice (some { block := bl, off := ol }) x c0, Value.slice A1 y c1, Value.int IntKind.i64 g, Value.int IntKind.i64 g, Value.pointer (some { block := Z, off := 0 }), Value.slice A n c, Value.int IntKind.i64 (n : Int), Value.bool (decide (1048576 < (n : Int))), Value.bool (decide (1048576 < (n : Int))), Value.slice A2 m c2, Value.int IntKind.i64 (m : Int), Value.bool (decide (1048576 < (m : Int))), Value.bool (decide (1048576 < (n : Int)) || decide (1048576 < (m : Int))), Value.tuple #[Value.slice (some { block := bl, off := ol }) x c0, Value.slice A1 y c1], Value.slice A n c, Value.tuple #[Value.slice (some { block := bl, off := ol }) x c0, Value.slice A1 y c1], Value.slice (some { block := bl, off := ol }) x c0, Value.slice A1 y c1, Value.slice (some { block := bl, off := ol }) x c0, Value.slice A1 y c1, Value.int IntKind.i64 g, Value.slice (some { block := bl, off := ol }) x c0, Value.slice A1 y c1, Value.int IntKind.i64 g, Value.int IntKind.i64 g, Value.int IntKind.i64 g, Value.bool false, Value.bool false, Value.int IntKind.i64 g, Value.bool (decide (g < 0)), Value.bool (decide (g < 0)), undef, undef, undef, Value.slice (some { block := bl, off := ol }) x c0, Value.int IntKind.i64 (x : Int), Value.bool false, Value.bool false, Value.slice (some { block := bl, off := ol }) x c0, Value.int IntKind.i64 (x : Int), Value.bool false, Value.bool false, Value.bool false, Value.slice A1 y c1, Value.int IntKind.i64 (y : Int), Value.bool false, Value.bool false, undef, undef, Value.slice (some { block := bl, off := ol }) x c0, Value.slice A2 m c2, Value.int IntKind.i64 (m : Int), Value.slice (some { block := bl, off := ol }) x c0, Value.int IntKind.i64 (x : Int), Value.int IntKind.i64 ((m : Int) % (x : Int)), Value.pointer (some { block := bl, off := ol + r * 4 }), Value.agg #[Value.int IntKind.i64 p.area, Value.int IntKind.i64 p.job, Value.int IntKind.i64 p.sex, Value.int IntKind.i64 p.pay], u62, Value.slice (some { block := bl, off := ol }) x c0, u64, Value.agg #[Value.int IntKind.i64 p.area, Value.int IntKind.i64 p.job, Value.int IntKind.i64 p.sex, Value.int IntKind.i64 p.pay], undef, undef, u68, Value.slice A1 y c1, undef, Value.agg #[Value.int IntKind.i64 p.area, Value.int IntKind.i64 p.job, Value.int IntKind.i64 p.sex, Value.int IntKind.i64 p.pay], Value.slice (some { block := q2, off := 0 }) 1 1, undef, undef, Value.int IntKind.i64 g, Value.int IntKind.i64 (g + 1), undef], defers := [] } z := by
      intro u62 u64 u68 q2 z sx
      rw [hH]
      refine wpAnyH_all (rs := [4]) (by kernel_rfl) (by simp) (fun i hi => ?_)
      simp only [List.mem_cons, List.not_mem_nil, or_false] at hi
      subst hi
      unfold wpOp
      simp only [List.getElem?_toArray, List.getElem?_cons_succ, List.getElem?_cons_zero]
      rw [if_pos (by rfl)]
      left
      unfold Oper.wp
      go_simp
      have sy := Dt.lit sx
      refine ⟨sy.lo, ?_⟩
      (try simp only [Act.put])
      (try simp only [List.getElem_toArray])
      (try simp only [List.getElem_cons_succ])
      (try simp only [List.getElem_cons_zero])
      (try simp only [List.setIfInBounds_toArray])
      (try simp only [List.set_cons_succ])
      (try simp only [List.set_cons_zero])
      rw [← hH]
      exact castL (by kernel_rfl) (nd_0_2_4_6_10 u62 u64 z.heap.size u68 q2 _ sy)
    have nd_0_2_4_10 : ∀ (u62 : Value) (u64 : Value) (q1 : Nat) (q2 : Nat) (z : World), Dt W5 z p (some (u64, a)) (some q1) none (some q2) → H 7 #[true, true, true, true, true, false, false, true, false, true, true, false, false, true, true, false, false] { tmps := #[Value.slice A n c, Value.slice A2 m c2, undef, undef, Value.bool false, Value.slice (some { block := bl, off := ol }) x c0, Value.slice A1 y c1, Value.int IntKind.i64 g, Value.int IntKind.i64 g, Value.pointer (some { block := Z, off := 0 }), Value.slice A n c, Value.int IntKind.i64 (n : Int), Value.bool (decide (1048576 < (n : Int))), Value.bool (decide (1048576 < (n : Int))), Value.slice A2 m c2, Value.int IntKind.i64 (m : Int), Value.bool (decide (1048576 < (m : Int))), Value.bool (decide (1048576 < (n : Int)) || decide (1048576 < (m : Int))), Value.tuple #[Value.slice (some { block := bl, off := ol }) x c0, Value.slice A1 y c1], Value.slice A n c, Value.tuple #[Value.slice (some { block := bl, off := ol }) x c0, Value.slice A1 y c1], Value.slice (some { block := bl, off := ol }) x c0, Value.slice A1 y c1, Value.slice (some { block := bl, off := ol }) x c0, Value.slice A1 y c1, Value.int IntKind.i64 g, Value.slice (some { block := bl, off := ol }) x c0, Value.slice A1 y c1, Value.int IntKind.i64 g, Value.int IntKind.i64 g, Value.int IntKind.i64 g, Value.bool false, Value.bool false, Value.int IntKind.i64 g, Value.bool (decide (g < 0)), Value.bool (decide (g < 0)), undef, undef, undef, Value.slice (some { block := bl, off := ol }) x c0, Value.int IntKind.i64 (x : Int), Value.bool false, Value.bool false, Value.slice (some { block := bl, off := ol }) x c0, Value.int IntKind.i64 (x : Int), Value.bool false, Value.bool false, Value.bool false, Value.slice A1 y c1, Value.int IntKind.i64 (y : Int), Value.bool false, Value.bool false, undef, undef, Value.slice (some { block := bl, off := ol }) x c0, Value.slice A2 m c2, Value.int IntKind.i64 (m : Int), Value.slice (some { block := bl, off := ol }) x c0, Value.int IntKind.i64 (x : Int), Value.int IntKind.i64 ((m : Int) % (x : Int)), Value.pointer (some { block := bl, off := ol + r * 4 }), Value.agg #[Value.int IntKind.i64 p.area, Value.int IntKind.i64 p.job, Value.int IntKind.i64 p.sex, Value.int IntKind.i64 p.pay], u62, Value.slice (some { block := bl, off := ol }) x c0, u64, Value.agg #[Value.int IntKind.i64 p.area, Value.int IntKind.i64 p.job, Value.int IntKind.i64 p.sex, Value.int IntKind.i64 p.pay], Value.slice (some { block := q1, off := 0 }) 1 1, undef, undef, Value.slice A1 y c1, undef, Value.agg #[Value.int IntKind.i64 p.area, Value.int IntKind.i64 p.job, Value.int IntKind.i64 p.sex, Value.int IntKind.i64 p.pay], Value.slice (some { block := q2, off := 0 }) 1 1, undef, undef, Value.int IntKind.i64 g, Value.int IntKind.i64 (g + 1), undef], defers := [] } z := by
      intro u62 u64 q1 q2 z sx
      rw [hH]
      refine wpAnyH_all (rs := [5, 6]) (by kernel_rfl) (by simp) (fun i hi => ?_)
      simp only [List.mem_cons, List.not_mem_nil, or_false] at hi
      rcases hi with rfl | rfl
      · unfold wpOp
        simp only [List.getElem?_toArray, List.getElem?_cons_succ, List.getElem?_cons_zero]
        rw [if_pos (by rfl)]
        left
        refine wp_moreP (.tmp 64) (.tmp 66) rfl rfl sx rfl HLX.out fun v9 z9 sy9 => ?_
        have sy := sy9
        refine ⟨sy.lo, ?_⟩
        (try simp only [Act.put])
        (try simp only [List.getElem_toArray])
        (try simp only [List.getElem_cons_succ])
        (try simp only [List.getElem_cons_zero])
        (try simp only [List.setIfInBounds_toArray])
        (try simp only [List.set_cons_succ])
        (try simp only [List.set_cons_zero])
        rw [← hH]
        exact castL (by kernel_rfl) (nd_0_2_4_5_10 u62 u64 q1 v9 q2 _ sy)
      · unfold wpOp
        simp only [List.getElem?_toArray, List.getElem?_cons_succ, List.getElem?_cons_zero]
        rw [if_pos (by rfl)]
        left
        unfold Oper.wp
        go_simp
        have sy := Dt.swap (Dt.new (Dt.swap sx))
        refine ⟨sy.lo, ?_⟩
        (try simp only [Act.put])
        (try simp only [List.getElem_toArray])
        (try simp only [List.getElem_cons_succ])
        (try simp only [List.getElem_cons_zero])
        (try simp only [List.setIfInBounds_toArray])
        (try simp only [List.set_cons_succ])
        (try simp only [List.set_cons_zero])
        rw [← hH]
        exact castL (by kernel_rfl) (nd_0_2_4_6_10 u62 u64 q1 (Value.slice (some { block := z.heap.size, off := 0 }) 0 0) q2 _ sy)
    have nd_0_2_4_6 : ∀ (u62 : Value) (u64 : Value) (q1 : Nat) (u68 : Value) (z : World), Dt W5 z p (some (u64, a)) (some q1) (some (u68, [])) none → H 7 #[true, true, true, true, true, false, true, true, false, true, false, false, false, true, true, false, false] { tmps := #[Value.slice A n c, Value.slice A2 m c2, undef, undef, Value.bool false, Value.slice (some { block := bl, off := ol }) x c0, Value.slice A1 y c1, Value.int IntKind.i64 g, Value.int IntKind.i64 g, Value.pointer (some { block := Z, off := 0 }), Value.slice A n c, Value.int IntKind.i64 (n : Int), Value.bool (decide (1048576 < (n : Int))), Value.bool (decide (1048576 < (n : Int))), Value.slice A2 m c2, Value.int IntKind.i64 (m : Int), Value.bool (decide (1048576 < (m : Int))), Value.bool (decide (1048576 < (n : Int)) || decide (1048576 < (m : Int))), Value.tuple #[Value.slice (some { block := bl, off := ol }) x c0, Value.slice A1 y c1], Value.slice A n c, Value.tuple #[Value.slice (some { block := bl, off := ol }) x c0, Value.slice A1 y c1], Value.slice (some { block := bl, off := ol }) x c0, Value.slice A1 y c1, Value.slice (some { block := bl, off := ol }) x c0, Value.slice A1 y c1, Value.int IntKind.i64 g, Value.slice (some { block := bl, off := ol }) x c0, Value.slice A1 y c1, Value.int IntKind.i64 g, Value.int IntKind.i64 g, Value.int IntKind.i64 g, Value.bool false, Value.bool false, Value.int IntKind.i64 g, Value.bool (decide (g < 0)), Value.bool (decide (g < 0)), undef, undef, undef, Value.slice (some { block := bl, off := ol }) x c0, Value.int IntKind.i64 (x : Int), Value.bool false, Value.bool false, Value.slice (some { block := bl, off := ol }) x c0, Value.int IntKind.i64 (x : Int), Value.bool false, Value.bool false, Value.bool false, Value.slice A1 y c1, Value.int IntKind.i64 (y : Int), Value.bool false, Value.bool false, undef, undef, Value.slice (some { block := bl, off := ol }) x c0, Value.slice A2 m c2, Value.int IntKind.i64 (m : Int), Value.slice (some { block := bl, off := ol }) x c0, Value.int IntKind.i64 (x : Int), Value.int IntKind.i64 ((m : Int) % (x : Int)), Value.pointer (some { block := bl, off := ol + r * 4 }), Value.agg #[Value.int IntKind.i64 p.area, Value.int IntKind.i64 p.job, Value.int IntKind.i64 p.sex, Value.int IntKind.i64 p.pay], u62, Value.slice (some { block := bl, off := ol }) x c0, u64, Value.agg #[Value.int IntKind.i64 p.area, Value.int IntKind.i64 p.job, Value.int IntKind.i64 p.sex, Value.int IntKind.i64 p.pay], Value.slice (some { block := q1, off := 0 }) 1 1, undef, u68, Value.slice A1 y c1, undef, Value.agg #[Value.int IntKind.i64 p.area, Value.int IntKind.i64 p.job, Value.int IntKind.i64 p.sex, Value.int IntKind.i64 p.pay], undef, undef, undef, Value.int IntKind.i64 g, Value.int IntKind.i64 (g + 1), undef], defers := [] } z := by
      intro u62 u64 q1 u68 z sx
      rw [hH]
      refine wpAnyH_all (rs := [5, 10]) (by kernel_rfl) (by simp) (fun i hi => ?_)
      simp only [List.mem_cons, List.not_mem_nil, or_false] at hi
      rcases hi with rfl | rfl
      · unfold wpOp
        simp only [List.getElem?_toArray, List.getElem?_cons_succ, List.getElem?_cons_zero]
        rw [if_pos (by rfl)]
        left
        refine wp_moreP (.tmp 64) (.tmp 66) rfl rfl sx rfl HLX.out fun v9 z9 sy9 => ?_
        have sy := sy9
        refine ⟨sy.lo, ?_⟩
        (try simp only [Act.put])
        (try simp only [List.getElem_toArray])
        (try simp only [List.getElem_cons_succ])
        (try simp only [List.getElem_cons_zero])
        (try simp only [List.setIfInBounds_toArray])
        (try simp only [List.set_cons_succ])
        (try simp only [List.set_cons_zero])
        rw [← hH]
        exact castL (by kernel_rfl) (nd_0_2_4_5_6 u62 u64 q1 v9 u68 _ sy)
      · unfold wpOp
        simp only [List.getElem?_toArray, List.getElem?_cons_succ, List.getElem?_cons_zero]
        rw [if_pos (by rfl)]
        left
        unfold Oper.wp
        go_simp
        have sy := Dt.swap (Dt.lit (Dt.swap sx))
        refine ⟨sy.lo, ?_⟩
        (try simp only [Act.put])
        (try simp only [List.getElem_toArray])
        (try simp only [List.getElem_cons_succ])
        (try simp only [List.getElem_cons_zero])
        (try simp only [List.setIfInBounds_toArray])
        (try simp only [List.set_cons_succ])
        (try simp only [List.set_cons_zero])
        rw [← hH]
        exact castL (by kernel_rfl) (nd_0_2_4_6_10 u62 u64 q1 u68 z.heap.size _ sy)
    have nd_0_2_4_5 : ∀ (u62 : Value) (u64 : Value) (q1 : Nat) (u67 : Value) (z : World), Dt W5 z p (some (u67, a ++ [p])) none none none → H 7 #[true, true, true, true, true, true, false, true, false, true, false, false, false, true, true, false, false] { tmps := #[Value.slice A n c, Value.slice A2 m c2, undef, undef, Value.bool false, Value.slice (some { block := bl, off := ol }) x c0, Value.slice A1 y c1, Value.int IntKind.i64 g, Value.int IntKind.i64 g, Value.pointer (some { block := Z, off := 0 }), Value.slice A n c, Value.int IntKind.i64 (n : Int), Value.bool (decide (1048576 < (n : Int))), Value.bool (decide (1048576 < (n : Int))), Value.slice A2 m c2, Value.int IntKind.i64 (m : Int), Value.bool (decide (1048576 < (m : Int))), Value.bool (decide (1048576 < (n : Int)) || decide (1048576 < (m : Int))), Value.tuple #[Value.slice (some { block := bl, off := ol }) x c0, Value.slice A1 y c1], Value.slice A n c, Value.tuple #[Value.slice (some { block := bl, off := ol }) x c0, Value.slice A1 y c1], Value.slice (some { block := bl, off := ol }) x c0, Value.slice A1 y c1, Value.slice (some { block := bl, off := ol }) x c0, Value.slice A1 y c1, Value.int IntKind.i64 g, Value.slice (some { block := bl, off := ol }) x c0, Value.slice A1 y c1, Value.int IntKind.i64 g, Value.int IntKind.i64 g, Value.int IntKind.i64 g, Value.bool false, Value.bool false, Value.int IntKind.i64 g, Value.bool (decide (g < 0)), Value.bool (decide (g < 0)), undef, undef, undef, Value.slice (some { block := bl, off := ol }) x c0, Value.int IntKind.i64 (x : Int), Value.bool false, Value.bool false, Value.slice (some { block := bl, off := ol }) x c0, Value.int IntKind.i64 (x : Int), Value.bool false, Value.bool false, Value.bool false, Value.slice A1 y c1, Value.int IntKind.i64 (y : Int), Value.bool false, Value.bool false, undef, undef, Value.slice (some { block := bl, off := ol }) x c0, Value.slice A2 m c2, Value.int IntKind.i64 (m : Int), Value.slice (some { block := bl, off := ol }) x c0, Value.int IntKind.i64 (x : Int), Value.int IntKind.i64 ((m : Int) % (x : Int)), Value.pointer (some { block := bl, off := ol + r * 4 }), Value.agg #[Value.int IntKind.i64 p.area, Value.int IntKind.i64 p.job, Value.int IntKind.i64 p.sex, Value.int IntKind.i64 p.pay], u62, Value.slice (some { block := bl, off := ol }) x c0, u64, Value.agg #[Value.int IntKind.i64 p.area, Value.int IntKind.i64 p.job, Value.int IntKind.i64 p.sex, Value.int IntKind.i64 p.pay], Value.slice (some { block := q1, off := 0 }) 1 1, u67, undef, Value.slice A1 y c1, undef, Value.agg #[Value.int IntKind.i64 p.area, Value.int IntKind.i64 p.job, Value.int IntKind.i64 p.sex, Value.int IntKind.i64 p.pay], undef, undef, undef, Value.int IntKind.i64 g, Value.int IntKind.i64 (g + 1), undef], defers := [] } z := by
      intro u62 u64 q1 u67 z sx
      rw [hH]
      refine wpAnyH_all (rs := [6, 10]) (by kernel_rfl) (by simp) (fun i hi => ?_)
      simp only [List.mem_cons, List.not_mem_nil, or_false] at hi
      rcases hi with rfl | rfl
      · unfold wpOp
        simp only [List.getElem?_toArray, List.getElem?_cons_succ, List.getElem?_cons_zero]
        rw [if_pos (by rfl)]
        left
        unfold Oper.wp
        go_simp
        have sy := Dt.swap (Dt.new (Dt.swap sx))
        refine ⟨sy.lo, ?_⟩
        (try simp only [Act.put])
        (try simp only [List.getElem_toArray])
        (try simp only [List.getElem_cons_succ])
        (try simp only [List.getElem_cons_zero])
        (try simp only [List.setIfInBounds_toArray])
        (try simp only [List.set_cons_succ])
        (try simp only [List.set_cons_zero])
        rw [← hH]
        exact castL (by kernel_rfl) (nd_0_2_4_5_6 u62 u64 q1 u67 (Value.slice (some { block := z.heap.size, off := 0 }) 0 0) _ sy)
      · unfold wpOp
        simp only [List.getElem?_toArray, List.getElem?_cons_succ, List.getElem?_cons_zero]
        rw [if_pos (by rfl)]
        left
        unfold Oper.wp
        go_simp
        have sy := Dt.swap (Dt.lit (Dt.swap sx))
        refine ⟨sy.lo, ?_⟩
        (try simp only [Act.put])
        (try simp only [List.getElem_toArray])
        (try simp only [List.getElem_cons_succ])
        (try simp only [List.getElem_cons_zero])
        (try simp only [List.setIfInBounds_toArray])
        (try simp only [List.set_cons_succ])
        (try simp only [List.set_cons_zero])
        rw [← hH]
        exact castL (by kernel_rfl) (nd_0_2_4_5_10 u62 u64 q1 u67 z.heap.size _ sy)
    have nd_4_6_10 : ∀ (q1 : Nat) (u68 : Value) (q2 : Nat) (z : World), Dt W5 z p none (some q1) (some (u68, [])) (some q2) → H 8 #[false, true, false, true, true, false, true, true, false, true, true, false, false, true, true, false, false] { tmps := #[Value.slice A n c, Value.slice A2 m c2, undef, undef, Value.bool false, Value.slice (some { block := bl, off := ol }) x c0, Value.slice A1 y c1, Value.int IntKind.i64 g, Value.int IntKind.i64 g, Value.pointer (some { block := Z, off := 0 }), Value.slice A n c, Value.int IntKind.i64 (n : Int), Value.bool (decide (1048576 < (n : Int))), Value.bool (decide (1048576 < (n : Int))), Value.slice A2 m c2, Value.int IntKind.i64 (m : Int), Value.bool (decide (1048576 < (m : Int))), Value.bool (decide (1048576 < (n : Int)) || decide (1048576 < (m : Int))), Value.tuple #[Value.slice (some { block := bl, off := ol }) x c0, Value.slice A1 y c1], Value.slice A n c, Value.tuple #[Value.slice (some { block := bl, off := ol }) x c0, Value.slice A1 y c1], Value.slice (some { block := bl, off := ol }) x c0, Value.slice A1 y c1, Value.slice (some { block := bl, off := ol }) x c0, Value.slice A1 y c1, Value.int IntKind.i64 g, Value.slice (some { block := bl, off := ol }) x c0, Value.slice A1 y c1, Value.int IntKind.i64 g, Value.int IntKind.i64 g, Value.int IntKind.i64 g, Value.bool false, Value.bool false, Value.int IntKind.i64 g, Value.bool (decide (g < 0)), Value.bool (decide (g < 0)), undef, undef, undef, Value.slice (some { block := bl, off := ol }) x c0, Value.int IntKind.i64 (x : Int), Value.bool false, Value.bool false, Value.slice (some { block := bl, off := ol }) x c0, Value.int IntKind.i64 (x : Int), Value.bool false, Value.bool false, Value.bool false, Value.slice A1 y c1, Value.int IntKind.i64 (y : Int), Value.bool false, Value.bool false, undef, undef, Value.slice (some { block := bl, off := ol }) x c0, Value.slice A2 m c2, Value.int IntKind.i64 (m : Int), Value.slice (some { block := bl, off := ol }) x c0, Value.int IntKind.i64 (x : Int), Value.int IntKind.i64 ((m : Int) % (x : Int)), Value.pointer (some { block := bl, off := ol + r * 4 }), Value.agg #[Value.int IntKind.i64 p.area, Value.int IntKind.i64 p.job, Value.int IntKind.i64 p.sex, Value.int IntKind.i64 p.pay], undef, Value.slice (some { block := bl, off := ol }) x c0, undef, Value.agg #[Value.int IntKind.i64 p.area, Value.int IntKind.i64 p.job, Value.int IntKind.i64 p.sex, Value.int IntKind.i64 p.pay], Value.slice (some { block := q1, off := 0 }) 1 1, undef, u68, Value.slice A1 y c1, undef, Value.agg #[Value.int IntKind.i64 p.area, Value.int IntKind.i64 p.job, Value.int IntKind.i64 p.sex, Value.int IntKind.i64 p.pay], Value.slice (some { block := q2, off := 0 }) 1 1, undef, undef, Value.int IntKind.i64 g, Value.int IntKind.i64 (g + 1), undef], defers := [] } z := by
      intro q1 u68 q2 z sx
      rw [hH]
      refine wpAnyH_all (rs := [0]) (by kernel_rfl) (by simp) (fun i hi => ?_)
      simp only [List.mem_cons, List.not_mem_nil, or_false] at hi
      subst hi
      unfold wpOp
      simp only [List.getElem?_toArray, List.getElem?_cons_zero]
      rw [if_pos (by rfl)]
      left
      unfold Oper.wp
      go_simp
      have sy := Dt.new sx
      refine ⟨sy.lo, ?_⟩
      (try simp only [Act.put])
      (try simp only [List.getElem_toArray])
      (try simp only [List.getElem_cons_succ])
      (try simp only [List.getElem_cons_zero])
      (try simp only [List.setIfInBounds_toArray])
      (try simp only [List.set_cons_succ])
      (try simp only [List.set_cons_zero])
      rw [← hH]
      exact castL (by kernel_rfl) (nd_0_4_6_10 (Value.slice (some { block := z.heap.size, off := 0 }) 0 0) q1 u68 q2 _ sy)
    have nd_0_6_10 : ∀ (u62 : Value) (u68 : Value) (q2 : Nat) (z : World), Dt W5 z p (some (u62, [])) none (some (u68, [])) (some q2) → H 8 #[true, true, false, true, false, false, true, true, false, true, true, false, false, true, true, false, false] { tmps := #[Value.slice A n c, Value.slice A2 m c2, undef, undef, Value.bool false, Value.slice (some { block := bl, off := ol }) x c0, Value.slice A1 y c1, Value.int IntKind.i64 g, Value.int IntKind.i64 g, Value.pointer (some { block := Z, off := 0 }), Value.slice A n c, Value.int IntKind.i64 (n : Int), Value.bool (decide (1048576 < (n : Int))), Value.bool (decide (1048576 < (n : Int))), Value.slice A2 m c2, Value.int IntKind.i64 (m : Int), Value.bool (decide (1048576 < (m : Int))), Value.bool (decide (1048576 < (n : Int)) || decide (1048576 < (m : Int))), Value.tuple #[Value.slice (some { block := bl, off := ol }) x c0, Value.slice A1 y c1], Value.slice A n c, Value.tuple #[Value.slice (some { block := bl, off := ol }) x c0, Value.slice A1 y c1], Value.slice (some { block := bl, off := ol }) x c0, Value.slice A1 y c1, Value.slice (some { block := bl, off := ol }) x c0, Value.slice A1 y c1, Value.int IntKind.i64 g, Value.slice (some { block := bl, off := ol }) x c0, Value.slice A1 y c1, Value.int IntKind.i64 g, Value.int IntKind.i64 g, Value.int IntKind.i64 g, Value.bool false, Value.bool false, Value.int IntKind.i64 g, Value.bool (decide (g < 0)), Value.bool (decide (g < 0)), undef, undef, undef, Value.slice (some { block := bl, off := ol }) x c0, Value.int IntKind.i64 (x : Int), Value.bool false, Value.bool false, Value.slice (some { block := bl, off := ol }) x c0, Value.int IntKind.i64 (x : Int), Value.bool false, Value.bool false, Value.bool false, Value.slice A1 y c1, Value.int IntKind.i64 (y : Int), Value.bool false, Value.bool false, undef, undef, Value.slice (some { block := bl, off := ol }) x c0, Value.slice A2 m c2, Value.int IntKind.i64 (m : Int), Value.slice (some { block := bl, off := ol }) x c0, Value.int IntKind.i64 (x : Int), Value.int IntKind.i64 ((m : Int) % (x : Int)), Value.pointer (some { block := bl, off := ol + r * 4 }), Value.agg #[Value.int IntKind.i64 p.area, Value.int IntKind.i64 p.job, Value.int IntKind.i64 p.sex, Value.int IntKind.i64 p.pay], u62, Value.slice (some { block := bl, off := ol }) x c0, undef, Value.agg #[Value.int IntKind.i64 p.area, Value.int IntKind.i64 p.job, Value.int IntKind.i64 p.sex, Value.int IntKind.i64 p.pay], undef, undef, u68, Value.slice A1 y c1, undef, Value.agg #[Value.int IntKind.i64 p.area, Value.int IntKind.i64 p.job, Value.int IntKind.i64 p.sex, Value.int IntKind.i64 p.pay], Value.slice (some { block := q2, off := 0 }) 1 1, undef, undef, Value.int IntKind.i64 g, Value.int IntKind.i64 (g + 1), undef], defers := [] } z := by
      intro u62 u68 q2 z sx
      rw [hH]
      refine wpAnyH_all (rs := [2, 4]) (by kernel_rfl) (by simp) (fun i hi => ?_)
      simp only [List.mem_cons, List.not_mem_nil, or_false] at hi
      rcases hi with rfl | rfl
      · unfold wpOp
        simp only [List.getElem?_toArray, List.getElem?_cons_succ, List.getElem?_cons_zero]
        rw [if_pos (by rfl)]
        left
        refine wp_copyP (.tmp 62) (.tmp 63) rfl rfl sx _ _ _ a rfl HLA.out.symm HR1.out HLX.out fun v9 z9 sy9 => ?_
        have sy := sy9
        refine ⟨sy.lo, ?_⟩
        (try simp only [Act.put])
        (try simp only [List.getElem_toArray])
        (try simp only [List.getElem_cons_succ])
        (try simp only [List.getElem_cons_zero])
        (try simp only [List.setIfInBounds_toArray])
        (try simp only [List.set_cons_succ])
        (try simp only [List.set_cons_zero])
        rw [← hH]
        exact castL (by kernel_rfl) (nd_0_2_6_10 u62 v9 u68 q2 _ sy)
      · unfold wpOp
        simp only [List.getElem?_toArray, List.getElem?_cons_succ, List.getElem?_cons_zero]
        rw [if_pos (by rfl)]
        left
        unfold Oper.wp
        go_simp
        have sy := Dt.lit sx
        refine ⟨sy.lo, ?_⟩
        (try simp only [Act.put])
        (try simp only [List.getElem_toArray])
        (try simp only [List.getElem_cons_succ])
        (try simp only [List.getElem_cons_zero])
        (try simp only [List.setIfInBounds_toArray])
        (try simp only [List.set_cons_succ])
        (try simp only [List.set_cons_zero])
        rw [← hH]
        exact castL (by kernel_rfl) (nd_0_4_6_10 u62 z.heap.size u68 q2 _ sy)
    have nd_0_4_10 : ∀ (u62 : Value) (q1 : Nat) (q2 : Nat) (z : World), Dt W5 z p (some (u62, [])) (some q1) none (some q2) → H 8 #[true, true, false, true, true, false, false, true, false, true, true, false, false, true, true, false, false] { tmps := #[Value.slice A n c, Value.slice A2 m c2, undef, undef, Value.bool false, Value.slice (some { block := bl, off := ol }) x c0, Value.slice A1 y c1, Value.int IntKind.i64 g, Value.int IntKind.i64 g, Value.pointer (some { block := Z, off := 0 }), Value.slice A n c, Value.int IntKind.i64 (n : Int), Value.bool (decide (1048576 < (n : Int))), Value.bool (decide (1048576 < (n : Int))), Value.slice A2 m c2, Value.int IntKind.i64 (m : Int), Value.bool (decide (1048576 < (m : Int))), Value.bool (decide (1048576 < (n : Int)) || decide (1048576 < (m : Int))), Value.tuple #[Value.slice (some { block := bl, off := ol }) x c0, Value.slice A1 y c1], Value.slice A n c, Value.tuple #[Value.slice (some { block := bl, off := ol }) x c0, Value.slice A1 y c1], Value.slice (some { block := bl, off := ol }) x c0, Value.slice A1 y c1, Value.slice (some { block := bl, off := ol }) x c0, Value.slice A1 y c1, Value.int IntKind.i64 g, Value.slice (some { block := bl, off := ol }) x c0, Value.slice A1 y c1, Value.int IntKind.i64 g, Value.int IntKind.i64 g, Value.int IntKind.i64 g, Value.bool false, Value.bool false, Value.int IntKind.i64 g, Value.bool (decide (g < 0)), Value.bool (decide (g < 0)), undef, undef, undef, Value.slice (some { block := bl, off := ol }) x c0, Value.int IntKind.i64 (x : Int), Value.bool false, Value.bool false, Value.slice (some { block := bl, off := ol }) x c0, Value.int IntKind.i64 (x : Int), Value.bool false, Value.bool false, Value.bool false, Value.slice A1 y c1, Value.int IntKind.i64 (y : Int), Value.bool false, Value.bool false, undef, undef, Value.slice (some { block := bl, off := ol }) x c0, Value.slice A2 m c2, Value.int IntKind.i64 (m : Int), Value.slice (some { block := bl, off := ol }) x c0, Value.int IntKind.i64 (x : Int), Value.int IntKind.i64 ((m : Int) % (x : Int)), Value.pointer (some { block := bl, off := ol + r * 4 }), Value.agg #[Value.int IntKind.i64 p.area, Value.int IntKind.i64 p.job, Value.int IntKind.i64 p.sex, Value.int IntKind.i64 p.pay], u62, Value.slice (some { block := bl, off := ol }) x c0, undef, Value.agg #[Value.int IntKind.i64 p.area, Value.int IntKind.i64 p.job, Value.int IntKind.i64 p.sex, Value.int IntKind.i64 p.pay], Value.slice (some { block := q1, off := 0 }) 1 1, undef, undef, Value.slice A1 y c1, undef, Value.agg #[Value.int IntKind.i64 p.area, Value.int IntKind.i64 p.job, Value.int IntKind.i64 p.sex, Value.int IntKind.i64 p.pay], Value.slice (some { block := q2, off := 0 }) 1 1, undef, undef, Value.int IntKind.i64 g, Value.int IntKind.i64 (g + 1), undef], defers := [] } z := by
      intro u62 q1 q2 z sx
      rw [hH]
      refine wpAnyH_all (rs := [2, 6]) (by kernel_rfl) (by simp) (fun i hi => ?_)
      simp only [List.mem_cons, List.not_mem_nil, or_false] at hi
      rcases hi with rfl | rfl
      · unfold wpOp
        simp only [List.getElem?_toArray, List.getElem?_cons_succ, List.getElem?_cons_zero]
        rw [if_pos (by rfl)]
        left
        refine wp_copyP (.tmp 62) (.tmp 63) rfl rfl sx _ _ _ a rfl HLA.out.symm HR1.out HLX.out fun v9 z9 sy9 => ?_
        have sy := sy9
        refine ⟨sy.lo, ?_⟩
        (try simp only [Act.put])
        (try simp only [List.getElem_toArray])
        (try simp only [List.getElem_cons_succ])
        (try simp only [List.getElem_cons_zero])
        (try simp only [List.setIfInBounds_toArray])
        (try simp only [List.set_cons_succ])
        (try simp only [List.set_cons_zero])
        rw [← hH]
        exact castL (by kernel_rfl) (nd_0_2_4_10 u62 v9 q1 q2 _ sy)
      · unfold wpOp
        simp only [List.getElem?_toArray, List.getElem?_cons_succ, List.getElem?_cons_zero]
        rw [if_pos (by rfl)]
        left
        unfold Oper.wp
        go_simp
        have sy := Dt.swap (Dt.new (Dt.swap sx))
        refine ⟨sy.lo, ?_⟩
        (try simp only [Act.put])
        (try simp only [List.getElem_toArray])
        (try simp only [List.getElem_cons_succ])
        (try simp only [List.getElem_cons_zero])
        (try simp only [List.setIfInBounds_toArray])
        (try simp only [List.set_cons_succ])
        (try simp only [List.set_cons_zero])
        rw [← hH]
        exact castL (by kernel_rfl) (nd_0_4_6_10 u62 q1 (Value.slice (some { block := z.heap.size, off := 0 }) 0 0) q2 _ sy)
    have nd_0_4_6 : ∀ (u62 : Value) (q1 : Nat) (u68 : Value) (z : World), Dt W5 z p (some (u62, [])) (some q1) (some (u68, [])) none → H 8 #[true, true, false, true, true, false, true, true, false, true, false, false, false, true, true, false, false] { tmps := #[Value.slice A n c, Value.slice A2 m c2, undef, undef, Value.bool false, Value.slice (some { block := bl, off := ol }) x c0, Value.slice A1 y c1, Value.int IntKind.i64 g, Value.int IntKind.i64 g, Value.pointer (some { block := Z, off := 0 }), Value.slice A n c, Value.int IntKind.i64 (n : Int), Value.bool (decide (1048576 < (n : Int))), Value.bool (decide (1048576 < (n : Int))), Value.slice A2 m c2, Value.int IntKind.i64 (m : Int), Value.bool (decide (1048576 < (m : Int))), Value.bool (decide (1048576 < (n : Int)) || decide (1048576 < (m : Int))), Value.tuple #[Value.slice (some { block := bl, off := ol }) x c0, Value.slice A1 y c1], Value.slice A n c, Value.tuple #[Value.slice (some { block := bl, off := ol }) x c0, Value.slice A1 y c1], Value.slice (some { block := bl, off := ol }) x c0, Value.slice A1 y c1, Value.slice (some { block := bl, off := ol }) x c0, Value.slice A1 y c1, Value.int IntKind.i64 g, Value.slice (some { block := bl, off := ol }) x c0, Value.slice A1 y c1, Value.int IntKind.i64 g, Value.int IntKind.i64 g, Value.int IntKind.i64 g, Value.bool false, Value.bool false, Value.int IntKind.i64 g, Value.bool (decide (g < 0)), Value.bool (decide (g < 0)), undef, undef, undef, Value.slice (some { block := bl, off := ol }) x c0, Value.int IntKind.i64 (x : Int), Value.bool false, Value.bool false, Value.slice (some { block := bl, off := ol }) x c0, Value.int IntKind.i64 (x : Int), Value.bool false, Value.bool false, Value.bool false, Value.slice A1 y c1, Value.int IntKind.i64 (y : Int), Value.bool false, Value.bool false, undef, undef, Value.slice (some { block := bl, off := ol }) x c0, Value.slice A2 m c2, Value.int IntKind.i64 (m : Int), Value.slice (some { block := bl, off := ol }) x c0, Value.int IntKind.i64 (x : Int), Value.int IntKind.i64 ((m : Int) % (x : Int)), Value.pointer (some { block := bl, off := ol + r * 4 }), Value.agg #[Value.int IntKind.i64 p.area, Value.int IntKind.i64 p.job, Value.int IntKind.i64 p.sex, Value.int IntKind.i64 p.pay], u62, Value.slice (some { block := bl, off := ol }) x c0, undef, Value.agg #[Value.int IntKind.i64 p.area, Value.int IntKind.i64 p.job, Value.int IntKind.i64 p.sex, Value.int IntKind.i64 p.pay], Value.slice (some { block := q1, off := 0 }) 1 1, undef, u68, Value.slice A1 y c1, undef, Value.agg #[Value.int IntKind.i64 p.area, Value.int IntKind.i64 p.job, Value.int IntKind.i64 p.sex, Value.int IntKind.i64 p.pay], undef, undef, undef, Value.int IntKind.i64 g, Value.int IntKind.i64 (g + 1), undef], defers := [] } z := by
      intro u62 q1 u68 z sx
      rw [hH]
      refine wpAnyH_all (rs := [2, 10]) (by kernel_rfl) (by simp) (fun i hi => ?_)
      simp only [List.mem_cons, List.not_mem_nil, or_false] at hi
      rcases hi with rfl | rfl
      · unfold wpOp
        simp only [List.getElem?_toArray, List.getElem?_cons_succ, List.getElem?_cons_zero]
        rw [if_pos (by rfl)]
        left
        refine wp_copyP (.tmp 62) (.tmp 63) rfl rfl sx _ _ _ a rfl HLA.out.symm HR1.out HLX.out fun v9 z9 sy9 => ?_
        have sy := sy9
        refine ⟨sy.lo, ?_⟩
        (try simp only [Act.put])
        (try simp only [List.getElem_toArray])
        (try simp only [List.getElem_cons_succ])
        (try simp only [List.getElem_cons_zero])
        (try simp only [List.setIfInBounds_toArray])
        (try simp only [List.set_cons_succ])
        (try simp only [List.set_cons_zero])
        rw [← hH]
        exact castL (by kernel_rfl) (nd_0_2_4_6 u62 v9 q1 u68 _ sy)
      · unfold wpOp
        simp only [List.getElem?_toArray, List.getElem?_cons_succ, List.getElem?_cons_zero]
        rw [if_pos (by rfl)]
        left
        unfold Oper.wp
        go_simp
        have sy := Dt.swap (Dt.lit (Dt.swap sx))
        refine ⟨sy.lo, ?_⟩
        (try simp only [Act.put])
        (try simp only [List.getElem_toArray])
        (try simp only [List.getElem_cons_succ])
        (try simp only [List.getElem_cons_zero])
        (try simp only [List.setIfInBounds_toArray])
        (try simp only [List.set_cons_succ])
        (try simp only [List.set_cons_zero])
        rw [← hH]
        exact castL (by kernel_rfl) (nd_0_4_6_10 u62 q1 u68 z.heap.size _ sy)
    have nd_0_2_10 : ∀ (u62 : Value) (u64 : Value) (q2 : Nat) (z : World), Dt W5 z p (some (u64, a)) none none (some q2) → H 8 #[true, true, true, true, false, false, false, true, false, true, true, false, false, true, true, false, false] { tmps := #[Value.slice A n c, Value.slice A2 m c2, undef, undef, Value.bool false, Value.slice (some { block := bl, off := ol }) x c0, Value.slice A1 y c1, Value.int IntKind.i64 g, Value.int IntKind.i64 g, Value.pointer (some { block := Z, off := 0 }), Value.slice A n c, Value.int IntKind.i64 (n : Int), Value.bool (decide (1048576 < (n : Int))), Value.bool (decide (1048576 < (n : Int))), Value.slice A2 m c2, Value.int IntKind.i64 (m : Int), Value.bool (decide (1048576 < (m : Int))), Value.bool (decide (1048576 < (n : Int)) || decide (1048576 < (m : Int))), Value.tuple #[Value.slice (some { block := bl, off := ol }) x c0, Value.slice A1 y c1], Value.slice A n c, Value.tuple #[Value.slice (some { block := bl, off := ol }) x c0, Value.slice A1 y c1], Value.slice (some { block := bl, off := ol }) x c0, Value.slice A1 y c1, Value.slice (some { block := bl, off := ol }) x c0, Value.slice A1 y c1, Value.int IntKind.i64 g, Value.slice (some { block := bl, off := ol }) x c0, Value.slice A1 y c1, Value.int IntKind.i64 g, Value.int IntKind.i64 g, Value.int IntKind.i64 g, Value.bool false, Value.bool false, Value.int IntKind.i64 g, Value.bool (decide (g < 0)), Value.bool (decide (g < 0)), undef, undef, undef, Value.slice (some { block := bl, off := ol }) x c0, Value.int IntKind.i64 (x : Int), Value.bool false, Value.bool false, Value.slice (some { block := bl, off := ol }) x c0, Value.int IntKind.i64 (x : Int), Value.bool false, Value.bool false, Value.bool false, Value.slice A1 y c1, Value.int IntKind.i64 (y : Int), Value.bool false, Value.bool false, undef, undef, Value.slice (some { block := bl, off := ol }) x c0, Value.slice A2 m c2, Value.int IntKind.i64 (m : Int), Value.slice (some { block := bl, off := ol }) x c0, Value.int IntKind.i64 (x : Int), Value.int IntKind.i64 ((m : Int) % (x : Int)), Value.pointer (some { block := bl, off := ol + r * 4 }), Value.agg #[Value.int IntKind.i64 p.area, Value.int IntKind.i64 p.job, Value.int IntKind.i64 p.sex, Value.int IntKind.i64 p.pay], u62, Value.slice (some { block := bl, off := ol }) x c0, u64, Value.agg #[Value.int IntKind.i64 p.area, Value.int IntKind.i64 p.job, Value.int IntKind.i64 p.sex, Value.int IntKind.i64 p.pay], undef, undef, undef, Value.slice A1 y c1, undef, Value.agg #[Value.int IntKind.i64 p.area, Value.int IntKind.i64 p.job, Value.int IntKind.i64 p.sex, Value.int IntKind.i64 p.pay], Value.slice (some { block := q2, off := 0 }) 1 1, undef, undef, Value.int IntKind.i64 g, Value.int IntKind.i64 (g + 1), undef], defers := [] } z := by
      intro u62 u64 q2 z sx
      rw [hH]
      refine wpAnyH_all (rs := [4, 6]) (by kernel_rfl) (by simp) (fun i hi => ?_)
      simp only [List.mem_cons, List.not_mem_nil, or_false] at hi
      rcases hi with rfl | rfl
      · unfold wpOp
        simp only [List.getElem?_toArray, List.getElem?_cons_succ, List.getElem?_cons_zero]
        rw [if_pos (by rfl)]
        left
        unfold Oper.wp
        go_simp
        have sy := Dt.lit sx
        refine ⟨sy.lo, ?_⟩
        (try simp only [Act.put])
        (try simp only [List.getElem_toArray])
        (try simp only [List.getElem_cons_succ])
        (try simp only [List.getElem_cons_zero])
        (try simp only [List.setIfInBounds_toArray])
        (try simp only [List.set_cons_succ])
        (try simp only [List.set_cons_zero])
        rw [← hH]
        exact castL (by kernel_rfl) (nd_0_2_4_10 u62 u64 z.heap.size q2 _ sy)
      · unfold wpOp
        simp only [List.getElem?_toArray, List.getElem?_cons_succ, List.getElem?_cons_zero]
        rw [if_pos (by rfl)]
        left
        unfold Oper.wp
        go_simp
        have sy := Dt.swap (Dt.new (Dt.swap sx))
        refine ⟨sy.lo, ?_⟩
        (try simp only [Act.put])
        (try simp only [List.getElem_toArray])
        (try simp only [List.getElem_cons_succ])
        (try simp only [List.getElem_cons_zero])
        (try simp only [List.setIfInBounds_toArray])
        (try simp only [List.set_cons_succ])
        (try simp only [List.set_cons_zero])
        rw [← hH]
        exact castL (by kernel_rfl) (nd_0_2_6_10 u62 u64 (Value.slice (some { block := z.heap.size, off := 0 }) 0 0) q2 _ sy)
    have nd_0_2_6 : ∀ (u62 : Value) (u64 : Value) (u68 : Value) (z : World), Dt W5 z p (some (u64, a)) none (some (u68, [])) none → H 8 #[true, true, true, true, false, false, true, true, false, true, false, false, false, true, true, false, false] { tmps := #[Value.slice A n c, Value.slice A2 m c2, undef, undef, Value.bool false, Value.slice (some { block := bl, off := ol }) x c0, Value.slice A1 y c1, Value.int IntKind.i64 g, Value.int IntKind.i64 g, Value.pointer (some { block := Z, off := 0 }), Value.slice A n c, Value.int IntKind.i64 (n : Int), Value.bool (decide (1048576 < (n : Int))), Value.bool (decide (1048576 < (n : Int))), Value.slice A2 m c2, Value.int IntKind.i64 (m : Int), Value.bool (decide (1048576 < (m : Int))), Value.bool (decide (1048576 < (n : Int)) || decide (1048576 < (m : Int))), Value.tuple #[Value.slice (some { block := bl, off := ol }) x c0, Value.slice A1 y c1], Value.slice A n c, Value.tuple #[Value.slice (some { block := bl, off := ol }) x c0, Value.slice A1 y c1], Value.slice (some { block := bl, off := ol }) x c0, Value.slice A1 y c1, Value.slice (some { block := bl, off := ol }) x c0, Value.slice A1 y c1, Value.int IntKind.i64 g, Value.slice (some { block := bl, off := ol }) x c0, Value.slice A1 y c1, Value.int IntKind.i64 g, Value.int IntKind.i64 g, Value.int IntKind.i64 g, Value.bool false, Value.bool false, Value.int IntKind.i64 g, Value.bool (decide (g < 0)), Value.bool (decide (g < 0)), undef, undef, undef, Value.slice (some { block := bl, off := ol }) x c0, Value.int IntKind.i64 (x : Int), Value.bool false, Value.bool false, Value.slice (some { block := bl, off := ol }) x c0, Value.int IntKind.i64 (x : Int), Value.bool false, Value.bool false, Value.bool false, Value.slice A1 y c1, Value.int IntKind.i64 (y : Int), Value.bool false, Value.bool false, undef, undef, Value.slice (some { block := bl, off := ol }) x c0, Value.slice A2 m c2, Value.int IntKind.i64 (m : Int), Value.slice (some { block := bl, off := ol }) x c0, Value.int IntKind.i64 (x : Int), Value.int IntKind.i64 ((m : Int) % (x : Int)), Value.pointer (some { block := bl, off := ol + r * 4 }), Value.agg #[Value.int IntKind.i64 p.area, Value.int IntKind.i64 p.job, Value.int IntKind.i64 p.sex, Value.int IntKind.i64 p.pay], u62, Value.slice (some { block := bl, off := ol }) x c0, u64, Value.agg #[Value.int IntKind.i64 p.area, Value.int IntKind.i64 p.job, Value.int IntKind.i64 p.sex, Value.int IntKind.i64 p.pay], undef, undef, u68, Value.slice A1 y c1, undef, Value.agg #[Value.int IntKind.i64 p.area, Value.int IntKind.i64 p.job, Value.int IntKind.i64 p.sex, Value.int IntKind.i64 p.pay], undef, undef, undef, Value.int IntKind.i64 g, Value.int IntKind.i64 (g + 1), undef], defers := [] } z := by
      intro u62 u64 u68 z sx
      rw [hH]
      refine wpAnyH_all (rs := [4, 10]) (by kernel_rfl) (by simp) (fun i hi => ?_)
      simp only [List.mem_cons, List.not_mem_nil, or_false] at hi
      rcases hi with rfl | rfl
      · unfold wpOp
        simp only [List.getElem?_toArray, List.getElem?_cons_succ, List.getElem?_cons_zero]
        rw [if_pos (by rfl)]
        left
        unfold Oper.wp
        go_simp
        have sy := Dt.lit sx
        refine ⟨sy.lo, ?_⟩
        (try simp only [Act.put])
        (try simp only [List.getElem_toArray])
        (try simp only [List.getElem_cons_succ])
        (try simp only [List.getElem_cons_zero])
        (try simp only [List.setIfInBounds_toArray])
        (try simp only [List.set_cons_succ])
        (try simp only [List.set_cons_zero])
        rw [← hH]
        exact castL (by kernel_rfl) (nd_0_2_4_6 u62 u64 z.heap.size u68 _ sy)
      · unfold wpOp
        simp only [List.getElem?_toArray, List.getElem?_cons_succ, List.getElem?_cons_zero]
        rw [if_pos (by rfl)]
        left
        unfold Oper.wp
        go_simp
        have sy := Dt.swap (Dt.lit (Dt.swap sx))
        refine ⟨sy.lo, ?_⟩
        (try simp only [Act.put])
        (try simp only [List.getElem_toArray])
        (try simp only [List.getElem_cons_succ])
        (try simp only [List.getElem_cons_zero])
        (try simp only [List.setIfInBounds_toArray])
        (try simp only [List.set_cons_succ])
        (try simp only [List.set_cons_zero])
        rw [← hH]
        exact castL (by kernel_rfl) (nd_0_2_6_10 u62 u64 u68 z.heap.size _ sy)
    have nd_0_2_4 : ∀ (u62 : Value) (u64 : Value) (q1 : Nat) (z : World), Dt W5 z p (some (u64, a)) (some q1) none none → H 8 #[true, true, true, true, true, false, false, true, false, true, false, false, false, true, true, false, false] { tmps := #[Value.slice A n c, Value.slice A2 m c2, undef, undef, Value.bool false, Value.slice (some { block := bl, off := ol }) x c0, Value.slice A1 y c1, Value.int IntKind.i64 g, Value.int IntKind.i64 g, Value.pointer (some { block := Z, off := 0 }), Value.slice A n c, Value.int IntKind.i64 (n : Int), Value.bool (decide (1048576 < (n : Int))), Value.bool (decide (1048576 < (n : Int))), Value.slice A2 m c2, Value.int IntKind.i64 (m : Int), Value.bool (decide (1048576 < (m : Int))), Value.bool (decide (1048576 < (n : Int)) || decide (1048576 < (m : Int))), Value.tuple #[Value.slice (some { block := bl, off := ol }) x c0, Value.slice A1 y c1], Value.slice A n c, Value.tuple #[Value.slice (some { block := bl, off := ol }) x c0, Value.slice A1 y c1], Value.slice (some { block := bl, off := ol }) x c0, Value.slice A1 y c1, Value.slice (some { block := bl, off := ol }) x c0, Value.slice A1 y c1, Value.int IntKind.i64 g, Value.slice (some { block := bl, off := ol }) x c0, Value.slice A1 y c1, Value.int IntKind.i64 g, Value.int IntKind.i64 g, Value.int IntKind.i64 g, Value.bool false, Value.bool false, Value.int IntKind.i64 g, Value.bool (decide (g < 0)), Value.bool (decide (g < 0)), undef, undef, undef, Value.slice (some { block := bl, off := ol }) x c0, Value.int IntKind.i64 (x : Int), Value.bool false, Value.bool false, Value.slice (some { block := bl, off := ol }) x c0, Value.int IntKind.i64 (x : Int), Value.bool false, Value.bool false, Value.bool false, Value.slice A1 y c1, Value.int IntKind.i64 (y : Int), Value.bool false, Value.bool false, undef, undef, Value.slice (some { block := bl, off := ol }) x c0, Value.slice A2 m c2, Value.int IntKind.i64 (m : Int), Value.slice (some { block := bl, off := ol }) x c0, Value.int IntKind.i64 (x : Int), Value.int IntKind.i64 ((m : Int) % (x : Int)), Value.pointer (some { block := bl, off := ol + r * 4 }), Value.agg #[Value.int IntKind.i64 p.area, Value.int IntKind.i64 p.job, Value.int IntKind.i64 p.sex, Value.int IntKind.i64 p.pay], u62, Value.slice (some { block := bl, off := ol }) x c0, u64, Value.agg #[Value.int IntKind.i64 p.area, Value.int IntKind.i64 p.job, Value.int IntKind.i64 p.sex, Value.int IntKind.i64 p.pay], Value.slice (some { block := q1, off := 0 }) 1 1, undef, undef, Value.slice A1 y c1, undef, Value.agg #[Value.int IntKind.i64 p.area, Value.int IntKind.i64 p.job, Value.int IntKind.i64 p.sex, Value.int IntKind.i64 p.pay], undef, undef, undef, Value.int IntKind.i64 g, Value.int IntKind.i64 (g + 1), undef], defers := [] } z := by
      intro u62 u64 q1 z sx
      rw [hH]
      refine wpAnyH_all (rs := [5, 6, 10]) (by kernel_rfl) (by simp) (fun i hi => ?_)
      simp only [List.mem_cons, List.not_mem_nil, or_false] at hi
      rcases hi with rfl | rfl | rfl
      · unfold wpOp
        simp only [List.getElem?_toArray, List.getElem?_cons_succ, List.getElem?_cons_zero]
        rw [if_pos (by rfl)]
        left
        refine wp_moreP (.tmp 64) (.tmp 66) rfl rfl sx rfl HLX.out fun v9 z9 sy9 => ?_
        have sy := sy9
        refine ⟨sy.lo, ?_⟩
        (try simp only [Act.put])
        (try simp only [List.getElem_toArray])
        (try simp only [List.getElem_cons_succ])
        (try simp only [List.getElem_cons_zero])
        (try simp only [List.setIfInBounds_toArray])
        (try simp only [List.set_cons_succ])
        (try simp only [List.set_cons_zero])
        rw [← hH]
        exact castL (by kernel_rfl) (nd_0_2_4_5 u62 u64 q1 v9 _ sy)
      · unfold wpOp
        simp only [List.getElem?_toArray, List.getElem?_cons_succ, List.getElem?_cons_zero]
        rw [if_pos (by rfl)]
        left
        unfold Oper.wp
        go_simp
        have sy := Dt.swap (Dt.new (Dt.swap sx))
        refine ⟨sy.lo, ?_⟩
        (try simp only [Act.put])
        (try simp only [List.getElem_toArray])
        (try simp only [List.getElem_cons_succ])
        (try simp only [List.getElem_cons_zero])
        (try simp only [List.setIfInBounds_toArray])
        (try simp only [List.set_cons_succ])
        (try simp only [List.set_cons_zero])
        rw [← hH]
        exact castL (by kernel_rfl) (nd_0_2_4_6 u62 u64 q1 (Value.slice (some { block := z.heap.size, off := 0 }) 0 0) _ sy)
      · unfold wpOp
        simp only [List.getElem?_toArray, List.getElem?_cons_succ, List.getElem?_cons_zero]
        rw [if_pos (by rfl)]
        left
        unfold Oper.wp
        go_simp
        have sy := Dt.swap (Dt.lit (Dt.swap sx))
        refine ⟨sy.lo, ?_⟩
        (try simp only [Act.put])
        (try simp only [List.getElem_toArray])
        (try simp only [List.getElem_cons_succ])
        (try simp only [List.getElem_cons_zero])
        (try simp only [List.setIfInBounds_toArray])
        (try simp only [List.set_cons_succ])
        (try simp only [List.set_cons_zero])
        rw [← hH]
        exact castL (by kernel_rfl) (nd_0_2_4_10 u62 u64 q1 z.heap.size _ sy)
    have nd_6_10 : ∀ (u68 : Value) (q2 : Nat) (z : World), Dt W5 z p none none (some (u68, [])) (some q2) → H 9 #[false, true, false, true, false, false, true, true, false, true, true, false, false, true, true, false, false] { tmps := #[Value.slice A n c, Value.slice A2 m c2, undef, undef, Value.bool false, Value.slice (some { block := bl, off := ol }) x c0, Value.slice A1 y c1, Value.int IntKind.i64 g, Value.int IntKind.i64 g, Value.pointer (some { block := Z, off := 0 }), Value.slice A n c, Value.int IntKind.i64 (n : Int), Value.bool (decide (1048576 < (n : Int))), Value.bool (decide (1048576 < (n : Int))), Value.slice A2 m c2, Value.int IntKind.i64 (m : Int), Value.bool (decide (1048576 < (m : Int))), Value.bool (decide (1048576 < (n : Int)) || decide (1048576 < (m : Int))), Value.tuple #[Value.slice (some { block := bl, off := ol }) x c0, Value.slice A1 y c1], Value.slice A n c, Value.tuple #[Value.slice (some { block := bl, off := ol }) x c0, Value.slice A1 y c1], Value.slice (some { block := bl, off := ol }) x c0, Value.slice A1 y c1, Value.slice (some { block := bl, off := ol }) x c0, Value.slice A1 y c1, Value.int IntKind.i64 g, Value.slice (some { block := bl, off := ol }) x c0, Value.slice A1 y c1, Value.int IntKind.i64 g, Value.int IntKind.i64 g, Value.int IntKind.i64 g, Value.bool false, Value.bool false, Value.int IntKind.i64 g, Value.bool (decide (g < 0)), Value.bool (decide (g < 0)), undef, undef, undef, Value.slice (some { block := bl, off := ol }) x c0, Value.int IntKind.i64 (x : Int), Value.bool false, Value.bool false, Value.slice (some { block := bl, off := ol }) x c0, Value.int IntKind.i64 (x : Int), Value.bool false, Value.bool false, Value.bool false, Value.slice A1 y c1, Value.int IntKind.i64 (y : Int), Value.bool false, Value.bool false, undef, undef, Value.slice (some { block := bl, off := ol }) x c0, Value.slice A2 m c2, Value.int IntKind.i64 (m : Int), Value.slice (some { block := bl, off := ol }) x c0, Value.int IntKind.i64 (x : Int), Value.int IntKind.i64 ((m : Int) % (x : Int)), Value.pointer (some { block := bl, off := ol + r * 4 }), Value.agg #[Value.int IntKind.i64 p.area, Value.int IntKind.i64 p.job, Value.int IntKind.i64 p.sex, Value.int IntKind.i64 p.pay], undef, Value.slice (some { block := bl, off := ol }) x c0, undef, Value.agg #[Value.int IntKind.i64 p.area, Value.int IntKind.i64 p.job, Value.int IntKind.i64 p.sex, Value.int IntKind.i64 p.pay], undef, undef, u68, Value.slice A1 y c1, undef, Value.agg #[Value.int IntKind.i64 p.area, Value.int IntKind.i64 p.job, Value.int IntKind.i64 p.sex, Value.int IntKind.i64 p.pay], Value.slice (some { block := q2, off := 0 }) 1 1, undef, undef, Value.int IntKind.i64 g, Value.int IntKind.i64 (g + 1), undef], defers := [] } z := by
      intro u68 q2 z sx
      rw [hH]
      refine wpAnyH_all (rs := [0, 4]) (by kernel_rfl) (by simp) (fun i hi => ?_)
      simp only [List.mem_cons, List.not_mem_nil, or_false] at hi
      rcases hi with rfl | rfl
      · unfold wpOp
        simp only [List.getElem?_toArray, List.getElem?_cons_zero]
        rw [if_pos (by rfl)]
        left
        unfold Oper.wp
        go_simp
        have sy := Dt.new sx
        refine ⟨sy.lo, ?_⟩
        (try simp only [Act.put])
        (try simp only [List.getElem_toArray])
        (try simp only [List.getElem_cons_succ])
        (try simp only [List.getElem_cons_zero])
        (try simp only [List.setIfInBounds_toArray])
        (try simp only [List.set_cons_succ])
        (try simp only [List.set_cons_zero])
        rw [← hH]
        exact castL (by kernel_rfl) (nd_0_6_10 (Value.slice (some { block := z.heap.size, off := 0 }) 0 0) u68 q2 _ sy)
      · unfold wpOp
        simp only [List.getElem?_toArray, List.getElem?_cons_succ, List.getElem?_cons_zero]
        rw [if_pos (by rfl)]
        left
        unfold Oper.wp
        go_simp
        have sy := Dt.lit sx
        refine ⟨sy.lo, ?_⟩
        (try simp only [Act.put])
        (try simp only [List.getElem_toArray])
        (try simp only [List.getElem_cons_succ])
        (try simp only [List.getElem_cons_zero])
        (try simp only [List.setIfInBounds_toArray])
        (try simp only [List.set_cons_succ])
        (try simp only [List.set_cons_zero])
        rw [← hH]
        exact castL (by kernel_rfl) (nd_4_6_10 z.heap.size u68 q2 _ sy)
    have nd_4_10 : ∀ (q1 : Nat) (q2 : Nat) (z : World), Dt W5 z p none (some q1) none (some q2) → H 9 #[false, true, false, true, true, false, false, true, false, true, true, false, false, true, true, false, false] { tmps := #[Value.slice A n c, Value.slice A2 m c2, undef, undef, Value.bool false, Value.slice (some { block := bl, off := ol }) x c0, Value.slice A1 y c1, Value.int IntKind.i64 g, Value.int IntKind.i64 g, Value.pointer (some { block := Z, off := 0 }), Value.slice A n c, Value.int IntKind.i64 (n : Int), Value.bool (decide (1048576 < (n : Int))), Value.bool (decide (1048576 < (n : Int))), Value.slice A2 m c2, Value.int IntKind.i64 (m : Int), Value.bool (decide (1048576 < (m : Int))), Value.bool (decide (1048576 < (n : Int)) || decide (1048576 < (m : Int))), Value.tuple #[Value.slice (some { block := bl, off := ol }) x c0, Value.slice A1 y c1], Value.slice A n c, Value.tuple #[Value.slice (some { block := bl, off := ol }) x c0, Value.slice A1 y c1], Value.slice (some { block := bl, off := ol }) x c0, Value.slice A1 y c1, Value.slice (some { block := bl, off := ol }) x c0, Value.slice A1 y c1, Value.int IntKind.i64 g, Value.slice (some { block := bl, off := ol }) x c0, Value.slice A1 y c1, Value.int IntKind.i64 g, Value.int IntKind.i64 g, Value.int IntKind.i64 g, Value.bool false, Value.bool false, Value.int IntKind.i64 g, Value.bool (decide (g < 0)), Value.bool (decide (g < 0)), undef, undef, undef, Value.slice (some { block := bl, off := ol }) x c0, Value.int IntKind.i64 (x : Int), Value.bool false, Value.bool false, Value.slice (some { block := bl, off := ol }) x c0, Value.int IntKind.i64 (x : Int), Value.bool false, Value.bool false, Value.bool false, Value.slice A1 y c1, Value.int IntKind.i64 (y : Int), Value.bool false, Value.bool false, undef, undef, Value.slice (some { block := bl, off := ol }) x c0, Value.slice A2 m c2, Value.int IntKind.i64 (m : Int), Value.slice (some { block := bl, off := ol }) x c0, Value.int IntKind.i64 (x : Int), Value.int IntKind.i64 ((m : Int) % (x : Int)), Value.pointer (some { block := bl, off := ol + r * 4 }), Value.agg #[Value.int IntKind.i64 p.area, Value.int IntKind.i64 p.job, Value.int IntKind.i64 p.sex, Value.int IntKind.i64 p.pay], undef, Value.slice (some { block := bl, off := ol }) x c0, undef, Value.agg #[Value.int IntKind.i64 p.area, Value.int IntKind.i64 p.job, Value.int IntKind.i64 p.sex, Value.int IntKind.i64 p.pay], Value.slice (some { block := q1, off := 0 }) 1 1, undef, undef, Value.slice A1 y c1, undef, Value.agg #[Value.int IntKind.i64 p.area, Value.int IntKind.i64 p.job, Value.int IntKind.i64 p.sex, Value.int IntKind.i64 p.pay], Value.slice (some { block := q2, off := 0 }) 1 1, undef, undef, Value.int IntKind.i64 g, Value.int IntKind.i64 (g + 1), undef], defers := [] } z := by
      intro q1 q2 z sx
      rw [hH]
      refine wpAnyH_all (rs := [0, 6]) (by kernel_rfl) (by simp) (fun i hi => ?_)
      simp only [List.mem_cons, List.not_mem_nil, or_false] at hi
      rcases hi with rfl | rfl
      · unfold wpOp
        simp only [List.getElem?_toArray, List.getElem?_cons_zero]
        rw [if_pos (by rfl)]
        left
        unfold Oper.wp
        go_simp
        have sy := Dt.new sx
        refine ⟨sy.lo, ?_⟩
        (try simp only [Act.put])
        (try simp only [List.getElem_toArray])
        (try simp only [List.getElem_cons_succ])
        (try simp only [List.getElem_cons_zero])
        (try simp only [List.setIfInBounds_toArray])
        (try simp only [List.set_cons_succ])
        (try simp only [List.set_cons_zero])
        rw [← hH]
        exact castL (by kernel_rfl) (nd_0_4_10 (Value.slice (some { block := z.heap.size, off := 0 }) 0 0) q1 q2 _ sy)
      · unfold wpOp
        simp only [List.getElem?_toArray, List.getElem?_cons_succ, List.getElem?_cons_zero]
        rw [if_pos (by rfl)]
        left
        unfold Oper.wp
        go_simp
        have sy := Dt.swap (Dt.new (Dt.swap sx))
        refine ⟨sy.lo, ?_⟩
        (try simp only [Act.put])
        (try simp only [List.getElem_toArray])
        (try simp only [List.getElem_cons_succ])
        (try simp only [List.getElem_cons_zero])
        (try simp only [List.setIfInBounds_toArray])
        (try simp only [List.set_cons_succ])
        (try simp only [List.set_cons_zero])
        rw [← hH]
        exact castL (by kernel_rfl) (nd_4_6_10 q1 (Value.slice (some { block := z.heap.size, off := 0 }) 0 0) q2 _ sy)
    have nd_4_6 : ∀ (q1 : Nat) (u68 : Value) (z : World), Dt W5 z p none (some q1) (some (u68, [])) none → H 9 #[false, true, false, true, true, false, true, true, false, true, false, false, false, true, true, false, false] { tmps := #[Value.slice A n c, Value.slice A2 m c2, undef, undef, Value.bool false, Value.slice (some { block := bl, off := ol }) x c0, Value.slice A1 y c1, Value.int IntKind.i64 g, Value.int IntKind.i64 g, Value.pointer (some { block := Z, off := 0 }), Value.slice A n c, Value.int IntKind.i64 (n : Int), Value.bool (decide (1048576 < (n : Int))), Value.bool (decide (1048576 < (n : Int))), Value.slice A2 m c2, Value.int IntKind.i64 (m : Int), Value.bool (decide (1048576 < (m : Int))), Value.bool (decide (1048576 < (n : Int)) || decide (1048576 < (m : Int))), Value.tuple #[Value.slice (some { block := bl, off := ol }) x c0, Value.slice A1 y c1], Value.slice A n c, Value.tuple #[Value.slice (some { block := bl, off := ol }) x c0, Value.slice A1 y c1], Value.slice (some { block := bl, off := ol }) x c0, Value.slice A1 y c1, Value.slice (some { block := bl, off := ol }) x c0, Value.slice A1 y c1, Value.int IntKind.i64 g, Value.slice (some { block := bl, off := ol }) x c0, Value.slice A1 y c1, Value.int IntKind.i64 g, Value.int IntKind.i64 g, Value.int IntKind.i64 g, Value.bool false, Value.bool false, Value.int IntKind.i64 g, Value.bool (decide (g < 0)), Value.bool (decide (g < 0)), undef, undef, undef, Value.slice (some { block := bl, off := ol }) x c0, Value.int IntKind.i64 (x : Int), Value.bool false, Value.bool false, Value.slice (some { block := bl, off := ol }) x c0, Value.int IntKind.i64 (x : Int), Value.bool false, Value.bool false, Value.bool false, Value.slice A1 y c1, Value.int IntKind.i64 (y : Int), Value.bool false, Value.bool false, undef, undef, Value.slice (some { block := bl, off := ol }) x c0, Value.slice A2 m c2, Value.int IntKind.i64 (m : Int), Value.slice (some { block := bl, off := ol }) x c0, Value.int IntKind.i64 (x : Int), Value.int IntKind.i64 ((m : Int) % (x : Int)), Value.pointer (some { block := bl, off := ol + r * 4 }), Value.agg #[Value.int IntKind.i64 p.area, Value.int IntKind.i64 p.job, Value.int IntKind.i64 p.sex, Value.int IntKind.i64 p.pay], undef, Value.slice (some { block := bl, off := ol }) x c0, undef, Value.agg #[Value.int IntKind.i64 p.area, Value.int IntKind.i64 p.job, Value.int IntKind.i64 p.sex, Value.int IntKind.i64 p.pay], Value.slice (some { block := q1, off := 0 }) 1 1, undef, u68, Value.slice A1 y c1, undef, Value.agg #[Value.int IntKind.i64 p.area, Value.int IntKind.i64 p.job, Value.int IntKind.i64 p.sex, Value.int IntKind.i64 p.pay], undef, undef, undef, Value.int IntKind.i64 g, Value.int IntKind.i64 (g + 1), undef], defers := [] } z := by
      intro q1 u68 z sx
      rw [hH]
      refine wpAnyH_all (rs := [0, 10]) (by kernel_rfl) (by simp) (fun i hi => ?_)
      simp only [List.mem_cons, List.not_mem_nil, or_false] at hi
      rcases hi with rfl | rfl
      · unfold wpOp
        simp only [List.getElem?_toArray, List.getElem?_cons_zero]
        rw [if_pos (by rfl)]
        left
        unfold Oper.wp
        go_simp
        have sy := Dt.new sx
        refine ⟨sy.lo, ?_⟩
        (try simp only [Act.put])
        (try simp only [List.getElem_toArray])
        (try simp only [List.getElem_cons_succ])
        (try simp only [List.getElem_cons_zero])
        (try simp only [List.setIfInBounds_toArray])
        (try simp only [List.set_cons_succ])
        (try simp only [List.set_cons_zero])
        rw [← hH]
        exact castL (by kernel_rfl) (nd_0_4_6 (Value.slice (some { block := z.heap.size, off := 0 }) 0 0) q1 u68 _ sy)
      · unfold wpOp
        simp only [List.getElem?_toArray, List.getElem?_cons_succ, List.getElem?_cons_zero]
        rw [if_pos (by rfl)]
        left
        unfold Oper.wp
        go_simp
        have sy := Dt.swap (Dt.lit (Dt.swap sx))
        refine ⟨sy.lo, ?_⟩
        (try simp only [Act.put])
        (try simp only [List.getElem_toArray])
        (try simp only [List.getElem_cons_succ])
        (try simp only [List.getElem_cons_zero])
        (try simp only [List.setIfInBounds_toArray])
        (try simp only [List.set_cons_succ])
        (try simp only [List.set_cons_zero])
        rw [← hH]
        exact castL (by kernel_rfl) (nd_4_6_10 q1 u68 z.heap.size _ sy)
    have nd_0_10 : ∀ (u62 : Value) (q2 : Nat) (z : World), Dt W5 z p (some (u62, [])) none none (some q2) → H 9 #[true, true, false, true, false, false, false, true, false, true, true, false, false, true, true, false, false] { tmps := #[Value.slice A n c, Value.slice A2 m c2, undef, undef, Value.bool false, Value.slice (some { block := bl, off := ol }) x c0, Value.slice A1 y c1, Value.int IntKind.i64 g, Value.int IntKind.i64 g, Value.pointer (some { block := Z, off := 0 }), Value.slice A n c, Value.int IntKind.i64 (n : Int), Value.bool (decide (1048576 < (n : Int))), Value.bool (decide (1048576 < (n : Int))), Value.slice A2 m c2, Value.int IntKind.i64 (m : Int), Value.bool (decide (1048576 < (m : Int))), Value.bool (decide (1048576 < (n : Int)) || decide (1048576 < (m : Int))), Value.tuple #[Value.slice (some { block := bl, off := ol }) x c0, Value.slice A1 y c1], Value.slice A n c, Value.tuple #[Value.slice (some { block := bl, off := ol }) x c0, Value.slice A1 y c1], Value.slice (some { block := bl, off := ol }) x c0, Value.slice A1 y c1, Value.slice (some { block := bl, off := ol }) x c0, Value.slice A1 y c1, Value.int IntKind.i64 g, Value.slice (some { block := bl, off := ol }) x c0, Value.slice A1 y c1, Value.int IntKind.i64 g, Value.int IntKind.i64 g, Value.int IntKind.i64 g, Value.bool false, Value.bool false, Value.int IntKind.i64 g, Value.bool (decide (g < 0)), Value.bool (decide (g < 0)), undef, undef, undef, Value.slice (some { block := bl, off := ol }) x c0, Value.int IntKind.i64 (x : Int), Value.bool false, Value.bool false, Value.slice (some { block := bl, off := ol }) x c0, Value.int IntKind.i64 (x : Int), Value.bool false, Value.bool false, Value.bool false, Value.slice A1 y c1, Value.int IntKind.i64 (y : Int), Value.bool false, Value.bool false, undef, undef, Value.slice (some { block := bl, off := ol }) x c0, Value.slice A2 m c2, Value.int IntKind.i64 (m : Int), Value.slice (some { block := bl, off := ol }) x c0, Value.int IntKind.i64 (x : Int), Value.int IntKind.i64 ((m : Int) % (x : Int)), Value.pointer (some { block := bl, off := ol + r * 4 }), Value.agg #[Value.int IntKind.i64 p.area, Value.int IntKind.i64 p.job, Value.int IntKind.i64 p.sex, Value.int IntKind.i64 p.pay], u62, Value.slice (some { block := bl, off := ol }) x c0, undef, Value.agg #[Value.int IntKind.i64 p.area, Value.int IntKind.i64 p.job, Value.int IntKind.i64 p.sex, Value.int IntKind.i64 p.pay], undef, undef, undef, Value.slice A1 y c1, undef, Value.agg #[Value.int IntKind.i64 p.area, Value.int IntKind.i64 p.job, Value.int IntKind.i64 p.sex, Value.int IntKind.i64 p.pay], Value.slice (some { block := q2, off := 0 }) 1 1, undef, undef, Value.int IntKind.i64 g, Value.int IntKind.i64 (g + 1), undef], defers := [] } z := by
      intro u62 q2 z sx
      rw [hH]
      refine wpAnyH_all (rs := [2, 4, 6]) (by kernel_rfl) (by simp) (fun i hi => ?_)
      simp only [List.mem_cons, List.not_mem_nil, or_false] at hi
      rcases hi with rfl | rfl | rfl
      · unfold wpOp
        simp only [List.getElem?_toArray, List.getElem?_cons_succ, List.getElem?_cons_zero]
        rw [if_pos (by rfl)]
        left
        refine wp_copyP (.tmp 62) (.tmp 63) rfl rfl sx _ _ _ a rfl HLA.out.symm HR1.out HLX.out fun v9 z9 sy9 => ?_
        have sy := sy9
        refine ⟨sy.lo, ?_⟩
        (try simp only [Act.put])
        (try simp only [List.getElem_toArray])
        (try simp only [List.getElem_cons_succ])
        (try simp only [List.getElem_cons_zero])
        (try simp only [List.setIfInBounds_toArray])
        (try simp only [List.set_cons_succ])
        (try simp only [List.set_cons_zero])
        rw [← hH]
        exact castL (by kernel_rfl) (nd_0_2_10 u62 v9 q2 _ sy)
      · unfold wpOp
        simp only [List.getElem?_toArray, List.getElem?_cons_succ, List.getElem?_cons_zero]
        rw [if_pos (by rfl)]
        left
        unfold Oper.wp
        go_simp
        have sy := Dt.lit sx
        refine ⟨sy.lo, ?_⟩
        (try simp only [Act.put])
        (try simp only [List.getElem_toArray])
        (try simp only [List.getElem_cons_succ])
        (try simp only [List.getElem_cons_zero])
        (try simp only [List.setIfInBounds_toArray])
        (try simp only [List.set_cons_succ])
        (try simp only [List.set_cons_zero])
        rw [← hH]
        exact castL (by kernel_rfl) (nd_0_4_10 u62 z.heap.size q2 _ sy)
      · unfold wpOp
        simp only [List.getElem?_toArray, List.getElem?_cons_succ, List.getElem?_cons_zero]
        rw [if_pos (by rfl)]
        left
        unfold Oper.wp
        go_simp
        have sy := Dt.swap (Dt.new (Dt.swap sx))
        refine ⟨sy.lo, ?_⟩
        (try simp only [Act.put])
        (try simp only [List.getElem_toArray])
        (try simp only [List.getElem_cons_succ])
        (try simp only [List.getElem_cons_zero])
        (try simp only [List.setIfInBounds_toArray])
        (try simp only [List.set_cons_succ])
        (try simp only [List.set_cons_zero])
        rw [← hH]
        exact castL (by kernel_rfl) (nd_0_6_10 u62 (Value.slice (some { block := z.heap.size, off := 0 }) 0 0) q2 _ sy)
    have nd_0_6 : ∀ (u62 : Value) (u68 : Value) (z : World), Dt W5 z p (some (u62, [])) none (some (u68, [])) none → H 9 #[true, true, false, true, false, false, true, true, false, true, false, false, false, true, true, false, false] { tmps := #[Value.slice A n c, Value.slice A2 m c2, undef, undef, Value.bool false, Value.slice (some { block := bl, off := ol }) x c0, Value.slice A1 y c1, Value.int IntKind.i64 g, Value.int IntKind.i64 g, Value.pointer (some { block := Z, off := 0 }), Value.slice A n c, Value.int IntKind.i64 (n : Int), Value.bool (decide (1048576 < (n : Int))), Value.bool (decide (1048576 < (n : Int))), Value.slice A2 m c2, Value.int IntKind.i64 (m : Int), Value.bool (decide (1048576 < (m : Int))), Value.bool (decide (1048576 < (n : Int)) || decide (1048576 < (m : Int))), Value.tuple #[Value.slice (some { block := bl, off := ol }) x c0, Value.slice A1 y c1], Value.slice A n c, Value.tuple #[Value.slice (some { block := bl, off := ol }) x c0, Value.slice A1 y c1], Value.slice (some { block := bl, off := ol }) x c0, Value.slice A1 y c1, Value.slice (some { block := bl, off := ol }) x c0, Value.slice A1 y c1, Value.int IntKind.i64 g, Value.slice (some { block := bl, off := ol }) x c0, Value.slice A1 y c1, Value.int IntKind.i64 g, Value.int IntKind.i64 g, Value.int IntKind.i64 g, Value.bool false, Value.bool false, Value.int IntKind.i64 g, Value.bool (decide (g < 0)), Value.bool (decide (g < 0)), undef, undef, undef, Value.slice (some { block := bl, off := ol }) x c0, Value.int IntKind.i64 (x : Int), Value.bool false, Value.bool false, Value.slice (some { block := bl, off := ol }) x c0, Value.int IntKind.i64 (x : Int), Value.bool false, Value.bool false, Value.bool false, Value.slice A1 y c1, Value.int IntKind.i64 (y : Int), Value.bool false, Value.bool false, undef, undef, Value.slice (some { block := bl, off := ol }) x c0, Value.slice A2 m c2, Value.int IntKind.i64 (m : Int), Value.slice (some { block := bl, off := ol }) x c0, Value.int IntKind.i64 (x : Int), Value.int IntKind.i64 ((m : Int) % (x : Int)), Value.pointer (some { block := bl, off := ol + r * 4 }), Value.agg #[Value.int IntKind.i64 p.area, Value.int IntKind.i64 p.job, Value.int IntKind.i64 p.sex, Value.int IntKind.i64 p.pay], u62, Value.slice (some { block := bl, off := ol }) x c0, undef, Value.agg #[Value.int IntKind.i64 p.area, Value.int IntKind.i64 p.job, Value.int IntKind.i64 p.sex, Value.int IntKind.i64 p.pay], undef, undef, u68, Value.slice A1 y c1, undef, Value.agg #[Value.int IntKind.i64 p.area, Value.int IntKind.i64 p.job, Value.int IntKind.i64 p.sex, Value.int IntKind.i64 p.pay], undef, undef, undef, Value.int IntKind.i64 g, Value.int IntKind.i64 (g + 1), undef], defers := [] } z := by
      intro u62 u68 z sx
      rw [hH]
      refine wpAnyH_all (rs := [2, 4, 10]) (by kernel_rfl) (by simp) (fun i hi => ?_)
      simp only [List.mem_cons, List.not_mem_nil, or_false] at hi
      rcases hi with rfl | rfl | rfl
      · unfold wpOp
        simp only [List.getElem?_toArray, List.getElem?_cons_succ, List.getElem?_cons_zero]
        rw [if_pos (by rfl)]
        left
        refine wp_copyP (.tmp 62) (.tmp 63) rfl rfl sx _ _ _ a rfl HLA.out.symm HR1.out HLX.out fun v9 z9 sy9 => ?_
        have sy := sy9
        refine ⟨sy.lo, ?_⟩
        (try simp only [Act.put])
        (try simp only [List.getElem_toArray])
        (try simp only [List.getElem_cons_succ])
        (try simp only [List.getElem_cons_zero])
        (try simp only [List.setIfInBounds_toArray])
        (try simp only [List.set_cons_succ])
        (try simp only [List.set_cons_zero])
        rw [← hH]
        exact castL (by kernel_rfl) (nd_0_2_6 u62 v9 u68 _ sy)
      · unfold wpOp
        simp only [List.getElem?_toArray, List.getElem?_cons_succ, List.getElem?_cons_zero]
        rw [if_pos (by rfl)]
        left
        unfold Oper.wp
        go_simp
        have sy := Dt.lit sx
        refine ⟨sy.lo, ?_⟩
        (try simp only [Act.put])
        (try simp only [List.getElem_toArray])
        (try simp only [List.getElem_cons_succ])
        (try simp only [List.getElem_cons_zero])
        (try simp only [List.setIfInBounds_toArray])
        (try simp only [List.set_cons_succ])
        (try simp only [List.set_cons_zero])
        rw [← hH]
        exact castL (by kernel_rfl) (nd_0_4_6 u62 z.heap.size u68 _ sy)
      · unfold wpOp
        simp only [List.getElem?_toArray, List.getElem?_cons_succ, List.getElem?_cons_zero]
        rw [if_pos (by rfl)]
        left
        unfold Oper.wp
        go_simp
        have sy := Dt.swap (Dt.lit (Dt.swap sx))
        refine ⟨sy.lo, ?_⟩
        (try simp only [Act.put])
        (try simp only [List.getElem_toArray])
        (try simp only [List.getElem_cons_succ])
        (try simp only [List.getElem_cons_zero])
        (try simp only [List.setIfInBounds_toArray])
        (try simp only [List.set_cons_succ])
        (try simp only [List.set_cons_zero])
        rw [← hH]
        exact castL (by kernel_rfl) (nd_0_6_10 u62 u68 z.heap.size _ sy)
    have nd_0_4 : ∀ (u62 : Value) (q1 : Nat) (z : World), Dt W5 z p (some (u62, [])) (some q1) none none → H 9 #[true, true, false, true, true, false, false, true, false, true, false, false, false, true, true, false, false] { tmps := #[Value.slice A n c, Value.slice A2 m c2, undef, undef, Value.bool false, Value.slice (some { block := bl, off := ol }) x c0, Value.slice A1 y c1, Value.int IntKind.i64 g, Value.int IntKind.i64 g, Value.pointer (some { block := Z, off := 0 }), Value.slice A n c, Value.int IntKind.i64 (n : Int), Value.bool (decide (1048576 < (n : Int))), Value.bool (decide (1048576 < (n : Int))), Value.slice A2 m c2, Value.int IntKind.i64 (m : Int), Value.bool (decide (1048576 < (m : Int))), Value.bool (decide (1048576 < (n : Int)) || decide (1048576 < (m : Int))), Value.tuple #[Value.slice (some { block := bl, off := ol }) x c0, Value.slice A1 y c1], Value.slice A n c, Value.tuple #[Value.slice (some { block := bl, off := ol }) x c0, Value.slice A1 y c1], Value.slice (some { block := bl, off := ol }) x c0, Value.slice A1 y c1, Value.slice (some { block := bl, off := ol }) x c0, Value.slice A1 y c1, Value.int IntKind.i64 g, Value.slice (some { block := bl, off := ol }) x c0, Value.slice A1 y c1, Value.int IntKind.i64 g, Value.int IntKind.i64 g, Value.int IntKind.i64 g, Value.bool false, Value.bool false, Value.int IntKind.i64 g, Value.bool (decide (g < 0)), Value.bool (decide (g < 0)), undef, undef, undef, Value.slice (some { block := bl, off := ol }) x c0, Value.int IntKind.i64 (x : Int), Value.bool false, Value.bool false, Value.slice (some { block := bl, off := ol }) x c0, Value.int IntKind.i64 (x : Int), Value.bool false, Value.bool false, Value.bool false, Value.slice A1 y c1, Value.int IntKind.i64 (y : Int), Value.bool false, Value.bool false, undef, undef, Value.slice (some { block := bl, off := ol }) x c0, Value.slice A2 m c2, Value.int IntKind.i64 (m : Int), Value.slice (some { block := bl, off := ol }) x c0, Value.int IntKind.i64 (x : Int), Value.int IntKind.i64 ((m : Int) % (x : Int)), Value.pointer (some { block := bl, off := ol + r * 4 }), Value.agg #[Value.int IntKind.i64 p.area, Value.int IntKind.i64 p.job, Value.int IntKind.i64 p.sex, Value.int IntKind.i64 p.pay], u62, Value.slice (some { block := bl, off := ol }) x c0, undef, Value.agg #[Value.int IntKind.i64 p.area, Value.int IntKind.i64 p.job, Value.int IntKind.i64 p.sex, Value.int IntKind.i64 p.pay], Value.slice (some { block := q1, off := 0 }) 1 1, undef, undef, Value.slice A1 y c1, undef, Value.agg #[Value.int IntKind.i64 p.area, Value.int IntKind.i64 p.job, Value.int IntKind.i64 p.sex, Value.int IntKind.i64 p.pay], undef, undef, undef, Value.int IntKind.i64 g, Value.int IntKind.i64 (g + 1), undef], defers := [] } z := by
      intro u62 q1 z sx
      rw [hH]
      refine wpAnyH_all (rs := [2, 6, 10]) (by kernel_rfl) (by simp) (fun i hi => ?_)
      simp only [List.mem_cons, List.not_mem_nil, or_false] at hi
      rcases hi with rfl | rfl | rfl
      · unfold wpOp
        simp only [List.getElem?_toArray, List.getElem?_cons_succ, List.getElem?_cons_zero]
        rw [if_pos (by rfl)]
        left
        refine wp_copyP (.tmp 62) (.tmp 63) rfl rfl sx _ _ _ a rfl HLA.out.symm HR1.out HLX.out fun v9 z9 sy9 => ?_
        have sy := sy9
        refine ⟨sy.lo, ?_⟩
        (try simp only [Act.put])
        (try simp only [List.getElem_toArray])
        (try simp only [List.getElem_cons_succ])
        (try simp only [List.getElem_cons_zero])
        (try simp only [List.setIfInBounds_toArray])
        (try simp only [List.set_cons_succ])
        (try simp only [List.set_cons_zero])
        rw [← hH]
        exact castL (by kernel_rfl) (nd_0_2_4 u62 v9 q1 _ sy)
      · unfold wpOp
        simp only [List.getElem?_toArray, List.getElem?_cons_succ, List.getElem?_cons_zero]
        rw [if_pos (by rfl)]
        left
        unfold Oper.wp
        go_simp
        have sy := Dt.swap (Dt.new (Dt.swap sx))
        refine ⟨sy.lo, ?_⟩
        (try simp only [Act.put])
        (try simp only [List.getElem_toArray])
        (try simp only [List.getElem_cons_succ])
        (try simp only [List.getElem_cons_zero])
        (try simp only [List.setIfInBounds_toArray])
        (try simp only [List.set_cons_succ])
        (try simp only [List.set_cons_zero])
        rw [← hH]
        exact castL (by kernel_rfl) (nd_0_4_6 u62 q1 (Value.slice (some { block := z.heap.size, off := 0 }) 0 0) _ sy)
      · unfold wpOp
        simp only [List.getElem?_toArray, List.getElem?_cons_succ, List.getElem?_cons_zero]
        rw [if_pos (by rfl)]
        left
        unfold Oper.wp
        go_simp
        have sy := Dt.swap (Dt.lit (Dt.swap sx))
        refine ⟨sy.lo, ?_⟩
        (try simp only [Act.put])
        (try simp only [List.getElem_toArray])
        (try simp only [List.getElem_cons_succ])
        (try simp only [List.getElem_cons_zero])
        (try simp only [List.setIfInBounds_toArray])
        (try simp only [List.set_cons_succ])
        (try simp only [List.set_cons_zero])
        rw [← hH]
        exact castL (by kernel_rfl) (nd_0_4_10 u62 q1 z.heap.size _ sy)
    have nd_0_2 : ∀ (u62 : Value) (u64 : Value) (z : World), Dt W5 z p (some (u64, a)) none none none → H 9 #[true, true, true, true, false, false, false, true, false, true, false, false, false, true, true, false, false] { tmps := #[Value.slice A n c, Value.slice A2 m c2, undef, undef, Value.bool false, Value.slice (some { block := bl, off := ol }) x c0, Value.slice A1 y c1, Value.int IntKind.i64 g, Value.int IntKind.i64 g, Value.pointer (some { block := Z, off := 0 }), Value.slice A n c, Value.int IntKind.i64 (n : Int), Value.bool (decide (1048576 < (n : Int))), Value.bool (decide (1048576 < (n : Int))), Value.slice A2 m c2, Value.int IntKind.i64 (m : Int), Value.bool (decide (1048576 < (m : Int))), Value.bool (decide (1048576 < (n : Int)) || decide (1048576 < (m : Int))), Value.tuple #[Value.slice (some { block := bl, off := ol }) x c0, Value.slice A1 y c1], Value.slice A n c, Value.tuple #[Value.slice (some { block := bl, off := ol }) x c0, Value.slice A1 y c1], Value.slice (some { block := bl, off := ol }) x c0, Value.slice A1 y c1, Value.slice (some { block := bl, off := ol }) x c0, Value.slice A1 y c1, Value.int IntKind.i64 g, Value.slice (some { block := bl, off := ol }) x c0, Value.slice A1 y c1, Value.int IntKind.i64 g, Value.int IntKind.i64 g, Value.int IntKind.i64 g, Value.bool false, Value.bool false, Value.int IntKind.i64 g, Value.bool (decide (g < 0)), Value.bool (decide (g < 0)), undef, undef, undef, Value.slice (some { block := bl, off := ol }) x c0, Value.int IntKind.i64 (x : Int), Value.bool false, Value.bool false, Value.slice (some { block := bl, off := ol }) x c0, Value.int IntKind.i64 (x : Int), Value.bool false, Value.bool false, Value.bool false, Value.slice A1 y c1, Value.int IntKind.i64 (y : Int), Value.bool false, Value.bool false, undef, undef, Value.slice (some { block := bl, off := ol }) x c0, Value.slice A2 m c2, Value.int IntKind.i64 (m : Int), Value.slice (some { block := bl, off := ol }) x c0, Value.int IntKind.i64 (x : Int), Value.int IntKind.i64 ((m : Int) % (x : Int)), Value.pointer (some { block := bl, off := ol + r * 4 }), Value.agg #[Value.int IntKind.i64 p.area, Value.int IntKind.i64 p.job, Value.int IntKind.i64 p.sex, Value.int IntKind.i64 p.pay], u62, Value.slice (some { block := bl, off := ol }) x c0, u64, Value.agg #[Value.int IntKind.i64 p.area, Value.int IntKind.i64 p.job, Value.int IntKind.i64 p.sex, Value.int IntKind.i64 p.pay], undef, undef, undef, Value.slice A1 y c1, undef, Value.agg #[Value.int IntKind.i64 p.area, Value.int IntKind.i64 p.job, Value.int IntKind.i64 p.sex, Value.int IntKind.i64 p.pay], undef, undef, undef, Value.int IntKind.i64 g, Value.int IntKind.i64 (g + 1), undef], defers := [] } z := by
      intro u62 u64 z sx
      rw [hH]
      refine wpAnyH_all (rs := [4, 6, 10]) (by kernel_rfl) (by simp) (fun i hi => ?_)
      simp only [List.mem_cons, List.not_mem_nil, or_false] at hi
      rcases hi with rfl | rfl | rfl
      · unfold wpOp
        simp only [List.getElem?_toArray, List.getElem?_cons_succ, List.getElem?_cons_zero]
        rw [if_pos (by rfl)]
        left
        unfold Oper.wp
        go_simp
        have sy := Dt.lit sx
        refine ⟨sy.lo, ?_⟩
        (try simp only [Act.put])
        (try simp only [List.getElem_toArray])
        (try simp only [List.getElem_cons_succ])
        (try simp only [List.getElem_cons_zero])
        (try simp only [List.setIfInBounds_toArray])
        (try simp only [List.set_cons_succ])
        (try simp only [List.set_cons_zero])
        rw [← hH]
        exact castL (by kernel_rfl) (nd_0_2_4 u62 u64 z.heap.size _ sy)
      · unfold wpOp
        simp only [List.getElem?_toArray, List.getElem?_cons_succ, List.getElem?_cons_zero]
        rw [if_pos (by rfl)]
        left
        unfold Oper.wp
        go_simp
        have sy := Dt.swap (Dt.new (Dt.swap sx))
        refine ⟨sy.lo, ?_⟩
        (try simp only [Act.put])
        (try simp only [List.getElem_toArray])
        (try simp only [List.getElem_cons_succ])
        (try simp only [List.getElem_cons_zero])
        (try simp only [List.setIfInBounds_toArray])
        (try simp only [List.set_cons_succ])
        (try simp only [List.set_cons_zero])
        rw [← hH]
        exact castL (by kernel_rfl) (nd_0_2_6 u62 u64 (Value.slice (some { block := z.heap.size, off := 0 }) 0 0) _ sy)
      · unfold wpOp
        simp only [List.getElem?_toArray, List.getElem?_cons_succ, List.getElem?_cons_zero]
        rw [if_pos (by rfl)]
        left
        unfold Oper.wp
        go_simp
        have sy := Dt.swap (Dt.lit (Dt.swap sx))
        refine ⟨sy.lo, ?_⟩
        (try simp only [Act.put])
        (try simp only [List.getElem_toArray])
        (try simp only [List.getElem_cons_succ])
        (try simp only [List.getElem_cons_zero])
        (try simp only [List.setIfInBounds_toArray])
        (try simp only [List.set_cons_succ])
        (try simp only [List.set_cons_zero])
        rw [← hH]
        exact castL (by kernel_rfl) (nd_0_2_10 u62 u64 z.heap.size _ sy)
    have nd_10 : ∀ (q2 : Nat) (z : World), Dt W5 z p none none none (some q2) → H 10 #[false, true, false, true, false, false, false, true, false, true, true, false, false, true, true, false, false] { tmps := #[Value.slice A n c, Value.slice A2 m c2, undef, undef, Value.bool false, Value.slice (some { block := bl, off := ol }) x c0, Value.slice A1 y c1, Value.int IntKind.i64 g, Value.int IntKind.i64 g, Value.pointer (some { block := Z, off := 0 }), Value.slice A n c, Value.int IntKind.i64 (n : Int), Value.bool (decide (1048576 < (n : Int))), Value.bool (decide (1048576 < (n : Int))), Value.slice A2 m c2, Value.int IntKind.i64 (m : Int), Value.bool (decide (1048576 < (m : Int))), Value.bool (decide (1048576 < (n : Int)) || decide (1048576 < (m : Int))), Value.tuple #[Value.slice (some { block := bl, off := ol }) x c0, Value.slice A1 y c1], Value.slice A n c, Value.tuple #[Value.slice (some { block := bl, off := ol }) x c0, Value.slice A1 y c1], Value.slice (some { block := bl, off := ol }) x c0, Value.slice A1 y c1, Value.slice (some { block := bl, off := ol }) x c0, Value.slice A1 y c1, Value.int IntKind.i64 g, Value.slice (some { block := bl, off := ol }) x c0, Value.slice A1 y c1, Value.int IntKind.i64 g, Value.int IntKind.i64 g, Value.int IntKind.i64 g, Value.bool false, Value.bool false, Value.int IntKind.i64 g, Value.bool (decide (g < 0)), Value.bool (decide (g < 0)), undef, undef, undef, Value.slice (some { block := bl, off := ol }) x c0, Value.int IntKind.i64 (x : Int), Value.bool false, Value.bool false, Value.slice (some { block := bl, off := ol }) x c0, Value.int IntKind.i64 (x : Int), Value.bool false, Value.bool false, Value.bool false, Value.slice A1 y c1, Value.int IntKind.i64 (y : Int), Value.bool false, Value.bool false, undef, undef, Value.slice (some { block := bl, off := ol }) x c0, Value.slice A2 m c2, Value.int IntKind.i64 (m : Int), Value.slice (some { block := bl, off := ol }) x c0, Value.int IntKind.i64 (x : Int), Value.int IntKind.i64 ((m : Int) % (x : Int)), Value.pointer (some { block := bl, off := ol + r * 4 }), Value.agg #[Value.int IntKind.i64 p.area, Value.int IntKind.i64 p.job, Value.int IntKind.i64 p.sex, Value.int IntKind.i64 p.pay], undef, Value.slice (some { block := bl, off := ol }) x c0, undef, Value.agg #[Value.int IntKind.i64 p.area, Value.int IntKind.i64 p.job, Value.int IntKind.i64 p.sex, Value.int IntKind.i64 p.pay], undef, undef, undef, Value.slice A1 y c1, undef, Value.agg #[Value.int IntKind.i64 p.area, Value.int IntKind.i64 p.job, Value.int IntKind.i64 p.sex, Value.int IntKind.i64 p.pay], Value.slice (some { block := q2, off := 0 }) 1 1, undef, undef, Value.int IntKind.i64 g, Value.int IntKind.i64 (g + 1), undef], defers := [] } z := by
      intro q2 z sx
      rw [hH]
      refine wpAnyH_all (rs := [0, 4, 6]) (by kernel_rfl) (by simp) (fun i hi => ?_)
      simp only [List.mem_cons, List.not_mem_nil, or_false] at hi
      rcases hi with rfl | rfl | rfl
      · unfold wpOp
        simp only [List.getElem?_toArray, List.getElem?_cons_zero]
        rw [if_pos (by rfl)]
        left
        unfold Oper.wp
        go_simp
        have sy := Dt.new sx
        refine ⟨sy.lo, ?_⟩
        (try simp only [Act.put])
        (try simp only [List.getElem_toArray])
        (try simp only [List.getElem_cons_succ])
        (try simp only [List.getElem_cons_zero])
        (try simp only [List.setIfInBounds_toArray])
        (try simp only [List.set_cons_succ])
        (try simp only [List.set_cons_zero])
        rw [← hH]
        exact castL (by kernel_rfl) (nd_0_10 (Value.slice (some { block := z.heap.size, off := 0 }) 0 0) q2 _ sy)
      · unfold wpOp
        simp only [List.getElem?_toArray, List.getElem?_cons_succ, List.getElem?_cons_zero]
        rw [if_pos (by rfl)]
        left
        unfold Oper.wp
        go_simp
        have sy := Dt.lit sx
        refine ⟨sy.lo, ?_⟩
        (try simp only [Act.put])
        (try simp only [List.getElem_toArray])
        (try simp only [List.getElem_cons_succ])
        (try simp only [List.getElem_cons_zero])
        (try simp only [List.setIfInBounds_toArray])
        (try simp only [List.set_cons_succ])
        (try simp only [List.set_cons_zero])
        rw [← hH]
        exact castL (by kernel_rfl) (nd_4_10 z.heap.size q2 _ sy)
      · unfold wpOp
        simp only [List.getElem?_toArray, List.getElem?_cons_succ, List.getElem?_cons_zero]
        rw [if_pos (by rfl)]
        left
        unfold Oper.wp
        go_simp
        have sy := Dt.swap (Dt.new (Dt.swap sx))
        refine ⟨sy.lo, ?_⟩
        (try simp only [Act.put])
        (try simp only [List.getElem_toArray])
        (try simp only [List.getElem_cons_succ])
        (try simp only [List.getElem_cons_zero])
        (try simp only [List.setIfInBounds_toArray])
        (try simp only [List.set_cons_succ])
        (try simp only [List.set_cons_zero])
        rw [← hH]
        exact castL (by kernel_rfl) (nd_6_10 (Value.slice (some { block := z.heap.size, off := 0 }) 0 0) q2 _ sy)
    have nd_6 : ∀ (u68 : Value) (z : World), Dt W5 z p none none (some (u68, [])) none → H 10 #[false, true, false, true, false, false, true, true, false, true, false, false, false, true, true, false, false] { tmps := #[Value.slice A n c, Value.slice A2 m c2, undef, undef, Value.bool false, Value.slice (some { block := bl, off := ol }) x c0, Value.slice A1 y c1, Value.int IntKind.i64 g, Value.int IntKind.i64 g, Value.pointer (some { block := Z, off := 0 }), Value.slice A n c, Value.int IntKind.i64 (n : Int), Value.bool (decide (1048576 < (n : Int))), Value.bool (decide (1048576 < (n : Int))), Value.slice A2 m c2, Value.int IntKind.i64 (m : Int), Value.bool (decide (1048576 < (m : Int))), Value.bool (decide (1048576 < (n : Int)) || decide (1048576 < (m : Int))), Value.tuple #[Value.slice (some { block := bl, off := ol }) x c0, Value.slice A1 y c1], Value.slice A n c, Value.tuple #[Value.slice (some { block := bl, off := ol }) x c0, Value.slice A1 y c1], Value.slice (some { block := bl, off := ol }) x c0, Value.slice A1 y c1, Value.slice (some { block := bl, off := ol }) x c0, Value.slice A1 y c1, Value.int IntKind.i64 g, Value.slice (some { block := bl, off := ol }) x c0, Value.slice A1 y c1, Value.int IntKind.i64 g, Value.int IntKind.i64 g, Value.int IntKind.i64 g, Value.bool false, Value.bool false, Value.int IntKind.i64 g, Value.bool (decide (g < 0)), Value.bool (decide (g < 0)), undef, undef, undef, Value.slice (some { block := bl, off := ol }) x c0, Value.int IntKind.i64 (x : Int), Value.bool false, Value.bool false, Value.slice (some { block := bl, off := ol }) x c0, Value.int IntKind.i64 (x : Int), Value.bool false, Value.bool false, Value.bool false, Value.slice A1 y c1, Value.int IntKind.i64 (y : Int), Value.bool false, Value.bool false, undef, undef, Value.slice (some { block := bl, off := ol }) x c0, Value.slice A2 m c2, Value.int IntKind.i64 (m : Int), Value.slice (some { block := bl, off := ol }) x c0, Value.int IntKind.i64 (x : Int), Value.int IntKind.i64 ((m : Int) % (x : Int)), Value.pointer (some { block := bl, off := ol + r * 4 }), Value.agg #[Value.int IntKind.i64 p.area, Value.int IntKind.i64 p.job, Value.int IntKind.i64 p.sex, Value.int IntKind.i64 p.pay], undef, Value.slice (some { block := bl, off := ol }) x c0, undef, Value.agg #[Value.int IntKind.i64 p.area, Value.int IntKind.i64 p.job, Value.int IntKind.i64 p.sex, Value.int IntKind.i64 p.pay], undef, undef, u68, Value.slice A1 y c1, undef, Value.agg #[Value.int IntKind.i64 p.area, Value.int IntKind.i64 p.job, Value.int IntKind.i64 p.sex, Value.int IntKind.i64 p.pay], undef, undef, undef, Value.int IntKind.i64 g, Value.int IntKind.i64 (g + 1), undef], defers := [] } z := by
      intro u68 z sx
      rw [hH]
      refine wpAnyH_all (rs := [0, 4, 10]) (by kernel_rfl) (by simp) (fun i hi => ?_)
      simp only [List.mem_cons, List.not_mem_nil, or_false] at hi
      rcases hi with rfl | rfl | rfl
      · unfold wpOp
        simp only [List.getElem?_toArray, List.getElem?_cons_zero]
        rw [if_pos (by rfl)]
        left
        unfold Oper.wp
        go_simp
        have sy := Dt.new sx
        refine ⟨sy.lo, ?_⟩
        (try simp only [Act.put])
        (try simp only [List.getElem_toArray])
        (try simp only [List.getElem_cons_succ])
        (try simp only [List.getElem_cons_zero])
        (try simp only [List.setIfInBounds_toArray])
        (try simp only [List.set_cons_succ])
        (try simp only [List.set_cons_zero])
        rw [← hH]
        exact castL (by kernel_rfl) (nd_0_6 (Value.slice (some { block := z.heap.size, off := 0 }) 0 0) u68 _ sy)
      · unfold wpOp
        simp only [List.getElem?_toArray, List.getElem?_cons_succ, List.getElem?_cons_zero]
        rw [if_pos (by rfl)]
        left
        unfold Oper.wp
        go_simp
        have sy := Dt.lit sx
        refine ⟨sy.lo, ?_⟩
        (try simp only [Act.put])
        (try simp only [List.getElem_toArray])
        (try simp only [List.getElem_cons_succ])
        (try simp only [List.getElem_cons_zero])
        (try simp only [List.setIfInBounds_toArray])
        (try simp only [List.set_cons_succ])
        (try simp only [List.set_cons_zero])
        rw [← hH]
        exact castL (by kernel_rfl) (nd_4_6 z.heap.size u68 _ sy)
      · unfold wpOp
        simp only [List.getElem?_toArray, List.getElem?_cons_succ, List.getElem?_cons_zero]
        rw [if_pos (by rfl)]
        left
        unfold Oper.wp
        go_simp
        have sy := Dt.swap (Dt.lit (Dt.swap sx))
        refine ⟨sy.lo, ?_⟩
        (try simp only [Act.put])
        (try simp only [List.getElem_toArray])
        (try simp only [List.getElem_cons_succ])
        (try simp only [List.getElem_cons_zero])
        (try simp only [List.setIfInBounds_toArray])
        (try simp only [List.set_cons_succ])
        (try simp only [List.set_cons_zero])
        rw [← hH]
        exact castL (by kernel_rfl) (nd_6_10 u68 z.heap.size _ sy)
    have nd_4 : ∀ (q1 : Nat) (z : World), Dt W5 z p none (some q1) none none → H 10 #[false, true, false, true, true, false, false, true, false, true, false, false, false, true, true, false, false] { tmps := #[Value.slice A n c, Value.slice A2 m c2, undef, undef, Value.bool false, Value.slice (some { block := bl, off := ol }) x c0, Value.slice A1 y c1, Value.int IntKind.i64 g, Value.int IntKind.i64 g, Value.pointer (some { block := Z, off := 0 }), Value.slice A n c, Value.int IntKind.i64 (n : Int), Value.bool (decide (1048576 < (n : Int))), Value.bool (decide (1048576 < (n : Int))), Value.slice A2 m c2, Value.int IntKind.i64 (m : Int), Value.bool (decide (1048576 < (m : Int))), Value.bool (decide (1048576 < (n : Int)) || decide (1048576 < (m : Int))), Value.tuple #[Value.slice (some { block := bl, off := ol }) x c0, Value.slice A1 y c1], Value.slice A n c, Value.tuple #[Value.slice (some { block := bl, off := ol }) x c0, Value.slice A1 y c1], Value.slice (some { block := bl, off := ol }) x c0, Value.slice A1 y c1, Value.slice (some { block := bl, off := ol }) x c0, Value.slice A1 y c1, Value.int IntKind.i64 g, Value.slice (some { block := bl, off := ol }) x c0, Value.slice A1 y c1, Value.int IntKind.i64 g, Value.int IntKind.i64 g, Value.int IntKind.i64 g, Value.bool false, Value.bool false, Value.int IntKind.i64 g, Value.bool (decide (g < 0)), Value.bool (decide (g < 0)), undef, undef, undef, Value.slice (some { block := bl, off := ol }) x c0, Value.int IntKind.i64 (x : Int), Value.bool false, Value.bool false, Value.slice (some { block := bl, off := ol }) x c0, Value.int IntKind.i64 (x : Int), Value.bool false, Value.bool false, Value.bool false, Value.slice A1 y c1, Value.int IntKind.i64 (y : Int), Value.bool false, Value.bool false, undef, undef, Value.slice (some { block := bl, off := ol }) x c0, Value.slice A2 m c2, Value.int IntKind.i64 (m : Int), Value.slice (some { block := bl, off := ol }) x c0, Value.int IntKind.i64 (x : Int), Value.int IntKind.i64 ((m : Int) % (x : Int)), Value.pointer (some { block := bl, off := ol + r * 4 }), Value.agg #[Value.int IntKind.i64 p.area, Value.int IntKind.i64 p.job, Value.int IntKind.i64 p.sex, Value.int IntKind.i64 p.pay], undef, Value.slice (some { block := bl, off := ol }) x c0, undef, Value.agg #[Value.int IntKind.i64 p.area, Value.int IntKind.i64 p.job, Value.int IntKind.i64 p.sex, Value.int IntKind.i64 p.pay], Value.slice (some { block := q1, off := 0 }) 1 1, undef, undef, Value.slice A1 y c1, undef, Value.agg #[Value.int IntKind.i64 p.area, Value.int IntKind.i64 p.job, Value.int IntKind.i64 p.sex, Value.int IntKind.i64 p.pay], undef, undef, undef, Value.int IntKind.i64 g, Value.int IntKind.i64 (g + 1), undef], defers := [] } z := by
      intro q1 z sx
      rw [hH]
      refine wpAnyH_all (rs := [0, 6, 10]) (by kernel_rfl) (by simp) (fun i hi => ?_)
      simp only [List.mem_cons, List.not_mem_nil, or_false] at hi
      rcases hi with rfl | rfl | rfl
      · unfold wpOp
        simp only [List.getElem?_toArray, List.getElem?_cons_zero]
        rw [if_pos (by rfl)]
        left
        unfold Oper.wp
        go_simp
        have sy := Dt.new sx
        refine ⟨sy.lo, ?_⟩
        (try simp only [Act.put])
        (try simp only [List.getElem_toArray])
        (try simp only [List.getElem_cons_succ])
        (try simp only [List.getElem_cons_zero])
        (try simp only [List.setIfInBounds_toArray])
        (try simp only [List.set_cons_succ])
        (try simp only [List.set_cons_zero])
        rw [← hH]
        exact castL (by kernel_rfl) (nd_0_4 (Value.slice (some { block := z.heap.size, off := 0 }) 0 0) q1 _ sy)
      · unfold wpOp
        simp only [List.getElem?_toArray, List.getElem?_cons_succ, List.getElem?_cons_zero]
        rw [if_pos (by rfl)]
        left
        unfold Oper.wp
        go_simp
        have sy := Dt.swap (Dt.new (Dt.swap sx))
        refine ⟨sy.lo, ?_⟩
        (try simp only [Act.put])
        (try simp only [List.getElem_toArray])
        (try simp only [List.getElem_cons_succ])
        (try simp only [List.getElem_cons_zero])
        (try simp only [List.setIfInBounds_toArray])
        (try simp only [List.set_cons_succ])
        (try simp only [List.set_cons_zero])
        rw [← hH]
        exact castL (by kernel_rfl) (nd_4_6 q1 (Value.slice (some { block := z.heap.size, off := 0 }) 0 0) _ sy)
      · unfold wpOp
        simp only [List.getElem?_toArray, List.getElem?_cons_succ, List.getElem?_cons_zero]
        rw [if_pos (by rfl)]
        left
        unfold Oper.wp
        go_simp
        have sy := Dt.swap (Dt.lit (Dt.swap sx))
        refine ⟨sy.lo, ?_⟩
        (try simp only [Act.put])
        (try simp only [List.getElem_toArray])
        (try simp only [List.getElem_cons_succ])
        (try simp only [List.getElem_cons_zero])
        (try simp only [List.setIfInBounds_toArray])
        (try simp only [List.set_cons_succ])
        (try simp only [List.set_cons_zero])
        rw [← hH]
        exact castL (by kernel_rfl) (nd_4_10 q1 z.heap.size _ sy)
    have nd_0 : ∀ (u62 : Value) (z : World), Dt W5 z p (some (u62, [])) none none none → H 10 #[true, true, false, true, false, false, false, true, false, true, false, false, false, true, true, false, false] { tmps := #[Value.slice A n c, Value.slice A2 m c2, undef, undef, Value.bool false, Value.slice (some { block := bl, off := ol }) x c0, Value.slice A1 y c1, Value.int IntKind.i64 g, Value.int IntKind.i64 g, Value.pointer (some { block := Z, off := 0 }), Value.slice A n c, Value.int IntKind.i64 (n : Int), Value.bool (decide (1048576 < (n : Int))), Value.bool (decide (1048576 < (n : Int))), Value.slice A2 m c2, Value.int IntKind.i64 (m : Int), Value.bool (decide (1048576 < (m : Int))), Value.bool (decide (1048576 < (n : Int)) || decide (1048576 < (m : Int))), Value.tuple #[Value.slice (some { block := bl, off := ol }) x c0, Value.slice A1 y c1], Value.slice A n c, Value.tuple #[Value.slice (some { block := bl, off := ol }) x c0, Value.slice A1 y c1], Value.slice (some { block := bl, off := ol }) x c0, Value.slice A1 y c1, Value.slice (some { block := bl, off := ol }) x c0, Value.slice A1 y c1, Value.int IntKind.i64 g, Value.slice (some { block := bl, off := ol }) x c0, Value.slice A1 y c1, Value.int IntKind.i64 g, Value.int IntKind.i64 g, Value.int IntKind.i64 g, Value.bool false, Value.bool false, Value.int IntKind.i64 g, Value.bool (decide (g < 0)), Value.bool (decide (g < 0)), undef, undef, undef, Value.slice (some { block := bl, off := ol }) x c0, Value.int IntKind.i64 (x : Int), Value.bool false, Value.bool false, Value.slice (some { block := bl, off := ol }) x c0, Value.int IntKind.i64 (x : Int), Value.bool false, Value.bool false, Value.bool false, Value.slice A1 y c1, Value.int IntKind.i64 (y : Int), Value.bool false, Value.bool false, undef, undef, Value.slice (some { block := bl, off := ol }) x c0, Value.slice A2 m c2, Value.int IntKind.i64 (m : Int), Value.slice (some { block := bl, off := ol }) x c0, Value.int IntKind.i64 (x : Int), Value.int IntKind.i64 ((m : Int) % (x : Int)), Value.pointer (some { block := bl, off := ol + r * 4 }), Value.agg #[Value.int IntKind.i64 p.area, Value.int IntKind.i64 p.job, Value.int IntKind.i64 p.sex, Value.int IntKind.i64 p.pay], u62, Value.slice (some { block := bl, off := ol }) x c0, undef, Value.agg #[Value.int IntKind.i64 p.area, Value.int IntKind.i64 p.job, Value.int IntKind.i64 p.sex, Value.int IntKind.i64 p.pay], undef, undef, undef, Value.slice A1 y c1, undef, Value.agg #[Value.int IntKind.i64 p.area, Value.int IntKind.i64 p.job, Value.int IntKind.i64 p.sex, Value.int IntKind.i64 p.pay], undef, undef, undef, Value.int IntKind.i64 g, Value.int IntKind.i64 (g + 1), undef], defers := [] } z := by
      intro u62 z sx
      rw [hH]
      refine wpAnyH_all (rs := [2, 4, 6, 10]) (by kernel_rfl) (by simp) (fun i hi => ?_)
      simp only [List.mem_cons, List.not_mem_nil, or_false] at hi
      rcases hi with rfl | rfl | rfl | rfl
      · unfold wpOp
        simp only [List.getElem?_toArray, List.getElem?_cons_succ, List.getElem?_cons_zero]
        rw [if_pos (by rfl)]
        left
        refine wp_copyP (.tmp 62) (.tmp 63) rfl rfl sx _ _ _ a rfl HLA.out.symm HR1.out HLX.out fun v9 z9 sy9 => ?_
        have sy := sy9
        refine ⟨sy.lo, ?_⟩
        (try simp only [Act.put])
        (try simp only [List.getElem_toArray])
        (try simp only [List.getElem_cons_succ])
        (try simp only [List.getElem_cons_zero])
        (try simp only [List.setIfInBounds_toArray])
        (try simp only [List.set_cons_succ])
        (try simp only [List.set_cons_zero])
        rw [← hH]
        exact castL (by kernel_rfl) (nd_0_2 u62 v9 _ sy)
      · unfold wpOp
        simp only [List.getElem?_toArray, List.getElem?_cons_succ, List.getElem?_cons_zero]
        rw [if_pos (by rfl)]
        left
        unfold Oper.wp
        go_simp
        have sy := Dt.lit sx
        refine ⟨sy.lo, ?_⟩
        (try simp only [Act.put])
        (try simp only [List.getElem_toArray])
        (try simp only [List.getElem_cons_succ])
        (try simp only [List.getElem_cons_zero])
        (try simp only [List.setIfInBounds_toArray])
        (try simp only [List.set_cons_succ])
        (try simp only [List.set_cons_zero])
        rw [← hH]
        exact castL (by kernel_rfl) (nd_0_4 u62 z.heap.size _ sy)
      · unfold wpOp
        simp only [List.getElem?_toArray, List.getElem?_cons_succ, List.getElem?_cons_zero]
        rw [if_pos (by rfl)]
        left
        unfold Oper.wp
        go_simp
        have sy := Dt.swap (Dt.new (Dt.swap sx))
        refine ⟨sy.lo, ?_⟩
        (try simp only [Act.put])
        (try simp only [List.getElem_toArray])
        (try simp only [List.getElem_cons_succ])
        (try simp only [List.getElem_cons_zero])
        (try simp only [List.setIfInBounds_toArray])
        (try simp only [List.set_cons_succ])
        (try simp only [List.set_cons_zero])
        rw [← hH]
        exact castL (by kernel_rfl) (nd_0_6 u62 (Value.slice (some { block := z.heap.size, off := 0 }) 0 0) _ sy)
      · unfold wpOp
        simp only [List.getElem?_toArray, List.getElem?_cons_succ, List.getElem?_cons_zero]
        rw [if_pos (by rfl)]
        left
        unfold Oper.wp
        go_simp
        have sy := Dt.swap (Dt.lit (Dt.swap sx))
        refine ⟨sy.lo, ?_⟩
        (try simp only [Act.put])
        (try simp only [List.getElem_toArray])
        (try simp only [List.getElem_cons_succ])
        (try simp only [List.getElem_cons_zero])
        (try simp only [List.setIfInBounds_toArray])
        (try simp only [List.set_cons_succ])
        (try simp only [List.set_cons_zero])
        rw [← hH]
        exact castL (by kernel_rfl) (nd_0_10 u62 z.heap.size _ sy)
    have nd : ∀ (z : World), Dt W5 z p none none none none → H 11 #[false, true, false, true, false, false, false, true, false, true, false, false, false, true, true, false, false] { tmps := #[Value.slice A n c, Value.slice A2 m c2, undef, undef, Value.bool false, Value.slice (some { block := bl, off := ol }) x c0, Value.slice A1 y c1, Value.int IntKind.i64 g, Value.int IntKind.i64 g, Value.pointer (some { block := Z, off := 0 }), Value.slice A n c, Value.int IntKind.i64 (n : Int), Value.bool (decide (1048576 < (n : Int))), Value.bool (decide (1048576 < (n : Int))), Value.slice A2 m c2, Value.int IntKind.i64 (m : Int), Value.bool (decide (1048576 < (m : Int))), Value.bool (decide (1048576 < (n : Int)) || decide (1048576 < (m : Int))), Value.tuple #[Value.slice (some { block := bl, off := ol }) x c0, Value.slice A1 y c1], Value.slice A n c, Value.tuple #[Value.slice (some { block := bl, off := ol }) x c0, Value.slice A1 y c1], Value.slice (some { block := bl, off := ol }) x c0, Value.slice A1 y c1, Value.slice (some { block := bl, off := ol }) x c0, Value.slice A1 y c1, Value.int IntKind.i64 g, Value.slice (some { block := bl, off := ol }) x c0, Value.slice A1 y c1, Value.int IntKind.i64 g, Value.int IntKind.i64 g, Value.int IntKind.i64 g, Value.bool false, Value.bool false, Value.int IntKind.i64 g, Value.bool (decide (g < 0)), Value.bool (decide (g < 0)), undef, undef, undef, Value.slice (some { block := bl, off := ol }) x c0, Value.int IntKind.i64 (x : Int), Value.bool false, Value.bool false, Value.slice (some { block := bl, off := ol }) x c0, Value.int IntKind.i64 (x : Int), Value.bool false, Value.bool false, Value.bool false, Value.slice A1 y c1, Value.int IntKind.i64 (y : Int), Value.bool false, Value.bool false, undef, undef, Value.slice (some { block := bl, off := ol }) x c0, Value.slice A2 m c2, Value.int IntKind.i64 (m : Int), Value.slice (some { block := bl, off := ol }) x c0, Value.int IntKind.i64 (x : Int), Value.int IntKind.i64 ((m : Int) % (x : Int)), Value.pointer (some { block := bl, off := ol + r * 4 }), Value.agg #[Value.int IntKind.i64 p.area, Value.int IntKind.i64 p.job, Value.int IntKind.i64 p.sex, Value.int IntKind.i64 p.pay], undef, Value.slice (some { block := bl, off := ol }) x c0, undef, Value.agg #[Value.int IntKind.i64 p.area, Value.int IntKind.i64 p.job, Value.int IntKind.i64 p.sex, Value.int IntKind.i64 p.pay], undef, undef, undef, Value.slice A1 y c1, undef, Value.agg #[Value.int IntKind.i64 p.area, Value.int IntKind.i64 p.job, Value.int IntKind.i64 p.sex, Value.int IntKind.i64 p.pay], undef, undef, undef, Value.int IntKind.i64 g, Value.int IntKind.i64 (g + 1), undef], defers := [] } z := by
      intro  z sx
      rw [hH]
      refine wpAnyH_all (rs := [0, 4, 6, 10]) (by kernel_rfl) (by simp) (fun i hi => ?_)
      simp only [List.mem_cons, List.not_mem_nil, or_false] at hi
      rcases hi with rfl | rfl | rfl | rfl
      · unfold wpOp
        simp only [List.getElem?_toArray, List.getElem?_cons_zero]
        rw [if_pos (by rfl)]
        left
        unfold Oper.wp
        go_simp
        have sy := Dt.new sx
        refine ⟨sy.lo, ?_⟩
        (try simp only [Act.put])
        (try simp only [List.getElem_toArray])
        (try simp only [List.getElem_cons_succ])
        (try simp only [List.getElem_cons_zero])
        (try simp only [List.setIfInBounds_toArray])
        (try simp only [List.set_cons_succ])
        (try simp only [List.set_cons_zero])
        rw [← hH]
        exact castL (by kernel_rfl) (nd_0 (Value.slice (some { block := z.heap.size, off := 0 }) 0 0) _ sy)
      · unfold wpOp
        simp only [List.getElem?_toArray, List.getElem?_cons_succ, List.getElem?_cons_zero]
        rw [if_pos (by rfl)]
        left
        unfold Oper.wp
        go_simp
        have sy := Dt.lit sx
        refine ⟨sy.lo, ?_⟩
        (try simp only [Act.put])
        (try simp only [List.getElem_toArray])
        (try simp only [List.getElem_cons_succ])
        (try simp only [List.getElem_cons_zero])
        (try simp only [List.setIfInBounds_toArray])
        (try simp only [List.set_cons_succ])
        (try simp only [List.set_cons_zero])
        rw [← hH]
        exact castL (by kernel_rfl) (nd_4 z.heap.size _ sy)
      · unfold wpOp
        simp only [List.getElem?_toArray, List.getElem?_cons_succ, List.getElem?_cons_zero]
        rw [if_pos (by rfl)]
        left
        unfold Oper.wp
        go_simp
        have sy := Dt.swap (Dt.new (Dt.swap sx))
        refine ⟨sy.lo, ?_⟩
        (try simp only [Act.put])
        (try simp only [List.getElem_toArray])
        (try simp only [List.getElem_cons_succ])
        (try simp only [List.getElem_cons_zero])
        (try simp only [List.setIfInBounds_toArray])
        (try simp only [List.set_cons_succ])
        (try simp only [List.set_cons_zero])
        rw [← hH]
        exact castL (by kernel_rfl) (nd_6 (Value.slice (some { block := z.heap.size, off := 0 }) 0 0) _ sy)
      · unfold wpOp
        simp only [List.getElem?_toArray, List.getElem?_cons_succ, List.getElem?_cons_zero]
        rw [if_pos (by rfl)]
        left
        unfold Oper.wp
        go_simp
        have sy := Dt.swap (Dt.lit (Dt.swap sx))
        refine ⟨sy.lo, ?_⟩
        (try simp only [Act.put])
        (try simp only [List.getElem_toArray])
        (try simp only [List.getElem_cons_succ])
        (try simp only [List.getElem_cons_zero])
        (try simp only [List.setIfInBounds_toArray])
        (try simp only [List.set_cons_succ])
        (try simp only [List.set_cons_zero])
        rw [← hH]
        exact castL (by kernel_rfl) (nd_10 z.heap.size _ sy)
    have st0 := Dt.start W5 p
    have hS0 : (fun y : World => Below W5.heap.size W5 y) W5.drew := (Below.refl _ _).drew
    obtain ⟨Y0, hY0⟩ : ∃ y, y = W5.drew := ⟨_, rfl⟩
    rw [← hY0] at hS0 st0 ⊢
    clear hY0
    rw [hH]
    refine wpAnyH_take (i := 1) (v := Value.slice (some { block := bl, off := ol }) x c0) rfl (by kernel_rfl) (by kernel_rfl) (by kernel_rfl) (fun _ _ _ h => h) (Or.inl ⟨by rfl, ?_⟩) hS0 ?_
    · (intro y9 hy9; obtain ⟨y0, y1, y2, y3⟩ := HCE.out y9 hy9; go_simp)
    (try simp only [Act.put])
    (try simp only [List.getElem_toArray])
    (try simp only [List.getElem_cons_succ])
    (try simp only [List.getElem_cons_zero])
    (try simp only [List.setIfInBounds_toArray])
    (try simp only [List.set_cons_succ])
    (try simp only [List.set_cons_zero])
    refine wpAnyH_take (i := 3) (v := Value.agg #[Value.int IntKind.i64 p.area, Value.int IntKind.i64 p.job, Value.int IntKind.i64 p.sex, Value.int IntKind.i64 p.pay]) rfl (by kernel_rfl) (by kernel_rfl) (by kernel_rfl) (fun _ _ _ h => h) (Or.inl ⟨by rfl, ?_⟩) hS0 ?_
    · (intro y9 hy9; obtain ⟨y0, y1, y2, y3⟩ := HCE.out y9 hy9; go_simp)
    (try simp only [Act.put])
    (try simp only [List.getElem_toArray])
    (try simp only [List.getElem_cons_succ])
    (try simp only [List.getElem_cons_zero])
    (try simp only [List.setIfInBounds_toArray])
    (try simp only [List.set_cons_succ])
    (try simp only [List.set_cons_zero])
    refine wpAnyH_take (i := 7) (v := Value.slice A1 y c1) rfl (by kernel_rfl) (by kernel_rfl) (by kernel_rfl) (fun _ _ _ h => h) (Or.inl ⟨by rfl, ?_⟩) hS0 ?_
    · (intro y9 hy9; obtain ⟨y0, y1, y2, y3⟩ := HCE.out y9 hy9; go_simp)
    (try simp only [Act.put])
    (try simp only [List.getElem_toArray])
    (try simp only [List.getElem_cons_succ])
    (try simp only [List.getElem_cons_zero])
    (try simp only [List.setIfInBounds_toArray])
    (try simp only [List.set_cons_succ])
    (try simp only [List.set_cons_zero])
    refine wpAnyH_take (i := 9) (v := Value.agg #[Value.int IntKind.i64 p.area, Value.int IntKind.i64 p.job, Value.int IntKind.i64 p.sex, Value.int IntKind.i64 p.pay]) rfl (by kernel_rfl) (by kernel_rfl) (by kernel_rfl) (fun _ _ _ h => h) (Or.inl ⟨by rfl, ?_⟩) hS0 ?_
    · (intro y9 hy9; obtain ⟨y0, y1, y2, y3⟩ := HCE.out y9 hy9; go_simp)
    (try simp only [Act.put])
    (try simp only [List.getElem_toArray])
    (try simp only [List.getElem_cons_succ])
    (try simp only [List.getElem_cons_zero])
    (try simp only [List.setIfInBounds_toArray])
    (try simp only [List.set_cons_succ])
    (try simp only [List.set_cons_zero])
    refine wpAnyH_take (i := 13) (v := Value.int IntKind.i64 g) rfl (by kernel_rfl) (by kernel_rfl) (by kernel_rfl) (fun _ _ _ h => h) (Or.inl ⟨by rfl, ?_⟩) hS0 ?_
    · (intro y9 hy9; obtain ⟨y0, y1, y2, y3⟩ := HCE.out y9 hy9; go_simp)
    (try simp only [Act.put])
    (try simp only [List.getElem_toArray])
    (try simp only [List.getElem_cons_succ])
    (try simp only [List.getElem_cons_zero])
    (try simp only [List.setIfInBounds_toArray])
    (try simp only [List.set_cons_succ])
    (try simp only [List.set_cons_zero])
    refine wpAnyH_take (i := 14) (v := Value.int IntKind.i64 (g + 1)) rfl (by kernel_rfl) (by kernel_rfl) (by kernel_rfl) (fun _ _ _ h => h) (Or.inl ⟨by rfl, ?_⟩) hS0 ?_
    · (intro y9 hy9; obtain ⟨y0, y1, y2, y3⟩ := HCE.out y9 hy9; go_simp)
    (try simp only [Act.put])
    (try simp only [List.getElem_toArray])
    (try simp only [List.getElem_cons_succ])
    (try simp only [List.getElem_cons_zero])
    (try simp only [List.setIfInBounds_toArray])
    (try simp only [List.set_cons_succ])
    (try simp only [List.set_cons_zero])
    rw [← hH]
    exact castL (by kernel_rfl) (nd _ st0)
end Go.Proofs.Ytjgohakiodcjmaa
