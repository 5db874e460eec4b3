/- Rows of flags that are somebody's own; masks. -/
import Derived.Test.YtobgceebolmfcaaDoorA3
import Derived.Test.YtobgceebolmfcaaDoorTW
namespace Go.Proofs.YtobgceebolmfcaaDoor
open Go.RowKit
abbrev TBo : TypeId := 4
abbrev TBS : TypeId := 31
abbrev TBSS : TypeId := 24
theorem one_BS : OneCell TBS TBo := ⟨Tryd.underlying31, .bool false, 1, by kernel_rfl, rfl, by omega⟩
theorem one_BSS : OneCell TBSS TBS := ⟨Tryd.underlying24, .slice none 0 0, 24, by kernel_rfl, rfl, by omega⟩
def bcells (x : List Bool) : List Value := x.map (Value.bool)
theorem bcells_len (x : List Bool) : (bcells x).length = x.length := by simp [bcells]
theorem bcells_app (x y : List Bool) : bcells (x ++ y) = bcells x ++ bcells y := by simp [bcells]
theorem bcells_one (x : List Bool) : ∀ u ∈ bcells x, u.oneCell' = true := by
  intro u hu; obtain ⟨v, _, rfl⟩ := List.mem_map.1 hu; rfl
theorem bcells_get {x : List Bool} {k : Nat} (hk : k < x.length) : (bcells x)[k]? = some (.bool (x.getD k false)) := by
  rw [bcells, List.getElem?_map, List.getElem?_eq_getElem hk, List.getD_eq_getElem?_getD, List.getElem?_eq_getElem hk]; rfl
theorem Row.bool_ {w : World} {B : Nat} {A : Option Addr} {x : List Bool} (h : Row w B A (bcells x)) (k : Nat) (hk : k < x.length) :
    ∃ b o, A = some ⟨b, o, none⟩ ∧ b < B ∧ w.cell? ⟨b, o + k, none⟩ = some (.bool (x.getD k false)) := by
  rcases h with h | ⟨b, o, hA, hb, hc⟩
  · have := bcells_len x; rw [h] at this; simp at this; omega
  · exact ⟨b, o, hA, hb, hc k _ (bcells_get hk)⟩
/-- Each of the headers 'hs' leads to its row of 'll', in blocks from L on, none of them 'no'. -/
def HeadsB (w : World) (L : Nat) (no : Option Nat) (hs : List Value) (ll : List (List Bool)) : Prop :=
  hs.length = ll.length ∧ ∀ i, i < ll.length → ∃ Ai ci, hs[i]? = some (.slice Ai (ll.getD i []).length ci) ∧ (ll.getD i []).length ≤ ci ∧ ci ≤ maxLen ∧
    (ll.getD i [] = [] ∨ ∃ b o, Ai = some ⟨b, o, none⟩ ∧ L ≤ b ∧ b < w.heap.size ∧ some b ≠ no ∧ ∀ j u, (bcells (ll.getD i []))[j]? = some u → w.cell? ⟨b, o + j, none⟩ = some u)
theorem HeadsB.keep {w w' : World} {L : Nat} {no no' : Option Nat} {hs : List Value} {ll : List (List Bool)} (h : HeadsB w L no hs ll) (hz : w.heap.size ≤ w'.heap.size)
    (hk : ∀ b, L ≤ b → b < w.heap.size → some b ≠ no → w'.heap[b]? = w.heap[b]? ∧ some b ≠ no') : HeadsB w' L no' hs ll :=
  ⟨h.1, fun i hi => by
    obtain ⟨Ai, ci, a1, a2, a3, a4⟩ := h.2 i hi
    refine ⟨Ai, ci, a1, a2, a3, ?_⟩
    rcases a4 with a4 | ⟨b, o, rfl, hb, hlt, hne, hc⟩
    · exact .inl a4
    · obtain ⟨k1, k2⟩ := hk b hb hlt hne
      exact .inr ⟨b, o, rfl, hb, by omega, k2, fun j u hu => (World.cell?_of_block (a := ⟨b, o + j, none⟩) k1).trans (hc j u hu)⟩⟩
theorem HeadsB.less {w : World} {L L' : Nat} {no : Option Nat} {hs : List Value} {ll : List (List Bool)} (h : HeadsB w L no hs ll) (hL : L' ≤ L) : HeadsB w L' no hs ll :=
  ⟨h.1, fun i hi => by
    obtain ⟨Ai, ci, a1, a2, a3, a4⟩ := h.2 i hi
    refine ⟨Ai, ci, a1, a2, a3, ?_⟩
    rcases a4 with a4 | ⟨b, o, rfl, hb, r⟩
    · exact .inl a4
    · exact .inr ⟨b, o, rfl, by omega, r⟩⟩
theorem HeadsB.app {w : World} {L : Nat} {no : Option Nat} {hs hs2 : List Value} {ll ll2 : List (List Bool)} (h : HeadsB w L no hs ll) (k : HeadsB w L no hs2 ll2) : HeadsB w L no (hs ++ hs2) (ll ++ ll2) := by
  refine ⟨by simp [h.1, k.1], fun i hi => ?_⟩
  by_cases hlt : i < ll.length
  · have e : (ll ++ ll2).getD i [] = ll.getD i [] := by rw [List.getD_eq_getElem?_getD, List.getElem?_append_left hlt, List.getD_eq_getElem?_getD]
    rw [e, List.getElem?_append_left (by rw [h.1]; exact hlt)]
    exact h.2 i hlt
  · have e : (ll ++ ll2).getD i [] = ll2.getD (i - ll.length) [] := by rw [List.getD_eq_getElem?_getD, List.getElem?_append_right (by omega), List.getD_eq_getElem?_getD]
    rw [e, List.getElem?_append_right (by rw [h.1]; omega), h.1]
    exact k.2 _ (by simp at hi; omega)
theorem HeadsB.nil (w : World) (L : Nat) (no : Option Nat) : HeadsB w L no [] [] := ⟨rfl, fun i hi => by simp at hi⟩
theorem HeadsB.cell1 {w : World} {L : Nat} {no : Option Nat} {hs : List Value} {ll : List (List Bool)} (h : HeadsB w L no hs ll) : ∀ u ∈ hs, u.oneCell' = true := by
  intro u hu
  obtain ⟨i, hi, rfl⟩ := List.getElem_of_mem hu
  obtain ⟨Ai, ci, a1, _⟩ := h.2 i (by rw [← h.1]; exact hi)
  rw [List.getElem?_eq_getElem hi] at a1
  injection a1 with a1
  rw [a1]; rfl
/-- One row of one's own, as a header. -/
theorem Own1.headB {w : World} {B L : Nat} {v : Value} {x : List Bool} (h : Own1 TBo w B v (bcells x)) (hL : L ≤ B) (no : Option Nat) (hno : ∀ k, v.ownBlock = some k → some k ≠ no) : HeadsB w L no [v] [x] := by
  refine ⟨rfl, fun i hi => ?_⟩
  obtain rfl : i = 0 := by simp at hi; exact hi
  obtain ⟨A, c, rfl, h1, h2, hr, hB⟩ := h.form
  rw [bcells_len] at *
  refine ⟨A, c, rfl, h1, h2, ?_⟩
  rcases hr with hr | ⟨b, o, rfl, hb, hc⟩
  · have := bcells_len x; rw [hr] at this; exact .inl (List.eq_nil_of_length_eq_zero this.symm)
  · exact .inr ⟨b, o, rfl, Nat.le_trans hL (hB _ rfl), hb, hno b rfl, hc⟩
/-- The rows 'll' lie at A: their headers below B, their numbers, too. -/
def LB (w : World) (B : Nat) (A : Option Addr) (ll : List (List Bool)) : Prop :=
  ∃ hs : List Value, hs.length = ll.length ∧ Row w B A hs ∧ ∀ i, i < ll.length → ∃ Ai ci, hs[i]? = some (.slice Ai (ll.getD i []).length ci) ∧ (ll.getD i []).length ≤ ci ∧ ci ≤ maxLen ∧ Row w B Ai (bcells (ll.getD i []))
theorem LB.keep {w w' : World} {B : Nat} {A : Option Addr} {ll : List (List Bool)} (h : LB w B A ll) (hk : ∀ b o, b < B → w'.cell? ⟨b, o, none⟩ = w.cell? ⟨b, o, none⟩) : LB w' B A ll := by
  obtain ⟨hs, h0, h1, h2⟩ := h
  exact ⟨hs, h0, h1.keep hk, fun i hi => by obtain ⟨Ai, ci, a1, a2, a3, a4⟩ := h2 i hi; exact ⟨Ai, ci, a1, a2, a3, a4.keep hk⟩⟩
theorem LB.more {w : World} {B B' : Nat} {A : Option Addr} {ll : List (List Bool)} (h : LB w B A ll) (hB : B ≤ B') : LB w B' A ll := by
  obtain ⟨hs, h0, h1, h2⟩ := h
  exact ⟨hs, h0, h1.more hB, fun i hi => by obtain ⟨Ai, ci, a1, a2, a3, a4⟩ := h2 i hi; exact ⟨Ai, ci, a1, a2, a3, a4.more hB⟩⟩
theorem LB.below {w w' : World} {B B' : Nat} {A : Option Addr} {ll : List (List Bool)} (h : LB w B A ll) (hb : Below B' w w') (hB : B ≤ B') : LB w' B A ll :=
  h.keep fun b o hlt => hb.cell (p := ⟨b, o, none⟩) (Nat.lt_of_lt_of_le hlt hB)
theorem LB.moved {w w' : World} {A : Option Addr} {ll : List (List Bool)} (h : LB w w.heap.size A ll) (hb : Below w.heap.size w w') : LB w' w'.heap.size A ll := (h.below hb (Nat.le_refl _)).more hb.size
theorem LB.at_ {w : World} {B : Nat} {A : Option Addr} {ll : List (List Bool)} (h : LB w B A ll) (k : Nat) (hk : k < ll.length) :
    ∃ b o Ai ci, A = some ⟨b, o, none⟩ ∧ b < B ∧ w.cell? ⟨b, o + k, none⟩ = some (.slice Ai (ll.getD k []).length ci) ∧ (ll.getD k []).length ≤ ci ∧ ci ≤ maxLen ∧ Row w B Ai (bcells (ll.getD k [])) := by
  obtain ⟨hs, h0, h1, h2⟩ := h
  obtain ⟨Ai, ci, a1, a2, a3, a4⟩ := h2 k hk
  rcases h1 with h1 | ⟨b, o, hA, hb, hc⟩
  · rw [h1] at h0; simp at h0; omega
  · exact ⟨b, o, Ai, ci, hA, hb, hc k _ a1, a2, a3, a4⟩
theorem LB.nil (w : World) (B : Nat) (A : Option Addr) : LB w B A [] := ⟨[], rfl, .inl rfl, fun i hi => by simp at hi⟩
/-- The first rows. -/
theorem LB.front {w : World} {B : Nat} {A : Option Addr} {ll : List (List Bool)} (h : LB w B A ll) (k : Nat) : LB w B A (ll.take k) := by
  obtain ⟨hs, h0, h1, h2⟩ := h
  refine ⟨hs.take k, by simp [h0], ?_, fun i hi => ?_⟩
  · rcases h1 with h1 | ⟨b, o, hA, hb, hc⟩
    · left; rw [h1]; simp
    · exact .inr ⟨b, o, hA, hb, fun j u hu => hc j u (by rw [List.getElem?_take] at hu; split at hu; exact hu; cases hu)⟩
  · have hik : i < k ∧ i < ll.length := by simp at hi; omega
    have e : (ll.take k).getD i [] = ll.getD i [] := by rw [List.getD_eq_getElem?_getD, List.getElem?_take, if_pos hik.1, List.getD_eq_getElem?_getD]
    rw [e, List.getElem?_take, if_pos hik.1]
    exact h2 i hik.2
/-- Rows of one's own: 'v' and what its headers lead to, which lies from L on, none of it in v's own block. -/
def OwnLB (w : World) (B L : Nat) (v : Value) (ll : List (List Bool)) : Prop := ∃ hs, Own1 TBS w B v hs ∧ HeadsB w L v.ownBlock hs ll
section
variable {w w' : World} {B L : Nat} {v : Value} {ll : List (List Bool)}
theorem OwnLB.form (h : OwnLB w B L v ll) : ∃ A c, v = .slice A ll.length c ∧ ll.length ≤ c ∧ c ≤ maxLen ∧ LB w w.heap.size A ll := by
  obtain ⟨hs, h1, h2⟩ := h
  obtain ⟨A, c, rfl, a1, a2, hr, _⟩ := h1.form
  rw [h2.1] at *
  refine ⟨A, c, rfl, a1, a2, hs, h2.1, hr, fun i hi => ?_⟩
  obtain ⟨Ai, ci, b1, b2, b3, b4⟩ := h2.2 i hi
  refine ⟨Ai, ci, b1, b2, b3, ?_⟩
  rcases b4 with b4 | ⟨b, o, rfl, _, hlt, _, hc⟩
  · left; rw [b4]; rfl
  · exact .inr ⟨b, o, rfl, hlt, hc⟩
theorem OwnLB.kept {row : Option Nat} (h : OwnLB w B L v ll) (hg : w.grownBy w' row) (hB : ∀ k, row = some k → k < B) (hL : ∀ k, row = some k → k < L) : OwnLB w' B L v ll := by
  obtain ⟨hs, h1, h2⟩ := h
  refine ⟨hs, h1.kept hg fun k hk e => ?_, h2.keep hg.size fun b hb hlt hne => ⟨hg.block b hlt fun e => ?_, hne⟩⟩
  · have := hB k e.symm; have := (h1.ob k hk).1; omega
  · have := hL b e.symm; omega
theorem OwnLB.below (h : OwnLB w B L v ll) (hb : Below w.heap.size w w') : OwnLB w' B L v ll := by
  obtain ⟨hs, h1, h2⟩ := h
  exact ⟨hs, h1.below hb, h2.keep hb.size fun b _ hlt hne => ⟨hb.block b hlt, hne⟩⟩
theorem OwnLB.alloc (h : OwnLB w B L v ll) (o : Obj) : OwnLB (w.alloc o) B L v ll := h.below ((Below.refl _ _).alloc (Nat.le_refl _) o)
theorem OwnLB.less {B' L' : Nat} (h : OwnLB w B L v ll) (hB : B' ≤ B) (hL : L' ≤ L) : OwnLB w B' L' v ll := by
  obtain ⟨hs, h1, h2⟩ := h
  exact ⟨hs, h1.less hB, h2.less hL⟩
theorem OwnLB.ob (h : OwnLB w B L v ll) : ∀ g, v.ownBlock = some g → B ≤ g ∧ g < w.heap.size := by obtain ⟨hs, h1, _⟩ := h; exact h1.ob
theorem ownLB_new (hb : B ≤ w.heap.size) : OwnLB (w.alloc (.cells #[] TBS)) B L (.slice (some ⟨w.heap.size, 0, none⟩) 0 0) [] := ⟨[], own1_new hb, HeadsB.nil _ _ _⟩
theorem ownLB_nil : OwnLB w B L (.slice none 0 0) [] := ⟨[], own1_nil _ _ _, HeadsB.nil _ _ _⟩
theorem below_ownLB {W : World} (hb : Below W.heap.size W w) (ho : OwnLB w W.heap.size L v ll) (hg : w.grownBy w' v.ownBlock) : Below W.heap.size W w' :=
  hb.grown hg hb.size fun g hg => (ho.ob g hg).1
/-- What 'append' makes of rows of one's own and headers at A. -/
theorem ownLB_app (hs : List Value) (_h1 : Own1 TBS w B v hs) (h2 : HeadsB w L v.ownBlock hs ll) {hs2 : List Value} {ll2 : List (List Bool)} (k : HeadsB w L v.ownBlock hs2 ll2) {v' : Value} (ho : Own1 TBS w' B v' (hs ++ hs2)) (hg : w.grownBy w' v.ownBlock)
    (hat : v'.ownBlock = v.ownBlock ∨ v'.ownBlock = some w.heap.size) : OwnLB w' B L v' (ll ++ ll2) :=
  ⟨_, ho, (h2.app k).keep hg.size fun b _ hlt hne => ⟨hg.block b hlt hne, by
    rcases hat with e | e
    · rw [e]; exact hne
    · rw [e]; intro e2; injection e2 with e2; omega⟩⟩
theorem wp_appendLB {o : Oper} {a : Act} {w : World} {K : Act → World → Prop} {Q : Exit → Act → World → Prop} (s x : Operand)
    (ho : o.op = .call { callee := .builtin .append, args := #[s, x], argTypes := #[TBSS, TBSS] }) (B L : Nat) (v : Value) (ll : List (List Bool)) (hs : a.eval s = v) (hown : OwnLB w B L v ll)
    (Bd : Nat) (A : Option Addr) (m d : Nat) (hs2 : List Value) (ll2 : List (List Bool)) (hm : m = ll2.length) (hx : a.eval x = .slice A m d) (hr : Row w Bd A hs2) (hh : HeadsB w L v.ownBlock hs2 ll2) (hlen : ll.length + ll2.length ≤ 1000000) (hbase : B ≤ w.heap.size)
    (h : ∀ v' w', OwnLB w' B L v' (ll ++ ll2) → w.grownBy w' v.ownBlock → K (a.put o.dst v') w') : o.wp Tryd.prog a w K Q := by
  obtain ⟨h0, h1, h2⟩ := hown
  exact wp_append1 one_BSS s x ho B v h0 hs h1 Bd A m d hs2 (by rw [hm, hh.1]) hx hr hh.cell1 (by rw [h2.1, hh.1]; exact hlen) hbase fun v' w' a1 a2 a3 => h v' w' (ownLB_app h0 h1 h2 hh a1 a2 a3) a2
theorem appLB {ops : Array Oper} {rest : List Oper} {o : Oper} {a : Act} {w : World} {Q : Exit → Act → World → Prop} (hw : Region.wanted o (yielded ops a.tmps) = true) (s x : Operand)
    (ho : o.op = .call { callee := .builtin .append, args := #[s, x], argTypes := #[TBSS, TBSS] }) (B L : Nat) (v : Value) (ll : List (List Bool)) (hs : a.eval s = v) (hown : OwnLB w B L v ll)
    (Bd : Nat) (A : Option Addr) (m d : Nat) (hs2 : List Value) (ll2 : List (List Bool)) (hm : m = ll2.length) (hx : a.eval x = .slice A m d) (hr : Row w Bd A hs2) (hh : HeadsB w L v.ownBlock hs2 ll2) (hlen : ll.length + ll2.length ≤ 1000000) (hbase : B ≤ w.heap.size)
    (h : ∀ v' w', OwnLB w' B L v' (ll ++ ll2) → w.grownBy w' v.ownBlock → wpList Tryd.prog ops Q rest (a.put o.dst v') w') : wpList Tryd.prog ops Q (o :: rest) a w :=
  BigFrame.wpList_want hw fun _ hK => wp_appendLB s x ho B L v ll hs hown Bd A m d hs2 ll2 hm hx hr hh hlen hbase fun v' w' h2 h3 => hK _ _ (h v' w' h2 h3)
/-- Rows in memory as headers, for what is made behind them. -/
theorem LB.heads {W : World} {A : Option Addr} (h : LB W W.heap.size A ll) {w : World} (hb : Below W.heap.size W w) (no : Option Nat) (hno : ∀ k, no = some k → W.heap.size ≤ k) : ∃ hs, Row w W.heap.size A hs ∧ HeadsB w 0 no hs ll := by
  obtain ⟨hs, h0, h1, h2⟩ := h
  refine ⟨hs, h1.below hb (Nat.le_refl _), h0, fun i hi => ?_⟩
  obtain ⟨Ai, ci, a1, a2, a3, a4⟩ := h2 i hi
  refine ⟨Ai, ci, a1, a2, a3, ?_⟩
  rcases a4 with a4 | ⟨b, o, rfl, hlt, hc⟩
  · have := bcells_len (ll.getD i []); rw [a4] at this; exact .inl (List.eq_nil_of_length_eq_zero this.symm)
  · exact .inr ⟨b, o, rfl, Nat.zero_le _, Nat.lt_of_lt_of_le hlt hb.size, fun e => by have := hno b e.symm; omega, fun j u hu => (hb.cell (p := ⟨b, o + j, none⟩) hlt).trans (hc j u hu)⟩
end
theorem OwnLB.ll {w : World} {B L : Nat} {A : Option Addr} {n c : Nat} {ll : List (List Bool)} (h : OwnLB w B L (.slice A n c) ll) : LB w w.heap.size A ll := by
  obtain ⟨A', c', hv, _, _, hl⟩ := h.form
  injection hv with e1 e2 e3
  subst e1
  exact hl
/-- The headers 'hs' are rows of one's own, in blocks from B on below T, none of them 'no', no two of them one. -/
def RwsB (w : World) (B T : Nat) (no : Option Nat) (hs : List Value) (ll : List (List Bool)) : Prop :=
  hs.length = ll.length ∧ (∀ i, i < ll.length → Own1 TBo w B (hs.getD i nilS) (bcells (ll.getD i [])) ∧ ∀ k, (hs.getD i nilS).ownBlock = some k → k < T ∧ some k ≠ no) ∧
    ∀ i j k, i < j → j < ll.length → (hs.getD i nilS).ownBlock = some k → (hs.getD j nilS).ownBlock ≠ some k
def MineB (w : World) (B T : Nat) (v : Value) (ll : List (List Bool)) : Prop := T ≤ w.heap.size ∧ (∀ k, v.ownBlock = some k → k < T) ∧ ∃ hs, Own1 TBS w B v hs ∧ RwsB w B T v.ownBlock hs ll
section
variable {w w' : World} {B T : Nat} {no : Option Nat} {hs : List Value} {ll : List (List Bool)}
theorem RwsB.nil (w : World) (B T : Nat) (no : Option Nat) : RwsB w B T no [] [] := ⟨rfl, fun i hi => by simp at hi, fun i j k _ hj => by simp at hj⟩
theorem RwsB.same (h : RwsB w B T no hs ll) (hk : ∀ k, B ≤ k → k < T → some k ≠ no → w'.heap[k]? = w.heap[k]?) : RwsB w' B T no hs ll :=
  ⟨h.1, fun i hi => ⟨(h.2.1 i hi).1.same fun k e => hk k (((h.2.1 i hi).1.ob k e).1) ((h.2.1 i hi).2 k e).1 ((h.2.1 i hi).2 k e).2, (h.2.1 i hi).2⟩, h.2.2⟩
theorem RwsB.snoc {T' : Nat} {v : Value} {x : List Bool} (h : RwsB w B T no hs ll) (ho : Own1 TBo w B v (bcells x)) (hT : T ≤ T') (hv : ∀ k, v.ownBlock = some k → T ≤ k ∧ k < T' ∧ some k ≠ no) : RwsB w B T' no (hs ++ [v]) (ll ++ [x]) := by
  have hl := h.1
  refine ⟨by simp [hl], fun i hi => ?_, fun i j k hij hj e => ?_⟩
  · rcases (show i < ll.length ∨ i = ll.length by simp at hi; omega) with hi | hi
    · rw [getD_snoc_lt (by omega), getD_snoc_lt hi]
      exact ⟨(h.2.1 i hi).1, fun k e => ⟨by have := ((h.2.1 i hi).2 k e).1; omega, ((h.2.1 i hi).2 k e).2⟩⟩
    · rw [getD_snoc_at (by omega), getD_snoc_at hi]
      exact ⟨ho, fun k e => (hv k e).2⟩
  · have hi : i < ll.length := by simp at hj; omega
    rw [getD_snoc_lt (by omega)] at e
    rcases (show j < ll.length ∨ j = ll.length by simp at hj; omega) with hj | hj
    · rw [getD_snoc_lt (by omega)]
      exact h.2.2 i j k hij hj e
    · rw [getD_snoc_at (by omega)]
      intro e2
      have := ((h.2.1 i hi).2 k e).1
      have := (hv k e2).1
      omega
theorem RwsB.heads (h : RwsB w B T no hs ll) : HeadsB w B no hs ll := by
  refine ⟨h.1, fun i hi => ?_⟩
  obtain ⟨ho, hb⟩ := h.2.1 i hi
  obtain ⟨A, c, hv, h1, h2, hr, hB⟩ := ho.form
  have hi2 : i < hs.length := by rw [h.1]; exact hi
  have e : hs[i]? = some (hs.getD i nilS) := by rw [List.getD_eq_getElem?_getD, List.getElem?_eq_getElem hi2]; rfl
  rw [bcells_len] at hv h1
  refine ⟨A, c, by rw [e, hv], h1, h2, ?_⟩
  rcases hr with hr | ⟨b, o, rfl, hlt, hc⟩
  · have := bcells_len (ll.getD i []); rw [hr] at this; exact .inl (List.eq_nil_of_length_eq_zero this.symm)
  · exact .inr ⟨b, o, rfl, hB _ rfl, hlt, (hb b (by rw [hv]; rfl)).2, hc⟩
theorem MineB.own {v : Value} (h : MineB w B T v ll) : OwnLB w B B v ll := by
  obtain ⟨_, _, hs, ho, hr⟩ := h
  exact ⟨hs, ho, hr.heads⟩
theorem MineB.same {v : Value} (h : MineB w B T v ll) (hz : w.heap.size ≤ w'.heap.size) (hk : ∀ k, B ≤ k → k < T → w'.heap[k]? = w.heap[k]?) : MineB w' B T v ll := by
  obtain ⟨hT, hv, hs, ho, hr⟩ := h
  exact ⟨by omega, hv, hs, ho.same fun k e => hk k (ho.ob k e).1 (hv k e), hr.same fun k a b _ => hk k a b⟩
theorem MineB.below {v : Value} (h : MineB w B T v ll) (hb : Below w.heap.size w w') : MineB w' B T v ll :=
  h.same hb.size fun k _ hk => hb.block k (Nat.lt_of_lt_of_le hk h.1)
end
/-- One more row behind rows of one's own. -/
theorem wp_appMineBT {t : TypeId} (h1t : OneCell t TBS) {o : Oper} {a : Act} {w : World} {K : Act → World → Prop} {Q : Exit → Act → World → Prop} (s x : Operand)
    (ho : o.op = .call { callee := .builtin .append, args := #[s, x], argTypes := #[t, t] }) (B T : Nat) (v : Value) (ll : List (List Bool)) (hs : a.eval s = v) (hown : MineB w B T v ll)
    (Bd : Nat) (A : Option Addr) (d : Nat) (h : Value) (y : List Bool) (hx : a.eval x = .slice A 1 d) (hr : Row w Bd A [h]) (B' : Nat) (hB : B' ≤ B) (hrow : Own1 TBo w B' h (bcells y))
    (hfr : ∀ k, h.ownBlock = some k → some k ≠ v.ownBlock ∧ (T ≤ k ∨ k < B)) (hlen : ll.length + 1 ≤ 1000000) (hbase : B ≤ w.heap.size)
    (hc : ∀ v' w', MineB w' B' w'.heap.size v' (ll ++ [y]) → w.grownBy w' v.ownBlock → (∀ k, v'.ownBlock = some k → B ≤ k) → K (a.put o.dst v') w') : o.wp Tryd.prog a w K Q := by
  obtain ⟨hT, hv, h0, h1, h2⟩ := hown
  have hone : h.oneCell' = true := by
    obtain ⟨A', c', e, _⟩ := hrow.form
    rw [e]; rfl
  refine wp_append1 h1t s x ho B v h0 hs h1 Bd A 1 d [h] rfl hx hr (fun u hu => by rw [List.mem_singleton.1 hu]; exact hone) (by rw [h2.1]; exact hlen) hbase fun v' w' a1 a2 a3 => hc v' w' ?_ a2 (fun k e => (a1.ob k e).1)
  refine ⟨Nat.le_refl _, fun k e => (a1.ob k e).2, h0 ++ [h], a1.less hB, ?_⟩
  have hl := h2.1
  have key : ∀ k, k < w.heap.size → some k ≠ v.ownBlock → w'.heap[k]? = w.heap[k]? ∧ some k ≠ v'.ownBlock := fun k h3 h4 => ⟨a2.block k h3 h4, by
    rcases a3 with e | e
    · rw [e]; exact h4
    · rw [e]; intro e2; injection e2 with e2; omega⟩
  have hz := a2.size
  refine ⟨by simp [hl], fun i hi => ?_, fun i j k hij hj e => ?_⟩
  · rcases (show i < ll.length ∨ i = ll.length by simp at hi; omega) with hi | hi
    · rw [getD_snoc_lt (by omega), getD_snoc_lt hi]
      obtain ⟨b1, b2⟩ := h2.2.1 i hi
      exact ⟨(b1.less hB).same fun k e => (key k (by have := (b2 k e).1; omega) (b2 k e).2).1, fun k e => ⟨by have := (b2 k e).1; omega, (key k (by have := (b2 k e).1; omega) (b2 k e).2).2⟩⟩
    · rw [getD_snoc_at (by omega), getD_snoc_at hi]
      exact ⟨hrow.same fun k e => (key k (hrow.ob k e).2 (hfr k e).1).1, fun k e => ⟨by have := (hrow.ob k e).2; omega, (key k (hrow.ob k e).2 (hfr k e).1).2⟩⟩
  · have hi : i < ll.length := by simp at hj; omega
    rw [getD_snoc_lt (by omega)] at e
    rcases (show j < ll.length ∨ j = ll.length by simp at hj; omega) with hj | hj
    · rw [getD_snoc_lt (by omega)]
      exact h2.2.2 i j k hij hj e
    · rw [getD_snoc_at (by omega)]
      intro e2
      obtain ⟨b1, b2⟩ := h2.2.1 i hi
      have := (b2 k e).1
      have := (b1.ob k e).1
      have := (hfr k e2).2
      omega
theorem appMineBT {t : TypeId} (h1t : OneCell t TBS) {ops : Array Oper} {rest : List Oper} {o : Oper} {a : Act} {w : World} {Q : Exit → Act → World → Prop} (hw : Region.wanted o (yielded ops a.tmps) = true) (s x : Operand)
    (ho : o.op = .call { callee := .builtin .append, args := #[s, x], argTypes := #[t, t] }) (B T : Nat) (v : Value) (ll : List (List Bool)) (hs : a.eval s = v) (hown : MineB w B T v ll)
    (Bd : Nat) (A : Option Addr) (d : Nat) (h : Value) (y : List Bool) (hx : a.eval x = .slice A 1 d) (hr : Row w Bd A [h]) (B' : Nat) (hB : B' ≤ B) (hrow : Own1 TBo w B' h (bcells y))
    (hfr : ∀ k, h.ownBlock = some k → some k ≠ v.ownBlock ∧ (T ≤ k ∨ k < B)) (hlen : ll.length + 1 ≤ 1000000) (hbase : B ≤ w.heap.size)
    (hc : ∀ v' w', MineB w' B' w'.heap.size v' (ll ++ [y]) → w.grownBy w' v.ownBlock → (∀ k, v'.ownBlock = some k → B ≤ k) → wpList Tryd.prog ops Q rest (a.put o.dst v') w') : wpList Tryd.prog ops Q (o :: rest) a w :=
  BigFrame.wpList_want hw fun _ hK => wp_appMineBT h1t s x ho B T v ll hs hown Bd A d h y hx hr B' hB hrow hfr hlen hbase fun v' w' h2 h3 h4 => hK _ _ (hc v' w' h2 h3 h4)
theorem appMineB {ops : Array Oper} {rest : List Oper} {o : Oper} {a : Act} {w : World} {Q : Exit → Act → World → Prop} (hw : Region.wanted o (yielded ops a.tmps) = true) (s x : Operand)
    (ho : o.op = .call { callee := .builtin .append, args := #[s, x], argTypes := #[TBSS, TBSS] }) (B T : Nat) (v : Value) (ll : List (List Bool)) (hs : a.eval s = v) (hown : MineB w B T v ll)
    (Bd : Nat) (A : Option Addr) (d : Nat) (h : Value) (y : List Bool) (hx : a.eval x = .slice A 1 d) (hr : Row w Bd A [h]) (B' : Nat) (hB : B' ≤ B) (hrow : Own1 TBo w B' h (bcells y))
    (hfr : ∀ k, h.ownBlock = some k → some k ≠ v.ownBlock ∧ (T ≤ k ∨ k < B)) (hlen : ll.length + 1 ≤ 1000000) (hbase : B ≤ w.heap.size)
    (hc : ∀ v' w', MineB w' B' w'.heap.size v' (ll ++ [y]) → w.grownBy w' v.ownBlock → (∀ k, v'.ownBlock = some k → B ≤ k) → wpList Tryd.prog ops Q rest (a.put o.dst v') w') : wpList Tryd.prog ops Q (o :: rest) a w :=
  appMineBT one_BSS hw s x ho B T v ll hs hown Bd A d h y hx hr B' hB hrow hfr hlen hbase hc
theorem mineB_new {w : World} {B : Nat} (hb : B ≤ w.heap.size) : MineB (w.alloc (.cells #[] TBS)) B (w.heap.size + 1) (.slice (some ⟨w.heap.size, 0, none⟩) 0 0) [] :=
  ⟨by simp, fun k e => by simp [Value.ownBlock] at e; omega, [], own1_new hb, RwsB.nil _ _ _ _⟩
theorem MineB.alloc {w : World} {B T : Nat} {v : Value} {ll : List (List Bool)} (h : MineB w B T v ll) (o : Obj) : MineB (w.alloc o) B T v ll := h.below ((Below.refl _ _).alloc (Nat.le_refl _) o)
theorem MineB.ob {w : World} {B T : Nat} {v : Value} {ll : List (List Bool)} (h : MineB w B T v ll) : ∀ k, v.ownBlock = some k → B ≤ k ∧ k < T := fun k e => by
  obtain ⟨_, hv, hs, ho, _⟩ := h
  exact ⟨(ho.ob k e).1, hv k e⟩
theorem MineB.up {w : World} {B T : Nat} {v : Value} {ll : List (List Bool)} (h : MineB w B T v ll) : MineB w B w.heap.size v ll := by
  obtain ⟨hT, hv, hs, ho, hr⟩ := h
  exact ⟨Nat.le_refl _, fun k e => by have := hv k e; omega, hs, ho, hr.1, fun i hi => ⟨(hr.2.1 i hi).1, fun k e => ⟨by have := ((hr.2.1 i hi).2 k e).1; omega, ((hr.2.1 i hi).2 k e).2⟩⟩, hr.2.2⟩
def IsM (w : World) (v : Value) (ll : List (List Bool)) : Prop := ∃ A c, v = .slice A ll.length c ∧ ll.length ≤ c ∧ c ≤ maxLen ∧ LB w w.heap.size A ll
abbrev InM (w : World) (B T : Nat) (v : Value) (ll : List (List Bool)) : Prop := MineB w B T v ll
section
variable {w w' : World} {B T : Nat} {v : Value} {ll : List (List Bool)}
theorem IsM.below (h : IsM w v ll) (hb : Below w.heap.size w w') : IsM w' v ll := by
  obtain ⟨A, c, hv, h1, h2, h3⟩ := h
  exact ⟨A, c, hv, h1, h2, h3.moved hb⟩
theorem MineB.is (h : MineB w B T v ll) : IsM w v ll := by
  obtain ⟨A, c, hv, h1, h2, h3⟩ := h.own.form
  exact ⟨A, c, hv, h1, h2, h3⟩
end
theorem MineB.cell {w : World} {B T : Nat} {v : Value} {ll : List (List Bool)} (h : MineB w B T v ll) {i j : Nat} (hi : i < ll.length) (hj : j < (ll.getD i []).length) :
    ∃ g c gi ci, v = .slice (some ⟨g, 0, none⟩) ll.length c ∧ w.cell? ⟨g, i, none⟩ = some (.slice (some ⟨gi, 0, none⟩) (ll.getD i []).length ci) ∧ (B ≤ g ∧ g < T) ∧ (B ≤ gi ∧ gi < T) ∧ g ≠ gi ∧
      w.cell? ⟨gi, j, none⟩ = some (.bool ((ll.getD i []).getD j false)) ∧ w.frozen? ⟨gi, j, none⟩ = false ∧ ∀ x : Bool, MineB (w.setCell ⟨gi, j, none⟩ (.bool x)) B T v (ll.set i ((ll.getD i []).set j x)) := by
  obtain ⟨hT, hv, hs, ho, hr⟩ := h
  have hl := hr.1
  obtain ⟨g, c, rfl⟩ := ho.slice (by omega)
  have hgT := hv g rfl
  have hgB := (ho.ob g rfl).1
  obtain ⟨hri, hbi⟩ := hr.2.1 i hi
  have hj' : j < (bcells (ll.getD i [])).length := by rw [bcells_len]; exact hj
  obtain ⟨gi, ci, hvi⟩ := hri.slice (by omega)
  rw [bcells_len] at hvi
  have hgi := hbi gi (by rw [hvi]; rfl)
  have hgiB := (hri.ob gi (by rw [hvi]; rfl)).1
  have hne : g ≠ gi := fun e => hgi.2 (by rw [e]; rfl)
  have hc0 : w.cell? ⟨g, i, none⟩ = hs[i]? := (ho.cellAt i (by omega)).1
  have hri2 := hri
  rw [hvi] at hri2
  obtain ⟨hc1, hf1⟩ := hri2.cellAt j hj'
  refine ⟨g, c, gi, ci, by rw [hl], by rw [hc0, getD_at hs nilS (by omega), hvi], ⟨hgB, hgT⟩, ⟨hgiB, hgi.1⟩, hne, by rw [hc1]; exact bcells_get hj, hf1, fun x => ?_⟩
  have hk : ∀ k, k ≠ gi → (w.setCell ⟨gi, j, none⟩ (.bool x)).heap[k]? = w.heap[k]? := fun k hk => Below.heap_setCell w ⟨gi, j, none⟩ _ k hk
  refine ⟨by simpa [World.setCell] using hT, hv, hs, ho.same fun k e => hk k fun ekg => hne (by have e2 : some g = some k := e; injection e2 with e2; omega), ⟨by rw [List.length_set]; exact hl, fun i' hi' => ?_, fun a b k hab hb => ?_⟩⟩
  · rw [List.length_set] at hi'
    by_cases e : i = i'
    · subst e
      have e1 : (ll.set i ((ll.getD i []).set j x)).getD i [] = (ll.getD i []).set j x := by rw [List.getD_eq_getElem?_getD, List.getElem?_set_self hi]; rfl
      rw [e1]
      refine ⟨?_, hbi⟩
      have := hri2.setAt j (.bool x)
      rw [hvi]
      have e2 : bcells ((ll.getD i []).set j x) = (bcells (ll.getD i [])).set j (.bool x) := by simp [bcells, List.map_set]
      rw [e2]; exact this
    · have e1 : (ll.set i ((ll.getD i []).set j x)).getD i' [] = ll.getD i' [] := by rw [List.getD_eq_getElem?_getD, List.getElem?_set_ne e, List.getD_eq_getElem?_getD]
      rw [e1]
      obtain ⟨h1, h2⟩ := hr.2.1 i' hi'
      refine ⟨h1.same fun k ek => hk k fun ekg => ?_, h2⟩
      subst ekg
      rcases Nat.lt_or_ge i i' with hlt | hge
      · exact hr.2.2 i i' k hlt hi' (by rw [hvi]; rfl) ek
      · exact hr.2.2 i' i k (by omega) hi ek (by rw [hvi]; rfl)
  · rw [List.length_set] at hb
    exact hr.2.2 a b k hab hb
end Go.Proofs.YtobgceebolmfcaaDoor
