/- Rows of integers that are somebody's own, each row apart from the others. Stores into slices of one's own. Ladders in memory, by their value. -/
import Derived.Test.YtobgceebolmfcaaDoorA1
import Derived.Test.YtobgceebolmfcaaDoorA2
namespace Go.Proofs.YtobgceebolmfcaaDoor
open Go.RowKit
abbrev TN : TypeId := 3
abbrev TI : TypeId := 30
abbrev TII : TypeId := 23
theorem one_I : OneCell TI TN := ⟨Tryd.underlying30, .int .i64 0, 8, by kernel_rfl, rfl, by omega⟩
theorem one_II : OneCell TII TI := ⟨Tryd.underlying23, .slice none 0 0, 24, by kernel_rfl, rfl, by omega⟩
def icells (x : List Int) : List Value := x.map (Value.int .i64)
theorem icells_len (x : List Int) : (icells x).length = x.length := by simp [icells]
theorem icells_app (x y : List Int) : icells (x ++ y) = icells x ++ icells y := by simp [icells]
theorem icells_one (x : List Int) : ∀ u ∈ icells x, u.oneCell' = true := by
  intro u hu; obtain ⟨v, _, rfl⟩ := List.mem_map.1 hu; rfl
theorem icells_get {x : List Int} {k : Nat} (hk : k < x.length) : (icells x)[k]? = some (.int .i64 (x.getD k 0)) := by
  rw [icells, List.getElem?_map, List.getElem?_eq_getElem hk, List.getD_eq_getElem?_getD, List.getElem?_eq_getElem hk]; rfl
theorem Row.int_ {w : World} {B : Nat} {A : Option Addr} {x : List Int} (h : Row w B A (icells x)) (k : Nat) (hk : k < x.length) :
    ∃ b o, A = some ⟨b, o, none⟩ ∧ b < B ∧ w.cell? ⟨b, o + k, none⟩ = some (.int .i64 (x.getD k 0)) := by
  rcases h with h | ⟨b, o, hA, hb, hc⟩
  · have := icells_len x; rw [h] at this; simp at this; omega
  · exact ⟨b, o, hA, hb, hc k _ (icells_get hk)⟩
/-- Each of the headers 'hs' leads to its row of 'll', in blocks from L on, none of them 'no'. -/
def Heads (w : World) (L : Nat) (no : Option Nat) (hs : List Value) (ll : List (List Int)) : Prop :=
  hs.length = ll.length ∧ ∀ i, i < ll.length → ∃ Ai ci, hs[i]? = some (.slice Ai (ll.getD i []).length ci) ∧ (ll.getD i []).length ≤ ci ∧ ci ≤ maxLen ∧
    (ll.getD i [] = [] ∨ ∃ b o, Ai = some ⟨b, o, none⟩ ∧ L ≤ b ∧ b < w.heap.size ∧ some b ≠ no ∧ ∀ j u, (icells (ll.getD i []))[j]? = some u → w.cell? ⟨b, o + j, none⟩ = some u)
theorem Heads.keep {w w' : World} {L : Nat} {no no' : Option Nat} {hs : List Value} {ll : List (List Int)} (h : Heads w L no hs ll) (hz : w.heap.size ≤ w'.heap.size)
    (hk : ∀ b, L ≤ b → b < w.heap.size → some b ≠ no → w'.heap[b]? = w.heap[b]? ∧ some b ≠ no') : Heads w' L no' hs ll :=
  ⟨h.1, fun i hi => by
    obtain ⟨Ai, ci, a1, a2, a3, a4⟩ := h.2 i hi
    refine ⟨Ai, ci, a1, a2, a3, ?_⟩
    rcases a4 with a4 | ⟨b, o, rfl, hb, hlt, hne, hc⟩
    · exact .inl a4
    · obtain ⟨k1, k2⟩ := hk b hb hlt hne
      exact .inr ⟨b, o, rfl, hb, by omega, k2, fun j u hu => (World.cell?_of_block (a := ⟨b, o + j, none⟩) k1).trans (hc j u hu)⟩⟩
theorem Heads.less {w : World} {L L' : Nat} {no : Option Nat} {hs : List Value} {ll : List (List Int)} (h : Heads w L no hs ll) (hL : L' ≤ L) : Heads w L' no hs ll :=
  ⟨h.1, fun i hi => by
    obtain ⟨Ai, ci, a1, a2, a3, a4⟩ := h.2 i hi
    refine ⟨Ai, ci, a1, a2, a3, ?_⟩
    rcases a4 with a4 | ⟨b, o, rfl, hb, r⟩
    · exact .inl a4
    · exact .inr ⟨b, o, rfl, by omega, r⟩⟩
theorem Heads.app {w : World} {L : Nat} {no : Option Nat} {hs hs2 : List Value} {ll ll2 : List (List Int)} (h : Heads w L no hs ll) (k : Heads w L no hs2 ll2) : Heads w L no (hs ++ hs2) (ll ++ ll2) := by
  refine ⟨by simp [h.1, k.1], fun i hi => ?_⟩
  by_cases hlt : i < ll.length
  · have e : (ll ++ ll2).getD i [] = ll.getD i [] := by rw [List.getD_eq_getElem?_getD, List.getElem?_append_left hlt, List.getD_eq_getElem?_getD]
    rw [e, List.getElem?_append_left (by rw [h.1]; exact hlt)]
    exact h.2 i hlt
  · have e : (ll ++ ll2).getD i [] = ll2.getD (i - ll.length) [] := by rw [List.getD_eq_getElem?_getD, List.getElem?_append_right (by omega), List.getD_eq_getElem?_getD]
    rw [e, List.getElem?_append_right (by rw [h.1]; omega), h.1]
    exact k.2 _ (by simp at hi; omega)
theorem Heads.nil (w : World) (L : Nat) (no : Option Nat) : Heads w L no [] [] := ⟨rfl, fun i hi => by simp at hi⟩
theorem Heads.cell1 {w : World} {L : Nat} {no : Option Nat} {hs : List Value} {ll : List (List Int)} (h : Heads w L no hs ll) : ∀ u ∈ hs, u.oneCell' = true := by
  intro u hu
  obtain ⟨i, hi, rfl⟩ := List.getElem_of_mem hu
  obtain ⟨Ai, ci, a1, _⟩ := h.2 i (by rw [← h.1]; exact hi)
  rw [List.getElem?_eq_getElem hi] at a1
  injection a1 with a1
  rw [a1]; rfl
/-- One row of one's own, as a header. -/
theorem Own1.head {w : World} {B L : Nat} {v : Value} {x : List Int} (h : Own1 TN w B v (icells x)) (hL : L ≤ B) (no : Option Nat) (hno : ∀ k, v.ownBlock = some k → some k ≠ no) : Heads w L no [v] [x] := by
  refine ⟨rfl, fun i hi => ?_⟩
  obtain rfl : i = 0 := by simp at hi; exact hi
  obtain ⟨A, c, rfl, h1, h2, hr, hB⟩ := h.form
  rw [icells_len] at *
  refine ⟨A, c, rfl, h1, h2, ?_⟩
  rcases hr with hr | ⟨b, o, rfl, hb, hc⟩
  · have := icells_len x; rw [hr] at this; exact .inl (List.eq_nil_of_length_eq_zero this.symm)
  · exact .inr ⟨b, o, rfl, Nat.le_trans hL (hB _ rfl), hb, hno b rfl, hc⟩
/-- The rows 'll' lie at A: their headers below B, their numbers, too. -/
def LL (w : World) (B : Nat) (A : Option Addr) (ll : List (List Int)) : Prop :=
  ∃ hs : List Value, hs.length = ll.length ∧ Row w B A hs ∧ ∀ i, i < ll.length → ∃ Ai ci, hs[i]? = some (.slice Ai (ll.getD i []).length ci) ∧ (ll.getD i []).length ≤ ci ∧ ci ≤ maxLen ∧ Row w B Ai (icells (ll.getD i []))
theorem LL.keep {w w' : World} {B : Nat} {A : Option Addr} {ll : List (List Int)} (h : LL w B A ll) (hk : ∀ b o, b < B → w'.cell? ⟨b, o, none⟩ = w.cell? ⟨b, o, none⟩) : LL w' B A ll := by
  obtain ⟨hs, h0, h1, h2⟩ := h
  exact ⟨hs, h0, h1.keep hk, fun i hi => by obtain ⟨Ai, ci, a1, a2, a3, a4⟩ := h2 i hi; exact ⟨Ai, ci, a1, a2, a3, a4.keep hk⟩⟩
theorem LL.more {w : World} {B B' : Nat} {A : Option Addr} {ll : List (List Int)} (h : LL w B A ll) (hB : B ≤ B') : LL w B' A ll := by
  obtain ⟨hs, h0, h1, h2⟩ := h
  exact ⟨hs, h0, h1.more hB, fun i hi => by obtain ⟨Ai, ci, a1, a2, a3, a4⟩ := h2 i hi; exact ⟨Ai, ci, a1, a2, a3, a4.more hB⟩⟩
theorem LL.below {w w' : World} {B B' : Nat} {A : Option Addr} {ll : List (List Int)} (h : LL w B A ll) (hb : Below B' w w') (hB : B ≤ B') : LL w' B A ll :=
  h.keep fun b o hlt => hb.cell (p := ⟨b, o, none⟩) (Nat.lt_of_lt_of_le hlt hB)
theorem LL.moved {w w' : World} {A : Option Addr} {ll : List (List Int)} (h : LL w w.heap.size A ll) (hb : Below w.heap.size w w') : LL w' w'.heap.size A ll := (h.below hb (Nat.le_refl _)).more hb.size
theorem LL.at_ {w : World} {B : Nat} {A : Option Addr} {ll : List (List Int)} (h : LL w B A ll) (k : Nat) (hk : k < ll.length) :
    ∃ b o Ai ci, A = some ⟨b, o, none⟩ ∧ b < B ∧ w.cell? ⟨b, o + k, none⟩ = some (.slice Ai (ll.getD k []).length ci) ∧ (ll.getD k []).length ≤ ci ∧ ci ≤ maxLen ∧ Row w B Ai (icells (ll.getD k [])) := by
  obtain ⟨hs, h0, h1, h2⟩ := h
  obtain ⟨Ai, ci, a1, a2, a3, a4⟩ := h2 k hk
  rcases h1 with h1 | ⟨b, o, hA, hb, hc⟩
  · rw [h1] at h0; simp at h0; omega
  · exact ⟨b, o, Ai, ci, hA, hb, hc k _ a1, a2, a3, a4⟩
theorem LL.nil (w : World) (B : Nat) (A : Option Addr) : LL w B A [] := ⟨[], rfl, .inl rfl, fun i hi => by simp at hi⟩
/-- The first rows. -/
theorem LL.front {w : World} {B : Nat} {A : Option Addr} {ll : List (List Int)} (h : LL w B A ll) (k : Nat) : LL w B A (ll.take k) := by
  obtain ⟨hs, h0, h1, h2⟩ := h
  refine ⟨hs.take k, by simp [h0], ?_, fun i hi => ?_⟩
  · rcases h1 with h1 | ⟨b, o, hA, hb, hc⟩
    · left; rw [h1]; simp
    · exact .inr ⟨b, o, hA, hb, fun j u hu => hc j u (by rw [List.getElem?_take] at hu; split at hu; exact hu; cases hu)⟩
  · have hik : i < k ∧ i < ll.length := by simp at hi; omega
    have e : (ll.take k).getD i [] = ll.getD i [] := by rw [List.getD_eq_getElem?_getD, List.getElem?_take, if_pos hik.1, List.getD_eq_getElem?_getD]
    rw [e, List.getElem?_take, if_pos hik.1]
    exact h2 i hik.2
/-- Rows of one's own: 'v' and what its headers lead to, which lies from L on, none of it in v's own block. -/
def OwnLL (w : World) (B L : Nat) (v : Value) (ll : List (List Int)) : Prop := ∃ hs, Own1 TI w B v hs ∧ Heads w L v.ownBlock hs ll
section
variable {w w' : World} {B L : Nat} {v : Value} {ll : List (List Int)}
theorem OwnLL.form (h : OwnLL w B L v ll) : ∃ A c, v = .slice A ll.length c ∧ ll.length ≤ c ∧ c ≤ maxLen ∧ LL w w.heap.size A ll := by
  obtain ⟨hs, h1, h2⟩ := h
  obtain ⟨A, c, rfl, a1, a2, hr, _⟩ := h1.form
  rw [h2.1] at *
  refine ⟨A, c, rfl, a1, a2, hs, h2.1, hr, fun i hi => ?_⟩
  obtain ⟨Ai, ci, b1, b2, b3, b4⟩ := h2.2 i hi
  refine ⟨Ai, ci, b1, b2, b3, ?_⟩
  rcases b4 with b4 | ⟨b, o, rfl, _, hlt, _, hc⟩
  · left; rw [b4]; rfl
  · exact .inr ⟨b, o, rfl, hlt, hc⟩
theorem OwnLL.kept {row : Option Nat} (h : OwnLL w B L v ll) (hg : w.grownBy w' row) (hB : ∀ k, row = some k → k < B) (hL : ∀ k, row = some k → k < L) : OwnLL w' B L v ll := by
  obtain ⟨hs, h1, h2⟩ := h
  refine ⟨hs, h1.kept hg fun k hk e => ?_, h2.keep hg.size fun b hb hlt hne => ⟨hg.block b hlt fun e => ?_, hne⟩⟩
  · have := hB k e.symm; have := (h1.ob k hk).1; omega
  · have := hL b e.symm; omega
theorem OwnLL.below (h : OwnLL w B L v ll) (hb : Below w.heap.size w w') : OwnLL w' B L v ll := by
  obtain ⟨hs, h1, h2⟩ := h
  exact ⟨hs, h1.below hb, h2.keep hb.size fun b _ hlt hne => ⟨hb.block b hlt, hne⟩⟩
theorem OwnLL.alloc (h : OwnLL w B L v ll) (o : Obj) : OwnLL (w.alloc o) B L v ll := h.below ((Below.refl _ _).alloc (Nat.le_refl _) o)
theorem OwnLL.less {B' L' : Nat} (h : OwnLL w B L v ll) (hB : B' ≤ B) (hL : L' ≤ L) : OwnLL w B' L' v ll := by
  obtain ⟨hs, h1, h2⟩ := h
  exact ⟨hs, h1.less hB, h2.less hL⟩
theorem OwnLL.ob (h : OwnLL w B L v ll) : ∀ g, v.ownBlock = some g → B ≤ g ∧ g < w.heap.size := by obtain ⟨hs, h1, _⟩ := h; exact h1.ob
theorem ownLL_new (hb : B ≤ w.heap.size) : OwnLL (w.alloc (.cells #[] TI)) B L (.slice (some ⟨w.heap.size, 0, none⟩) 0 0) [] := ⟨[], own1_new hb, Heads.nil _ _ _⟩
theorem ownLL_nil : OwnLL w B L (.slice none 0 0) [] := ⟨[], own1_nil _ _ _, Heads.nil _ _ _⟩
theorem below_ownLL {W : World} (hb : Below W.heap.size W w) (ho : OwnLL w W.heap.size L v ll) (hg : w.grownBy w' v.ownBlock) : Below W.heap.size W w' :=
  hb.grown hg hb.size fun g hg => (ho.ob g hg).1
/-- What 'append' makes of rows of one's own and headers at A. -/
theorem ownLL_app (hs : List Value) (_h1 : Own1 TI w B v hs) (h2 : Heads w L v.ownBlock hs ll) {hs2 : List Value} {ll2 : List (List Int)} (k : Heads w L v.ownBlock hs2 ll2) {v' : Value} (ho : Own1 TI w' B v' (hs ++ hs2)) (hg : w.grownBy w' v.ownBlock)
    (hat : v'.ownBlock = v.ownBlock ∨ v'.ownBlock = some w.heap.size) : OwnLL w' B L v' (ll ++ ll2) :=
  ⟨_, ho, (h2.app k).keep hg.size fun b _ hlt hne => ⟨hg.block b hlt hne, by
    rcases hat with e | e
    · rw [e]; exact hne
    · rw [e]; intro e2; injection e2 with e2; omega⟩⟩
theorem wp_appendLL {o : Oper} {a : Act} {w : World} {K : Act → World → Prop} {Q : Exit → Act → World → Prop} (s x : Operand)
    (ho : o.op = .call { callee := .builtin .append, args := #[s, x], argTypes := #[TII, TII] }) (B L : Nat) (v : Value) (ll : List (List Int)) (hs : a.eval s = v) (hown : OwnLL w B L v ll)
    (Bd : Nat) (A : Option Addr) (m d : Nat) (hs2 : List Value) (ll2 : List (List Int)) (hm : m = ll2.length) (hx : a.eval x = .slice A m d) (hr : Row w Bd A hs2) (hh : Heads w L v.ownBlock hs2 ll2) (hlen : ll.length + ll2.length ≤ 1000000) (hbase : B ≤ w.heap.size)
    (h : ∀ v' w', OwnLL w' B L v' (ll ++ ll2) → w.grownBy w' v.ownBlock → K (a.put o.dst v') w') : o.wp Tryd.prog a w K Q := by
  obtain ⟨h0, h1, h2⟩ := hown
  exact wp_append1 one_II s x ho B v h0 hs h1 Bd A m d hs2 (by rw [hm, hh.1]) hx hr hh.cell1 (by rw [h2.1, hh.1]; exact hlen) hbase fun v' w' a1 a2 a3 => h v' w' (ownLL_app h0 h1 h2 hh a1 a2 a3) a2
theorem appLL {ops : Array Oper} {rest : List Oper} {o : Oper} {a : Act} {w : World} {Q : Exit → Act → World → Prop} (hw : Region.wanted o (yielded ops a.tmps) = true) (s x : Operand)
    (ho : o.op = .call { callee := .builtin .append, args := #[s, x], argTypes := #[TII, TII] }) (B L : Nat) (v : Value) (ll : List (List Int)) (hs : a.eval s = v) (hown : OwnLL w B L v ll)
    (Bd : Nat) (A : Option Addr) (m d : Nat) (hs2 : List Value) (ll2 : List (List Int)) (hm : m = ll2.length) (hx : a.eval x = .slice A m d) (hr : Row w Bd A hs2) (hh : Heads w L v.ownBlock hs2 ll2) (hlen : ll.length + ll2.length ≤ 1000000) (hbase : B ≤ w.heap.size)
    (h : ∀ v' w', OwnLL w' B L v' (ll ++ ll2) → w.grownBy w' v.ownBlock → wpList Tryd.prog ops Q rest (a.put o.dst v') w') : wpList Tryd.prog ops Q (o :: rest) a w :=
  BigFrame.wpList_want hw fun _ hK => wp_appendLL s x ho B L v ll hs hown Bd A m d hs2 ll2 hm hx hr hh hlen hbase fun v' w' h2 h3 => hK _ _ (h v' w' h2 h3)
/-- Rows in memory as headers, for what is made behind them. -/
theorem LL.heads {W : World} {A : Option Addr} (h : LL W W.heap.size A ll) {w : World} (hb : Below W.heap.size W w) (no : Option Nat) (hno : ∀ k, no = some k → W.heap.size ≤ k) : ∃ hs, Row w W.heap.size A hs ∧ Heads w 0 no hs ll := by
  obtain ⟨hs, h0, h1, h2⟩ := h
  refine ⟨hs, h1.below hb (Nat.le_refl _), h0, fun i hi => ?_⟩
  obtain ⟨Ai, ci, a1, a2, a3, a4⟩ := h2 i hi
  refine ⟨Ai, ci, a1, a2, a3, ?_⟩
  rcases a4 with a4 | ⟨b, o, rfl, hlt, hc⟩
  · have := icells_len (ll.getD i []); rw [a4] at this; exact .inl (List.eq_nil_of_length_eq_zero this.symm)
  · exact .inr ⟨b, o, rfl, Nat.zero_le _, Nat.lt_of_lt_of_le hlt hb.size, fun e => by have := hno b e.symm; omega, fun j u hu => (hb.cell (p := ⟨b, o + j, none⟩) hlt).trans (hc j u hu)⟩
end
theorem OwnLL.ll {w : World} {B L : Nat} {A : Option Addr} {n c : Nat} {ll : List (List Int)} (h : OwnLL w B L (.slice A n c) ll) : LL w w.heap.size A ll := by
  obtain ⟨A', c', hv, _, _, hl⟩ := h.form
  injection hv with e1 e2 e3
  subst e1
  exact hl
/-- A value, and no more than draws. -/
def QR (v : Value) (w : World) (e : Ending) (w' : World) : Prop := e = .returned v ∧ ∃ m, w' = w.drewN m
theorem QR.draws {v : Value} {w : World} {m : Nat} {f : FuncId} {args : Array Value} (h : Calls Tryd.prog f args (w.drewN m) (QR v (w.drewN m))) : Calls Tryd.prog f args (w.drewN m) (QR v w) := Calls.quiet_of h
theorem l6In_q (x a b : Int) (t : Bool) (h : in3 x a b = t) (w : World) : Calls Tryd.prog 73 #[.int .i64 x, .int .i64 a, .int .i64 b] w (QR (.bool t) w) := by
  subst h; exact (l6In_any x a b w).mono fun e w' ⟨he, hw⟩ => ⟨he, 0, hw.symm⟩
theorem qret {v v' : Value} {w w' : World} (h : v = v') (m : Nat) (hw : w' = w.drewN m) : QR v' w (.returned v) w' := ⟨by rw [h], m, hw⟩
end Go.Proofs.YtobgceebolmfcaaDoor
namespace Go.Proofs.YtobgceebolmfcaaDoor
open Go.RowKit
end Go.Proofs.YtobgceebolmfcaaDoor
namespace Go.Proofs.YtobgceebolmfcaaDoor
open Go.RowKit
end Go.Proofs.YtobgceebolmfcaaDoor
namespace Go.Proofs.YtobgceebolmfcaaDoor
open Go.RowKit
theorem lad_len {ll : List (List Int)} (h : ladOk ll = true) : ll.length ≤ 3 := by
  simp only [ladOk, Bool.and_eq_true, decide_eq_true_eq] at h; exact h.1
theorem lad_step {ll : List (List Int)} (h : ladOk ll = true) (k : Nat) (hk : k < ll.length) : stepOk (ll.getD k []) = true := by
  simp only [ladOk, Bool.and_eq_true, all_range] at h
  have h2 := h.2 k hk
  simp only [rungAt, Bool.and_eq_true] at h2
  exact h2.1
theorem drewN_size (w : World) (n : Nat) : (w.drewN n).heap.size = w.heap.size := rfl
theorem Row.drewN {w : World} {B : Nat} {A : Option Addr} {cs : List Value} (h : Row w B A cs) (n : Nat) : Row (w.drewN n) B A cs := h
theorem LL.drewN {w : World} {B : Nat} {A : Option Addr} {ll : List (List Int)} (h : LL w B A ll) (n : Nat) : LL (w.drewN n) B A ll := h
def PairQ (x : Int) (t : Bool) (w : World) (e : Ending) (w' : World) : Prop := e = .returned (.tuple #[.int .i64 x, .bool t]) ∧ ∃ m, w' = w.drewN m
theorem codeOk_parts {ll : List (List Int)} {level code : Int} : codeOk ll level code = true ↔ ladOk ll = true ∧ in3 level 0 ll.length = true ∧ in3 code 0 3 = true := by
  simp only [codeOk, Bool.and_eq_true, and_assoc]
theorem in3_parts {x a b : Int} : in3 x a b = true ↔ a ≤ x ∧ x ≤ b := by simp [in3]
theorem codeOk_no {ll : List (List Int)} {level code : Int} (h : ¬ (ladOk ll = true ∧ in3 level 0 ll.length = true ∧ in3 code 0 3 = true)) : codeOk ll level code = false := by
  cases hc : codeOk ll level code
  · rfl
  · exact absurd (codeOk_parts.1 hc) h
theorem pair_no {ll : List (List Int)} {level code : Int} {w : World} (h : codeOk ll level code = false) (m : Nat) : PairQ (lcode ll level code) (codeOk ll level code) w (.returned (.tuple #[.int .i64 0, .bool false])) (w.drewN m) :=
  ⟨by simp [lcode, h], m, rfl⟩
theorem pair_yes {ll : List (List Int)} {level code : Int} {w : World} (h : codeOk ll level code = true) (m : Nat) : PairQ (lcode ll level code) (codeOk ll level code) w (.returned (.tuple #[.int .i64 (codeAt ll level code), .bool true])) (w.drewN m) :=
  ⟨by simp [lcode, h], m, rfl⟩
theorem groups_succ (ll : List (List Int)) (level : Int) (k : Nat) : groupsTo ll level (k + 1) = groupsTo ll level k + if codeAt ll level k = (k : Int) then 1 else 0 := by
  unfold groupsTo
  rw [List.range_succ, List.filter_append, List.length_append, List.filter_cons, List.filter_nil]
  by_cases h : codeAt ll level k = (k : Int)
  · simp [h]
  · simp [h]
theorem groups_bd (ll : List (List Int)) (level : Int) (k : Nat) : 0 ≤ groupsTo ll level k ∧ groupsTo ll level k ≤ k := by
  unfold groupsTo
  have := List.length_filter_le (fun i : Nat => codeAt ll level i == (i : Int)) (List.range k)
  simp at this
  omega
theorem groupOk_no {ll : List (List Int)} {level : Int} (h : ¬ (ladOk ll = true ∧ in3 level 0 ll.length = true)) : lgroups ll level = -1 := by
  unfold lgroups
  rw [if_neg (by simpa [groupOk] using h)]
end Go.Proofs.YtobgceebolmfcaaDoor
namespace Go.Proofs.YtobgceebolmfcaaDoor
open Go.RowKit
abbrev nilS : Value := .slice none 0 0
theorem Own1.same {T : TypeId} {w w' : World} {B : Nat} {v : Value} {cs : List Value} (h : Own1 T w B v cs) (hk : ∀ k, v.ownBlock = some k → w'.heap[k]? = w.heap[k]?) : Own1 T w' B v cs := by
  obtain ⟨h1, h2⟩ := h
  refine ⟨h1, ?_⟩
  rcases h2 with h2 | ⟨g, cap, cur, rfl, hg, hh, r⟩
  · exact .inl h2
  · exact .inr ⟨g, cap, cur, rfl, hg, (hk g rfl).trans hh, r⟩
/-- The headers 'hs' are rows of one's own, in blocks from B on below T, none of them 'no', no two of them one. -/
def Rws (w : World) (B T : Nat) (no : Option Nat) (hs : List Value) (ll : List (List Int)) : Prop :=
  hs.length = ll.length ∧ (∀ i, i < ll.length → Own1 TN w B (hs.getD i nilS) (icells (ll.getD i [])) ∧ ∀ k, (hs.getD i nilS).ownBlock = some k → k < T ∧ some k ≠ no) ∧
    ∀ i j k, i < j → j < ll.length → (hs.getD i nilS).ownBlock = some k → (hs.getD j nilS).ownBlock ≠ some k
def Mine (w : World) (B T : Nat) (v : Value) (ll : List (List Int)) : Prop := T ≤ w.heap.size ∧ (∀ k, v.ownBlock = some k → k < T) ∧ ∃ hs, Own1 TI w B v hs ∧ Rws w B T v.ownBlock hs ll
theorem getD_snoc_lt {α : Type} {l : List α} {x d : α} {i : Nat} (h : i < l.length) : (l ++ [x]).getD i d = l.getD i d := by
  rw [List.getD_eq_getElem?_getD, List.getElem?_append_left h, List.getD_eq_getElem?_getD]
theorem getD_snoc_at {α : Type} {l : List α} {x d : α} {i : Nat} (h : i = l.length) : (l ++ [x]).getD i d = x := by
  subst h; simp
section
variable {w w' : World} {B T : Nat} {no : Option Nat} {hs : List Value} {ll : List (List Int)}
theorem Rws.nil (w : World) (B T : Nat) (no : Option Nat) : Rws w B T no [] [] := ⟨rfl, fun i hi => by simp at hi, fun i j k _ hj => by simp at hj⟩
theorem Rws.same (h : Rws w B T no hs ll) (hk : ∀ k, B ≤ k → k < T → some k ≠ no → w'.heap[k]? = w.heap[k]?) : Rws w' B T no hs ll :=
  ⟨h.1, fun i hi => ⟨(h.2.1 i hi).1.same fun k e => hk k (((h.2.1 i hi).1.ob k e).1) ((h.2.1 i hi).2 k e).1 ((h.2.1 i hi).2 k e).2, (h.2.1 i hi).2⟩, h.2.2⟩
theorem Rws.snoc {T' : Nat} {v : Value} {x : List Int} (h : Rws w B T no hs ll) (ho : Own1 TN w B v (icells x)) (hT : T ≤ T') (hv : ∀ k, v.ownBlock = some k → T ≤ k ∧ k < T' ∧ some k ≠ no) : Rws w B T' no (hs ++ [v]) (ll ++ [x]) := by
  have hl := h.1
  refine ⟨by simp [hl], fun i hi => ?_, fun i j k hij hj e => ?_⟩
  · rcases (show i < ll.length ∨ i = ll.length by simp at hi; omega) with hi | hi
    · rw [getD_snoc_lt (by omega), getD_snoc_lt hi]
      exact ⟨(h.2.1 i hi).1, fun k e => ⟨by have := ((h.2.1 i hi).2 k e).1; omega, ((h.2.1 i hi).2 k e).2⟩⟩
    · rw [getD_snoc_at (by omega), getD_snoc_at hi]
      exact ⟨ho, fun k e => (hv k e).2⟩
  · have hi : i < ll.length := by simp at hj; omega
    rw [getD_snoc_lt (by omega)] at e
    rcases (show j < ll.length ∨ j = ll.length by simp at hj; omega) with hj | hj
    · rw [getD_snoc_lt (by omega)]
      exact h.2.2 i j k hij hj e
    · rw [getD_snoc_at (by omega)]
      intro e2
      have := ((h.2.1 i hi).2 k e).1
      have := (hv k e2).1
      omega
theorem Rws.heads (h : Rws w B T no hs ll) : Heads w B no hs ll := by
  refine ⟨h.1, fun i hi => ?_⟩
  obtain ⟨ho, hb⟩ := h.2.1 i hi
  obtain ⟨A, c, hv, h1, h2, hr, hB⟩ := ho.form
  have hi2 : i < hs.length := by rw [h.1]; exact hi
  have e : hs[i]? = some (hs.getD i nilS) := by rw [List.getD_eq_getElem?_getD, List.getElem?_eq_getElem hi2]; rfl
  rw [icells_len] at hv h1
  refine ⟨A, c, by rw [e, hv], h1, h2, ?_⟩
  rcases hr with hr | ⟨b, o, rfl, hlt, hc⟩
  · have := icells_len (ll.getD i []); rw [hr] at this; exact .inl (List.eq_nil_of_length_eq_zero this.symm)
  · exact .inr ⟨b, o, rfl, hB _ rfl, hlt, (hb b (by rw [hv]; rfl)).2, hc⟩
theorem Mine.own {v : Value} (h : Mine w B T v ll) : OwnLL w B B v ll := by
  obtain ⟨_, _, hs, ho, hr⟩ := h
  exact ⟨hs, ho, hr.heads⟩
theorem Mine.same {v : Value} (h : Mine w B T v ll) (hz : w.heap.size ≤ w'.heap.size) (hk : ∀ k, B ≤ k → k < T → w'.heap[k]? = w.heap[k]?) : Mine w' B T v ll := by
  obtain ⟨hT, hv, hs, ho, hr⟩ := h
  exact ⟨by omega, hv, hs, ho.same fun k e => hk k (ho.ob k e).1 (hv k e), hr.same fun k a b _ => hk k a b⟩
theorem Mine.below {v : Value} (h : Mine w B T v ll) (hb : Below w.heap.size w w') : Mine w' B T v ll :=
  h.same hb.size fun k _ hk => hb.block k (Nat.lt_of_lt_of_le hk h.1)
end
/-- One more row behind rows of one's own. -/
theorem wp_appMineT {t : TypeId} (h1t : OneCell t TI) {o : Oper} {a : Act} {w : World} {K : Act → World → Prop} {Q : Exit → Act → World → Prop} (s x : Operand)
    (ho : o.op = .call { callee := .builtin .append, args := #[s, x], argTypes := #[t, t] }) (B T : Nat) (v : Value) (ll : List (List Int)) (hs : a.eval s = v) (hown : Mine w B T v ll)
    (Bd : Nat) (A : Option Addr) (d : Nat) (h : Value) (y : List Int) (hx : a.eval x = .slice A 1 d) (hr : Row w Bd A [h]) (B' : Nat) (hB : B' ≤ B) (hrow : Own1 TN w B' h (icells y))
    (hfr : ∀ k, h.ownBlock = some k → some k ≠ v.ownBlock ∧ (T ≤ k ∨ k < B)) (hlen : ll.length + 1 ≤ 1000000) (hbase : B ≤ w.heap.size)
    (hc : ∀ v' w', Mine w' B' w'.heap.size v' (ll ++ [y]) → w.grownBy w' v.ownBlock → (∀ k, v'.ownBlock = some k → B ≤ k) → K (a.put o.dst v') w') : o.wp Tryd.prog a w K Q := by
  obtain ⟨hT, hv, h0, h1, h2⟩ := hown
  have hone : h.oneCell' = true := by
    obtain ⟨A', c', e, _⟩ := hrow.form
    rw [e]; rfl
  refine wp_append1 h1t s x ho B v h0 hs h1 Bd A 1 d [h] rfl hx hr (fun u hu => by rw [List.mem_singleton.1 hu]; exact hone) (by rw [h2.1]; exact hlen) hbase fun v' w' a1 a2 a3 => hc v' w' ?_ a2 (fun k e => (a1.ob k e).1)
  refine ⟨Nat.le_refl _, fun k e => (a1.ob k e).2, h0 ++ [h], a1.less hB, ?_⟩
  have hl := h2.1
  have key : ∀ k, k < w.heap.size → some k ≠ v.ownBlock → w'.heap[k]? = w.heap[k]? ∧ some k ≠ v'.ownBlock := fun k h3 h4 => ⟨a2.block k h3 h4, by
    rcases a3 with e | e
    · rw [e]; exact h4
    · rw [e]; intro e2; injection e2 with e2; omega⟩
  have hz := a2.size
  refine ⟨by simp [hl], fun i hi => ?_, fun i j k hij hj e => ?_⟩
  · rcases (show i < ll.length ∨ i = ll.length by simp at hi; omega) with hi | hi
    · rw [getD_snoc_lt (by omega), getD_snoc_lt hi]
      obtain ⟨b1, b2⟩ := h2.2.1 i hi
      exact ⟨(b1.less hB).same fun k e => (key k (by have := (b2 k e).1; omega) (b2 k e).2).1, fun k e => ⟨by have := (b2 k e).1; omega, (key k (by have := (b2 k e).1; omega) (b2 k e).2).2⟩⟩
    · rw [getD_snoc_at (by omega), getD_snoc_at hi]
      exact ⟨hrow.same fun k e => (key k (hrow.ob k e).2 (hfr k e).1).1, fun k e => ⟨by have := (hrow.ob k e).2; omega, (key k (hrow.ob k e).2 (hfr k e).1).2⟩⟩
  · have hi : i < ll.length := by simp at hj; omega
    rw [getD_snoc_lt (by omega)] at e
    rcases (show j < ll.length ∨ j = ll.length by simp at hj; omega) with hj | hj
    · rw [getD_snoc_lt (by omega)]
      exact h2.2.2 i j k hij hj e
    · rw [getD_snoc_at (by omega)]
      intro e2
      obtain ⟨b1, b2⟩ := h2.2.1 i hi
      have := (b2 k e).1
      have := (b1.ob k e).1
      have := (hfr k e2).2
      omega
theorem appMineT {t : TypeId} (h1t : OneCell t TI) {ops : Array Oper} {rest : List Oper} {o : Oper} {a : Act} {w : World} {Q : Exit → Act → World → Prop} (hw : Region.wanted o (yielded ops a.tmps) = true) (s x : Operand)
    (ho : o.op = .call { callee := .builtin .append, args := #[s, x], argTypes := #[t, t] }) (B T : Nat) (v : Value) (ll : List (List Int)) (hs : a.eval s = v) (hown : Mine w B T v ll)
    (Bd : Nat) (A : Option Addr) (d : Nat) (h : Value) (y : List Int) (hx : a.eval x = .slice A 1 d) (hr : Row w Bd A [h]) (B' : Nat) (hB : B' ≤ B) (hrow : Own1 TN w B' h (icells y))
    (hfr : ∀ k, h.ownBlock = some k → some k ≠ v.ownBlock ∧ (T ≤ k ∨ k < B)) (hlen : ll.length + 1 ≤ 1000000) (hbase : B ≤ w.heap.size)
    (hc : ∀ v' w', Mine w' B' w'.heap.size v' (ll ++ [y]) → w.grownBy w' v.ownBlock → (∀ k, v'.ownBlock = some k → B ≤ k) → wpList Tryd.prog ops Q rest (a.put o.dst v') w') : wpList Tryd.prog ops Q (o :: rest) a w :=
  BigFrame.wpList_want hw fun _ hK => wp_appMineT h1t s x ho B T v ll hs hown Bd A d h y hx hr B' hB hrow hfr hlen hbase fun v' w' h2 h3 h4 => hK _ _ (hc v' w' h2 h3 h4)
theorem appMine {ops : Array Oper} {rest : List Oper} {o : Oper} {a : Act} {w : World} {Q : Exit → Act → World → Prop} (hw : Region.wanted o (yielded ops a.tmps) = true) (s x : Operand)
    (ho : o.op = .call { callee := .builtin .append, args := #[s, x], argTypes := #[TII, TII] }) (B T : Nat) (v : Value) (ll : List (List Int)) (hs : a.eval s = v) (hown : Mine w B T v ll)
    (Bd : Nat) (A : Option Addr) (d : Nat) (h : Value) (y : List Int) (hx : a.eval x = .slice A 1 d) (hr : Row w Bd A [h]) (B' : Nat) (hB : B' ≤ B) (hrow : Own1 TN w B' h (icells y))
    (hfr : ∀ k, h.ownBlock = some k → some k ≠ v.ownBlock ∧ (T ≤ k ∨ k < B)) (hlen : ll.length + 1 ≤ 1000000) (hbase : B ≤ w.heap.size)
    (hc : ∀ v' w', Mine w' B' w'.heap.size v' (ll ++ [y]) → w.grownBy w' v.ownBlock → (∀ k, v'.ownBlock = some k → B ≤ k) → wpList Tryd.prog ops Q rest (a.put o.dst v') w') : wpList Tryd.prog ops Q (o :: rest) a w :=
  appMineT one_II hw s x ho B T v ll hs hown Bd A d h y hx hr B' hB hrow hfr hlen hbase hc
theorem mine_new {w : World} {B : Nat} (hb : B ≤ w.heap.size) : Mine (w.alloc (.cells #[] TI)) B (w.heap.size + 1) (.slice (some ⟨w.heap.size, 0, none⟩) 0 0) [] :=
  ⟨by simp, fun k e => by simp [Value.ownBlock] at e; omega, [], own1_new hb, Rws.nil _ _ _ _⟩
theorem Mine.alloc {w : World} {B T : Nat} {v : Value} {ll : List (List Int)} (h : Mine w B T v ll) (o : Obj) : Mine (w.alloc o) B T v ll := h.below ((Below.refl _ _).alloc (Nat.le_refl _) o)
theorem Mine.ob {w : World} {B T : Nat} {v : Value} {ll : List (List Int)} (h : Mine w B T v ll) : ∀ k, v.ownBlock = some k → B ≤ k ∧ k < T := fun k e => by
  obtain ⟨_, hv, hs, ho, _⟩ := h
  exact ⟨(ho.ob k e).1, hv k e⟩
theorem Mine.up {w : World} {B T : Nat} {v : Value} {ll : List (List Int)} (h : Mine w B T v ll) : Mine w B w.heap.size v ll := by
  obtain ⟨hT, hv, hs, ho, hr⟩ := h
  exact ⟨Nat.le_refl _, fun k e => by have := hv k e; omega, hs, ho, hr.1, fun i hi => ⟨(hr.2.1 i hi).1, fun k e => ⟨by have := ((hr.2.1 i hi).2 k e).1; omega, ((hr.2.1 i hi).2 k e).2⟩⟩, hr.2.2⟩
end Go.Proofs.YtobgceebolmfcaaDoor
namespace Go.Proofs.YtobgceebolmfcaaDoor
open Go.RowKit
theorem made_one (z : Value) (n : Nat) : (madeCells #[z] (n * 1)).toList = List.replicate n z := by
  refine List.ext_getElem? fun i => ?_
  by_cases hi : i < n * 1
  · simp only [madeCells, Array.toList_map, Array.toList_range, List.getElem?_map, List.getElem?_range hi, Option.map_some]
    rw [List.getElem?_replicate, if_pos (by omega)]
    simp [Nat.mod_one]
  · rw [List.getElem?_eq_none (by simp [madeCells]; omega), List.getElem?_eq_none (by simp; omega)]
section
variable {T : TypeId} {w w' : World} {B g n c : Nat} {cs : List Value}
theorem Own1.cellAt (h : Own1 T w B (.slice (some ⟨g, 0, none⟩) n c) cs) (k : Nat) (hk : k < cs.length) : w.cell? ⟨g, k, none⟩ = cs[k]? ∧ w.frozen? ⟨g, k, none⟩ = false := by
  rcases h.2 with ⟨hv, _⟩ | ⟨g', cap, cur, hv, _, hh, hnc, _, hsz, ht⟩
  · cases hv
  · injection hv with hv
    injection hv with hv
    injection hv with hv
    subst hv
    refine ⟨?_, frozen_of_row w g k _ _ hh⟩
    rw [cell_of_row w g k cur T (0, 0) hh, ← ht, List.getElem?_take, if_pos (by omega)]
    simp
theorem Own1.setAt (h : Own1 T w B (.slice (some ⟨g, 0, none⟩) n c) cs) (k : Nat) (u : Value) : Own1 T (w.setCell ⟨g, k, none⟩ u) B (.slice (some ⟨g, 0, none⟩) n c) (cs.set k u) := by
  obtain ⟨h1, h2⟩ := h
  rcases h2 with ⟨hv, _⟩ | ⟨g', cap, cur, hv, hg, hh, hnc, hc, hsz, ht⟩
  · cases hv
  · have hgg : g' = g ∧ cap = c ∧ n = cs.length := by
      injection hv with a1 a2 a3
      injection a1 with a1
      injection a1 with a1
      exact ⟨a1.symm, a3.symm, a2⟩
    obtain ⟨rfl, rfl, rfl⟩ := hgg
    refine ⟨by simp, .inr ⟨g', cap, cur.setIfInBounds k u, by rw [List.length_set], hg, ?_, by rw [List.length_set]; exact hnc, hc, by simpa using hsz, ?_⟩⟩
    · simp [World.setCell, Array.getElem?_modify, hh]
    · simp only [Array.toList_setIfInBounds, List.length_set, List.take_set]
      rw [ht]
end
theorem set_midv (l : List Value) (z : Value) (k : Nat) (hk : k < l.length) : (l.take k ++ List.replicate (l.length - k) z).set k l[k] = l.take (k + 1) ++ List.replicate (l.length - (k + 1)) z := by
  have e : l.length - k = (l.length - (k + 1)) + 1 := by omega
  have hl : (l.take k).length = k := by simp; omega
  rw [e, List.replicate_succ, List.set_append_right _ _ (by omega), hl, Nat.sub_self, List.set_cons_zero, List.take_succ_eq_append_getElem hk, List.append_assoc]; rfl
end Go.Proofs.YtobgceebolmfcaaDoor
namespace Go.Proofs.YtobgceebolmfcaaDoor
open Go.RowKit
def IsR (w : World) (v : Value) (ll : List (List Int)) : Prop := ∃ A c, v = .slice A ll.length c ∧ ll.length ≤ c ∧ c ≤ maxLen ∧ LL w w.heap.size A ll
abbrev InR (w : World) (B T : Nat) (v : Value) (ll : List (List Int)) : Prop := Mine w B T v ll
section
variable {w w' : World} {B T : Nat} {v : Value} {ll : List (List Int)}
theorem IsR.below (h : IsR w v ll) (hb : Below w.heap.size w w') : IsR w' v ll := by
  obtain ⟨A, c, hv, h1, h2, h3⟩ := h
  exact ⟨A, c, hv, h1, h2, h3.moved hb⟩
theorem Mine.is (h : Mine w B T v ll) : IsR w v ll := by
  obtain ⟨A, c, hv, h1, h2, h3⟩ := h.own.form
  exact ⟨A, c, hv, h1, h2, h3⟩
end
end Go.Proofs.YtobgceebolmfcaaDoor
