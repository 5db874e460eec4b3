import Derived.Test.YtbbgakbobefplaaK3
import Derived.Test.YtbbgakbobefplaaL0
namespace Go.Proofs.Ytbbgakbobefplaa
open Go.RowKit
abbrev TN : TypeId := 3
abbrev TI : TypeId := 78
abbrev TII : TypeId := 24
theorem one_I : OneCell TI TN := ⟨Try.underlying78, .int .i64 0, 8, by kernel_rfl, rfl, by omega⟩
theorem one_II : OneCell TII TI := ⟨Try.underlying24, .slice none 0 0, 24, by kernel_rfl, rfl, by omega⟩
def icells (x : List Int) : List Value := x.map (Value.int .i64)
theorem icells_len (x : List Int) : (icells x).length = x.length := by simp [icells]
theorem icells_app (x y : List Int) : icells (x ++ y) = icells x ++ icells y := by simp [icells]
theorem icells_one (x : List Int) : ∀ u ∈ icells x, u.oneCell' = true := by
  intro u hu; obtain ⟨v, _, rfl⟩ := List.mem_map.1 hu; rfl
theorem icells_get {x : List Int} {k : Nat} (hk : k < x.length) : (icells x)[k]? = some (.int .i64 (x.getD k 0)) := by
  rw [icells, List.getElem?_map, List.getElem?_eq_getElem hk, List.getD_eq_getElem?_getD, List.getElem?_eq_getElem hk]; rfl
theorem Row.int_ {w : World} {B : Nat} {A : Option Addr} {x : List Int} (h : Row w B A (icells x)) (k : Nat) (hk : k < x.length) :
    ∃ b o, A = some ⟨b, o, none⟩ ∧ b < B ∧ w.cell? ⟨b, o + k, none⟩ = some (.int .i64 (x.getD k 0)) := by
  rcases h with h | ⟨b, o, hA, hb, hc⟩
  · have := icells_len x; rw [h] at this; simp at this; omega
  · exact ⟨b, o, hA, hb, hc k _ (icells_get hk)⟩
/-- Each of the headers 'hs' leads to its row of 'll', in blocks from L on, none of them 'no'. -/
def Heads (w : World) (L : Nat) (no : Option Nat) (hs : List Value) (ll : List (List Int)) : Prop :=
  hs.length = ll.length ∧ ∀ i, i < ll.length → ∃ Ai ci, hs[i]? = some (.slice Ai (ll.getD i []).length ci) ∧ (ll.getD i []).length ≤ ci ∧ ci ≤ maxLen ∧
    (ll.getD i [] = [] ∨ ∃ b o, Ai = some ⟨b, o, none⟩ ∧ L ≤ b ∧ b < w.heap.size ∧ some b ≠ no ∧ ∀ j u, (icells (ll.getD i []))[j]? = some u → w.cell? ⟨b, o + j, none⟩ = some u)
theorem Heads.keep {w w' : World} {L : Nat} {no no' : Option Nat} {hs : List Value} {ll : List (List Int)} (h : Heads w L no hs ll) (hz : w.heap.size ≤ w'.heap.size)
    (hk : ∀ b, L ≤ b → b < w.heap.size → some b ≠ no → w'.heap[b]? = w.heap[b]? ∧ some b ≠ no') : Heads w' L no' hs ll :=
  ⟨h.1, fun i hi => by
    obtain ⟨Ai, ci, a1, a2, a3, a4⟩ := h.2 i hi
    refine ⟨Ai, ci, a1, a2, a3, ?_⟩
    rcases a4 with a4 | ⟨b, o, rfl, hb, hlt, hne, hc⟩
    · exact .inl a4
    · obtain ⟨k1, k2⟩ := hk b hb hlt hne
      exact .inr ⟨b, o, rfl, hb, by omega, k2, fun j u hu => (World.cell?_of_block (a := ⟨b, o + j, none⟩) k1).trans (hc j u hu)⟩⟩
theorem Heads.less {w : World} {L L' : Nat} {no : Option Nat} {hs : List Value} {ll : List (List Int)} (h : Heads w L no hs ll) (hL : L' ≤ L) : Heads w L' no hs ll :=
  ⟨h.1, fun i hi => by
    obtain ⟨Ai, ci, a1, a2, a3, a4⟩ := h.2 i hi
    refine ⟨Ai, ci, a1, a2, a3, ?_⟩
    rcases a4 with a4 | ⟨b, o, rfl, hb, r⟩
    · exact .inl a4
    · exact .inr ⟨b, o, rfl, by omega, r⟩⟩
theorem Heads.app {w : World} {L : Nat} {no : Option Nat} {hs hs2 : List Value} {ll ll2 : List (List Int)} (h : Heads w L no hs ll) (k : Heads w L no hs2 ll2) : Heads w L no (hs ++ hs2) (ll ++ ll2) := by
  refine ⟨by simp [h.1, k.1], fun i hi => ?_⟩
  by_cases hlt : i < ll.length
  · have e : (ll ++ ll2).getD i [] = ll.getD i [] := by rw [List.getD_eq_getElem?_getD, List.getElem?_append_left hlt, List.getD_eq_getElem?_getD]
    rw [e, List.getElem?_append_left (by rw [h.1]; exact hlt)]
    exact h.2 i hlt
  · have e : (ll ++ ll2).getD i [] = ll2.getD (i - ll.length) [] := by rw [List.getD_eq_getElem?_getD, List.getElem?_append_right (by omega), List.getD_eq_getElem?_getD]
    rw [e, List.getElem?_append_right (by rw [h.1]; omega), h.1]
    exact k.2 _ (by simp at hi; omega)
theorem Heads.nil (w : World) (L : Nat) (no : Option Nat) : Heads w L no [] [] := ⟨rfl, fun i hi => by simp at hi⟩
theorem Heads.cell1 {w : World} {L : Nat} {no : Option Nat} {hs : List Value} {ll : List (List Int)} (h : Heads w L no hs ll) : ∀ u ∈ hs, u.oneCell' = true := by
  intro u hu
  obtain ⟨i, hi, rfl⟩ := List.getElem_of_mem hu
  obtain ⟨Ai, ci, a1, _⟩ := h.2 i (by rw [← h.1]; exact hi)
  rw [List.getElem?_eq_getElem hi] at a1
  injection a1 with a1
  rw [a1]; rfl
/-- One row of one's own, as a header. -/
theorem Own1.head {w : World} {B L : Nat} {v : Value} {x : List Int} (h : Own1 TN w B v (icells x)) (hL : L ≤ B) (no : Option Nat) (hno : ∀ k, v.ownBlock = some k → some k ≠ no) : Heads w L no [v] [x] := by
  refine ⟨rfl, fun i hi => ?_⟩
  obtain rfl : i = 0 := by simp at hi; exact hi
  obtain ⟨A, c, rfl, h1, h2, hr, hB⟩ := h.form
  rw [icells_len] at *
  refine ⟨A, c, rfl, h1, h2, ?_⟩
  rcases hr with hr | ⟨b, o, rfl, hb, hc⟩
  · have := icells_len x; rw [hr] at this; exact .inl (List.eq_nil_of_length_eq_zero this.symm)
  · exact .inr ⟨b, o, rfl, Nat.le_trans hL (hB _ rfl), hb, hno b rfl, hc⟩
/-- The rows 'll' lie at A: their headers below B, their numbers, too. -/
def LL (w : World) (B : Nat) (A : Option Addr) (ll : List (List Int)) : Prop :=
  ∃ hs : List Value, hs.length = ll.length ∧ Row w B A hs ∧ ∀ i, i < ll.length → ∃ Ai ci, hs[i]? = some (.slice Ai (ll.getD i []).length ci) ∧ (ll.getD i []).length ≤ ci ∧ ci ≤ maxLen ∧ Row w B Ai (icells (ll.getD i []))
theorem LL.keep {w w' : World} {B : Nat} {A : Option Addr} {ll : List (List Int)} (h : LL w B A ll) (hk : ∀ b o, b < B → w'.cell? ⟨b, o, none⟩ = w.cell? ⟨b, o, none⟩) : LL w' B A ll := by
  obtain ⟨hs, h0, h1, h2⟩ := h
  exact ⟨hs, h0, h1.keep hk, fun i hi => by obtain ⟨Ai, ci, a1, a2, a3, a4⟩ := h2 i hi; exact ⟨Ai, ci, a1, a2, a3, a4.keep hk⟩⟩
theorem LL.more {w : World} {B B' : Nat} {A : Option Addr} {ll : List (List Int)} (h : LL w B A ll) (hB : B ≤ B') : LL w B' A ll := by
  obtain ⟨hs, h0, h1, h2⟩ := h
  exact ⟨hs, h0, h1.more hB, fun i hi => by obtain ⟨Ai, ci, a1, a2, a3, a4⟩ := h2 i hi; exact ⟨Ai, ci, a1, a2, a3, a4.more hB⟩⟩
theorem LL.below {w w' : World} {B B' : Nat} {A : Option Addr} {ll : List (List Int)} (h : LL w B A ll) (hb : Below B' w w') (hB : B ≤ B') : LL w' B A ll :=
  h.keep fun b o hlt => hb.cell (p := ⟨b, o, none⟩) (Nat.lt_of_lt_of_le hlt hB)
theorem LL.moved {w w' : World} {A : Option Addr} {ll : List (List Int)} (h : LL w w.heap.size A ll) (hb : Below w.heap.size w w') : LL w' w'.heap.size A ll := (h.below hb (Nat.le_refl _)).more hb.size
theorem LL.at_ {w : World} {B : Nat} {A : Option Addr} {ll : List (List Int)} (h : LL w B A ll) (k : Nat) (hk : k < ll.length) :
    ∃ b o Ai ci, A = some ⟨b, o, none⟩ ∧ b < B ∧ w.cell? ⟨b, o + k, none⟩ = some (.slice Ai (ll.getD k []).length ci) ∧ (ll.getD k []).length ≤ ci ∧ ci ≤ maxLen ∧ Row w B Ai (icells (ll.getD k [])) := by
  obtain ⟨hs, h0, h1, h2⟩ := h
  obtain ⟨Ai, ci, a1, a2, a3, a4⟩ := h2 k hk
  rcases h1 with h1 | ⟨b, o, hA, hb, hc⟩
  · rw [h1] at h0; simp at h0; omega
  · exact ⟨b, o, Ai, ci, hA, hb, hc k _ a1, a2, a3, a4⟩
theorem LL.nil (w : World) (B : Nat) (A : Option Addr) : LL w B A [] := ⟨[], rfl, .inl rfl, fun i hi => by simp at hi⟩
/-- The first rows. -/
theorem LL.front {w : World} {B : Nat} {A : Option Addr} {ll : List (List Int)} (h : LL w B A ll) (k : Nat) : LL w B A (ll.take k) := by
  obtain ⟨hs, h0, h1, h2⟩ := h
  refine ⟨hs.take k, by simp [h0], ?_, fun i hi => ?_⟩
  · rcases h1 with h1 | ⟨b, o, hA, hb, hc⟩
    · left; rw [h1]; simp
    · exact .inr ⟨b, o, hA, hb, fun j u hu => hc j u (by rw [List.getElem?_take] at hu; split at hu; exact hu; cases hu)⟩
  · have hik : i < k ∧ i < ll.length := by simp at hi; omega
    have e : (ll.take k).getD i [] = ll.getD i [] := by rw [List.getD_eq_getElem?_getD, List.getElem?_take, if_pos hik.1, List.getD_eq_getElem?_getD]
    rw [e, List.getElem?_take, if_pos hik.1]
    exact h2 i hik.2
/-- Rows of one's own: 'v' and what its headers lead to, which lies from L on, none of it in v's own block. -/
def OwnLL (w : World) (B L : Nat) (v : Value) (ll : List (List Int)) : Prop := ∃ hs, Own1 TI w B v hs ∧ Heads w L v.ownBlock hs ll
section
variable {w w' : World} {B L : Nat} {v : Value} {ll : List (List Int)}
theorem OwnLL.form (h : OwnLL w B L v ll) : ∃ A c, v = .slice A ll.length c ∧ ll.length ≤ c ∧ c ≤ maxLen ∧ LL w w.heap.size A ll := by
  obtain ⟨hs, h1, h2⟩ := h
  obtain ⟨A, c, rfl, a1, a2, hr, _⟩ := h1.form
  rw [h2.1] at *
  refine ⟨A, c, rfl, a1, a2, hs, h2.1, hr, fun i hi => ?_⟩
  obtain ⟨Ai, ci, b1, b2, b3, b4⟩ := h2.2 i hi
  refine ⟨Ai, ci, b1, b2, b3, ?_⟩
  rcases b4 with b4 | ⟨b, o, rfl, _, hlt, _, hc⟩
  · left; rw [b4]; rfl
  · exact .inr ⟨b, o, rfl, hlt, hc⟩
theorem OwnLL.kept {row : Option Nat} (h : OwnLL w B L v ll) (hg : w.grownBy w' row) (hB : ∀ k, row = some k → k < B) (hL : ∀ k, row = some k → k < L) : OwnLL w' B L v ll := by
  obtain ⟨hs, h1, h2⟩ := h
  refine ⟨hs, h1.kept hg fun k hk e => ?_, h2.keep hg.size fun b hb hlt hne => ⟨hg.block b hlt fun e => ?_, hne⟩⟩
  · have := hB k e.symm; have := (h1.ob k hk).1; omega
  · have := hL b e.symm; omega
theorem OwnLL.below (h : OwnLL w B L v ll) (hb : Below w.heap.size w w') : OwnLL w' B L v ll := by
  obtain ⟨hs, h1, h2⟩ := h
  exact ⟨hs, h1.below hb, h2.keep hb.size fun b _ hlt hne => ⟨hb.block b hlt, hne⟩⟩
theorem OwnLL.alloc (h : OwnLL w B L v ll) (o : Obj) : OwnLL (w.alloc o) B L v ll := h.below ((Below.refl _ _).alloc (Nat.le_refl _) o)
theorem OwnLL.less {B' L' : Nat} (h : OwnLL w B L v ll) (hB : B' ≤ B) (hL : L' ≤ L) : OwnLL w B' L' v ll := by
  obtain ⟨hs, h1, h2⟩ := h
  exact ⟨hs, h1.less hB, h2.less hL⟩
theorem OwnLL.ob (h : OwnLL w B L v ll) : ∀ g, v.ownBlock = some g → B ≤ g ∧ g < w.heap.size := by obtain ⟨hs, h1, _⟩ := h; exact h1.ob
theorem ownLL_new (hb : B ≤ w.heap.size) : OwnLL (w.alloc (.cells #[] TI)) B L (.slice (some ⟨w.heap.size, 0, none⟩) 0 0) [] := ⟨[], own1_new hb, Heads.nil _ _ _⟩
theorem ownLL_nil : OwnLL w B L (.slice none 0 0) [] := ⟨[], own1_nil _ _ _, Heads.nil _ _ _⟩
theorem below_ownLL {W : World} (hb : Below W.heap.size W w) (ho : OwnLL w W.heap.size L v ll) (hg : w.grownBy w' v.ownBlock) : Below W.heap.size W w' :=
  hb.grown hg hb.size fun g hg => (ho.ob g hg).1
/-- What 'append' makes of rows of one's own and headers at A. -/
theorem ownLL_app (hs : List Value) (_h1 : Own1 TI w B v hs) (h2 : Heads w L v.ownBlock hs ll) {hs2 : List Value} {ll2 : List (List Int)} (k : Heads w L v.ownBlock hs2 ll2) {v' : Value} (ho : Own1 TI w' B v' (hs ++ hs2)) (hg : w.grownBy w' v.ownBlock)
    (hat : v'.ownBlock = v.ownBlock ∨ v'.ownBlock = some w.heap.size) : OwnLL w' B L v' (ll ++ ll2) :=
  ⟨_, ho, (h2.app k).keep hg.size fun b _ hlt hne => ⟨hg.block b hlt hne, by
    rcases hat with e | e
    · rw [e]; exact hne
    · rw [e]; intro e2; injection e2 with e2; omega⟩⟩
theorem wp_appendLL {o : Oper} {a : Act} {w : World} {K : Act → World → Prop} {Q : Exit → Act → World → Prop} (s x : Operand)
    (ho : o.op = .call { callee := .builtin .append, args := #[s, x], argTypes := #[TII, TII] }) (B L : Nat) (v : Value) (ll : List (List Int)) (hs : a.eval s = v) (hown : OwnLL w B L v ll)
    (Bd : Nat) (A : Option Addr) (m d : Nat) (hs2 : List Value) (ll2 : List (List Int)) (hm : m = ll2.length) (hx : a.eval x = .slice A m d) (hr : Row w Bd A hs2) (hh : Heads w L v.ownBlock hs2 ll2) (hlen : ll.length + ll2.length ≤ 1000000) (hbase : B ≤ w.heap.size)
    (h : ∀ v' w', OwnLL w' B L v' (ll ++ ll2) → w.grownBy w' v.ownBlock → K (a.put o.dst v') w') : o.wp Try.prog a w K Q := by
  obtain ⟨h0, h1, h2⟩ := hown
  exact wp_append1 one_II s x ho B v h0 hs h1 Bd A m d hs2 (by rw [hm, hh.1]) hx hr hh.cell1 (by rw [h2.1, hh.1]; exact hlen) hbase fun v' w' a1 a2 a3 => h v' w' (ownLL_app h0 h1 h2 hh a1 a2 a3) a2
theorem appLL {ops : Array Oper} {rest : List Oper} {o : Oper} {a : Act} {w : World} {Q : Exit → Act → World → Prop} (hw : Region.wanted o (yielded ops a.tmps) = true) (s x : Operand)
    (ho : o.op = .call { callee := .builtin .append, args := #[s, x], argTypes := #[TII, TII] }) (B L : Nat) (v : Value) (ll : List (List Int)) (hs : a.eval s = v) (hown : OwnLL w B L v ll)
    (Bd : Nat) (A : Option Addr) (m d : Nat) (hs2 : List Value) (ll2 : List (List Int)) (hm : m = ll2.length) (hx : a.eval x = .slice A m d) (hr : Row w Bd A hs2) (hh : Heads w L v.ownBlock hs2 ll2) (hlen : ll.length + ll2.length ≤ 1000000) (hbase : B ≤ w.heap.size)
    (h : ∀ v' w', OwnLL w' B L v' (ll ++ ll2) → w.grownBy w' v.ownBlock → wpList Try.prog ops Q rest (a.put o.dst v') w') : wpList Try.prog ops Q (o :: rest) a w :=
  BigFrame.wpList_want hw fun _ hK => wp_appendLL s x ho B L v ll hs hown Bd A m d hs2 ll2 hm hx hr hh hlen hbase fun v' w' h2 h3 => hK _ _ (h v' w' h2 h3)
/-- Rows in memory as headers, for what is made behind them. -/
theorem LL.heads {W : World} {A : Option Addr} (h : LL W W.heap.size A ll) {w : World} (hb : Below W.heap.size W w) (no : Option Nat) (hno : ∀ k, no = some k → W.heap.size ≤ k) : ∃ hs, Row w W.heap.size A hs ∧ Heads w 0 no hs ll := by
  obtain ⟨hs, h0, h1, h2⟩ := h
  refine ⟨hs, h1.below hb (Nat.le_refl _), h0, fun i hi => ?_⟩
  obtain ⟨Ai, ci, a1, a2, a3, a4⟩ := h2 i hi
  refine ⟨Ai, ci, a1, a2, a3, ?_⟩
  rcases a4 with a4 | ⟨b, o, rfl, hlt, hc⟩
  · have := icells_len (ll.getD i []); rw [a4] at this; exact .inl (List.eq_nil_of_length_eq_zero this.symm)
  · exact .inr ⟨b, o, rfl, Nat.zero_le _, Nat.lt_of_lt_of_le hlt hb.size, fun e => by have := hno b e.symm; omega, fun j u hu => (hb.cell (p := ⟨b, o + j, none⟩) hlt).trans (hc j u hu)⟩
end
theorem OwnLL.ll {w : World} {B L : Nat} {A : Option Addr} {n c : Nat} {ll : List (List Int)} (h : OwnLL w B L (.slice A n c) ll) : LL w w.heap.size A ll := by
  obtain ⟨A', c', hv, _, _, hl⟩ := h.form
  injection hv with e1 e2 e3
  subst e1
  exact hl
/-- A value, and no more than draws. -/
def QR (v : Value) (w : World) (e : Ending) (w' : World) : Prop := e = .returned v ∧ ∃ m, w' = w.drewN m
theorem QR.draws {v : Value} {w : World} {m : Nat} {f : FuncId} {args : Array Value} (h : Calls Try.prog f args (w.drewN m) (QR v (w.drewN m))) : Calls Try.prog f args (w.drewN m) (QR v w) := Calls.quiet_of h
theorem l6In_q (x a b : Int) (t : Bool) (h : in3 x a b = t) (w : World) : Calls Try.prog 44 #[.int .i64 x, .int .i64 a, .int .i64 b] w (QR (.bool t) w) := by
  subst h; exact (l6In_any x a b w).mono fun e w' ⟨he, hw⟩ => ⟨he, 0, hw.symm⟩
theorem qret {v v' : Value} {w w' : World} (h : v = v') (m : Nat) (hw : w' = w.drewN m) : QR v' w (.returned v) w' := ⟨by rw [h], m, hw⟩
end Go.Proofs.Ytbbgakbobefplaa
