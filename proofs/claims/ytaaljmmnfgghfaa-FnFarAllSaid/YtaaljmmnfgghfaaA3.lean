/- Rows of integers that are somebody's own, each row apart from the others. Stores into slices of one's own. -/
import Derived.Test.YtaaljmmnfgghfaaA1
import Derived.Test.YtaaljmmnfgghfaaA2
namespace Go.Proofs.Ytaaljmmnfgghfaa
open Go.RowKit
abbrev TN : TypeId := 3
abbrev TI : TypeId := 36
abbrev TII : TypeId := 24
theorem one_I : OneCell TI TN := ⟨Try.underlying36, .int .i64 0, 8, by kernel_rfl, rfl, by omega⟩
theorem one_II : OneCell TII TI := ⟨Try.underlying24, .slice none 0 0, 24, by kernel_rfl, rfl, by omega⟩
def icells (x : List Int) : List Value := x.map (Value.int .i64)
theorem icells_len (x : List Int) : (icells x).length = x.length := by simp [icells]
theorem icells_app (x y : List Int) : icells (x ++ y) = icells x ++ icells y := by simp [icells]
theorem icells_one (x : List Int) : ∀ u ∈ icells x, u.oneCell' = true := by
  intro u hu; obtain ⟨v, _, rfl⟩ := List.mem_map.1 hu; rfl
theorem icells_get {x : List Int} {k : Nat} (hk : k < x.length) : (icells x)[k]? = some (.int .i64 (x.getD k 0)) := by
  rw [icells, List.getElem?_map, List.getElem?_eq_getElem hk, List.getD_eq_getElem?_getD, List.getElem?_eq_getElem hk]; rfl
theorem Row.int_ {w : World} {B : Nat} {A : Option Addr} {x : List Int} (h : Row w B A (icells x)) (k : Nat) (hk : k < x.length) :
    ∃ b o, A = some ⟨b, o, none⟩ ∧ b < B ∧ w.cell? ⟨b, o + k, none⟩ = some (.int .i64 (x.getD k 0)) := by
  rcases h with h | ⟨b, o, hA, hb, hc⟩
  · have := icells_len x; rw [h] at this; simp at this; omega
  · exact ⟨b, o, hA, hb, hc k _ (icells_get hk)⟩
/-- Each of the headers 'hs' leads to its row of 'll', in blocks from L on, none of them 'no'. -/
def Heads (w : World) (L : Nat) (no : Option Nat) (hs : List Value) (ll : List (List Int)) : Prop :=
  hs.length = ll.length ∧ ∀ i, i < ll.length → ∃ Ai ci, hs[i]? = some (.slice Ai (ll.getD i []).length ci) ∧ (ll.getD i []).length ≤ ci ∧ ci ≤ maxLen ∧
    (ll.getD i [] = [] ∨ ∃ b o, Ai = some ⟨b, o, none⟩ ∧ L ≤ b ∧ b < w.heap.size ∧ some b ≠ no ∧ ∀ j u, (icells (ll.getD i []))[j]? = some u → w.cell? ⟨b, o + j, none⟩ = some u)
theorem Heads.keep {w w' : World} {L : Nat} {no no' : Option Nat} {hs : List Value} {ll : List (List Int)} (h : Heads w L no hs ll) (hz : w.heap.size ≤ w'.heap.size)
    (hk : ∀ b, L ≤ b → b < w.heap.size → some b ≠ no → w'.heap[b]? = w.heap[b]? ∧ some b ≠ no') : Heads w' L no' hs ll :=
  ⟨h.1, fun i hi => by
    obtain ⟨Ai, ci, a1, a2, a3, a4⟩ := h.2 i hi
    refine ⟨Ai, ci, a1, a2, a3, ?_⟩
    rcases a4 with a4 | ⟨b, o, rfl, hb, hlt, hne, hc⟩
    · exact .inl a4
    · obtain ⟨k1, k2⟩ := hk b hb hlt hne
      exact .inr ⟨b, o, rfl, hb, by omega, k2, fun j u hu => (World.cell?_of_block (a := ⟨b, o + j, none⟩) k1).trans (hc j u hu)⟩⟩
theorem Heads.less {w : World} {L L' : Nat} {no : Option Nat} {hs : List Value} {ll : List (List Int)} (h : Heads w L no hs ll) (hL : L' ≤ L) : Heads w L' no hs ll :=
  ⟨h.1, fun i hi => by
    obtain ⟨Ai, ci, a1, a2, a3, a4⟩ := h.2 i hi
    refine ⟨Ai, ci, a1, a2, a3, ?_⟩
    rcases a4 with a4 | ⟨b, o, rfl, hb, r⟩
    · exact .inl a4
    · exact .inr ⟨b, o, rfl, by omega, r⟩⟩
theorem Heads.app {w : World} {L : Nat} {no : Option Nat} {hs hs2 : List Value} {ll ll2 : List (List Int)} (h : Heads w L no hs ll) (k : Heads w L no hs2 ll2) : Heads w L no (hs ++ hs2) (ll ++ ll2) := by
  refine ⟨by simp [h.1, k.1], fun i hi => ?_⟩
  by_cases hlt : i < ll.length
  · have e : (ll ++ ll2).getD i [] = ll.getD i [] := by rw [List.getD_eq_getElem?_getD, List.getElem?_append_left hlt, List.getD_eq_getElem?_getD]
    rw [e, List.getElem?_append_left (by rw [h.1]; exact hlt)]
    exact h.2 i hlt
  · have e : (ll ++ ll2).getD i [] = ll2.getD (i - ll.length) [] := by rw [List.getD_eq_getElem?_getD, List.getElem?_append_right (by omega), List.getD_eq_getElem?_getD]
    rw [e, List.getElem?_append_right (by rw [h.1]; omega), h.1]
    exact k.2 _ (by simp at hi; omega)
theorem Heads.nil (w : World) (L : Nat) (no : Option Nat) : Heads w L no [] [] := ⟨rfl, fun i hi => by simp at hi⟩
theorem Heads.cell1 {w : World} {L : Nat} {no : Option Nat} {hs : List Value} {ll : List (List Int)} (h : Heads w L no hs ll) : ∀ u ∈ hs, u.oneCell' = true := by
  intro u hu
  obtain ⟨i, hi, rfl⟩ := List.getElem_of_mem hu
  obtain ⟨Ai, ci, a1, _⟩ := h.2 i (by rw [← h.1]; exact hi)
  rw [List.getElem?_eq_getElem hi] at a1
  injection a1 with a1
  rw [a1]; rfl
/-- One row of one's own, as a header. -/
theorem Own1.head {w : World} {B L : Nat} {v : Value} {x : List Int} (h : Own1 TN w B v (icells x)) (hL : L ≤ B) (no : Option Nat) (hno : ∀ k, v.ownBlock = some k → some k ≠ no) : Heads w L no [v] [x] := by
  refine ⟨rfl, fun i hi => ?_⟩
  obtain rfl : i = 0 := by simp at hi; exact hi
  obtain ⟨A, c, rfl, h1, h2, hr, hB⟩ := h.form
  rw [icells_len] at *
  refine ⟨A, c, rfl, h1, h2, ?_⟩
  rcases hr with hr | ⟨b, o, rfl, hb, hc⟩
  · have := icells_len x; rw [hr] at this; exact .inl (List.eq_nil_of_length_eq_zero this.symm)
  · exact .inr ⟨b, o, rfl, Nat.le_trans hL (hB _ rfl), hb, hno b rfl, hc⟩
/-- The rows 'll' lie at A: their headers below B, their numbers, too. -/
def LL (w : World) (B : Nat) (A : Option Addr) (ll : List (List Int)) : Prop :=
  ∃ hs : List Value, hs.length = ll.length ∧ Row w B A hs ∧ ∀ i, i < ll.length → ∃ Ai ci, hs[i]? = some (.slice Ai (ll.getD i []).length ci) ∧ (ll.getD i []).length ≤ ci ∧ ci ≤ maxLen ∧ Row w B Ai (icells (ll.getD i []))
theorem LL.keep {w w' : World} {B : Nat} {A : Option Addr} {ll : List (List Int)} (h : LL w B A ll) (hk : ∀ b o, b < B → w'.cell? ⟨b, o, none⟩ = w.cell? ⟨b, o, none⟩) : LL w' B A ll := by
  obtain ⟨hs, h0, h1, h2⟩ := h
  exact ⟨hs, h0, h1.keep hk, fun i hi => by obtain ⟨Ai, ci, a1, a2, a3, a4⟩ := h2 i hi; exact ⟨Ai, ci, a1, a2, a3, a4.keep hk⟩⟩
theorem LL.more {w : World} {B B' : Nat} {A : Option Addr} {ll : List (List Int)} (h : LL w B A ll) (hB : B ≤ B') : LL w B' A ll := by
  obtain ⟨hs, h0, h1, h2⟩ := h
  exact ⟨hs, h0, h1.more hB, fun i hi => by obtain ⟨Ai, ci, a1, a2, a3, a4⟩ := h2 i hi; exact ⟨Ai, ci, a1, a2, a3, a4.more hB⟩⟩
theorem LL.below {w w' : World} {B B' : Nat} {A : Option Addr} {ll : List (List Int)} (h : LL w B A ll) (hb : Below B' w w') (hB : B ≤ B') : LL w' B A ll :=
  h.keep fun b o hlt => hb.cell (p := ⟨b, o, none⟩) (Nat.lt_of_lt_of_le hlt hB)
theorem LL.moved {w w' : World} {A : Option Addr} {ll : List (List Int)} (h : LL w w.heap.size A ll) (hb : Below w.heap.size w w') : LL w' w'.heap.size A ll := (h.below hb (Nat.le_refl _)).more hb.size
theorem LL.at_ {w : World} {B : Nat} {A : Option Addr} {ll : List (List Int)} (h : LL w B A ll) (k : Nat) (hk : k < ll.length) :
    ∃ b o Ai ci, A = some ⟨b, o, none⟩ ∧ b < B ∧ w.cell? ⟨b, o + k, none⟩ = some (.slice Ai (ll.getD k []).length ci) ∧ (ll.getD k []).length ≤ ci ∧ ci ≤ maxLen ∧ Row w B Ai (icells (ll.getD k [])) := by
  obtain ⟨hs, h0, h1, h2⟩ := h
  obtain ⟨Ai, ci, a1, a2, a3, a4⟩ := h2 k hk
  rcases h1 with h1 | ⟨b, o, hA, hb, hc⟩
  · rw [h1] at h0; simp at h0; omega
  · exact ⟨b, o, Ai, ci, hA, hb, hc k _ a1, a2, a3, a4⟩
theorem LL.nil (w : World) (B : Nat) (A : Option Addr) : LL w B A [] := ⟨[], rfl, .inl rfl, fun i hi => by simp at hi⟩
/-- The first rows. -/
theorem LL.front {w : World} {B : Nat} {A : Option Addr} {ll : List (List Int)} (h : LL w B A ll) (k : Nat) : LL w B A (ll.take k) := by
  obtain ⟨hs, h0, h1, h2⟩ := h
  refine ⟨hs.take k, by simp [h0], ?_, fun i hi => ?_⟩
  · rcases h1 with h1 | ⟨b, o, hA, hb, hc⟩
    · left; rw [h1]; simp
    · exact .inr ⟨b, o, hA, hb, fun j u hu => hc j u (by rw [List.getElem?_take] at hu; split at hu; exact hu; cases hu)⟩
  · have hik : i < k ∧ i < ll.length := by simp at hi; omega
    have e : (ll.take k).getD i [] = ll.getD i [] := by rw [List.getD_eq_getElem?_getD, List.getElem?_take, if_pos hik.1, List.getD_eq_getElem?_getD]
    rw [e, List.getElem?_take, if_pos hik.1]
    exact h2 i hik.2
/-- Rows of one's own: 'v' and what its headers lead to, which lies from L on, none of it in v's own block. -/
def OwnLL (w : World) (B L : Nat) (v : Value) (ll : List (List Int)) : Prop := ∃ hs, Own1 TI w B v hs ∧ Heads w L v.ownBlock hs ll
section
variable {w w' : World} {B L : Nat} {v : Value} {ll : List (List Int)}
theorem OwnLL.form (h : OwnLL w B L v ll) : ∃ A c, v = .slice A ll.length c ∧ ll.length ≤ c ∧ c ≤ maxLen ∧ LL w w.heap.size A ll := by
  obtain ⟨hs, h1, h2⟩ := h
  obtain ⟨A, c, rfl, a1, a2, hr, _⟩ := h1.form
  rw [h2.1] at *
  refine ⟨A, c, rfl, a1, a2, hs, h2.1, hr, fun i hi => ?_⟩
  obtain ⟨Ai, ci, b1, b2, b3, b4⟩ := h2.2 i hi
  refine ⟨Ai, ci, b1, b2, b3, ?_⟩
  rcases b4 with b4 | ⟨b, o, rfl, _, hlt, _, hc⟩
  · left; rw [b4]; rfl
  · exact .inr ⟨b, o, rfl, hlt, hc⟩
theorem OwnLL.kept {row : Option Nat} (h : OwnLL w B L v ll) (hg : w.grownBy w' row) (hB : ∀ k, row = some k → k < B) (hL : ∀ k, row = some k → k < L) : OwnLL w' B L v ll := by
  obtain ⟨hs, h1, h2⟩ := h
  refine ⟨hs, h1.kept hg fun k hk e => ?_, h2.keep hg.size fun b hb hlt hne => ⟨hg.block b hlt fun e => ?_, hne⟩⟩
  · have := hB k e.symm; have := (h1.ob k hk).1; omega
  · have := hL b e.symm; omega
theorem OwnLL.below (h : OwnLL w B L v ll) (hb : Below w.heap.size w w') : OwnLL w' B L v ll := by
  obtain ⟨hs, h1, h2⟩ := h
  exact ⟨hs, h1.below hb, h2.keep hb.size fun b _ hlt hne => ⟨hb.block b hlt, hne⟩⟩
theorem OwnLL.alloc (h : OwnLL w B L v ll) (o : Obj) : OwnLL (w.alloc o) B L v ll := h.below ((Below.refl _ _).alloc (Nat.le_refl _) o)
theorem OwnLL.less {B' L' : Nat} (h : OwnLL w B L v ll) (hB : B' ≤ B) (hL : L' ≤ L) : OwnLL w B' L' v ll := by
  obtain ⟨hs, h1, h2⟩ := h
  exact ⟨hs, h1.less hB, h2.less hL⟩
theorem OwnLL.ob (h : OwnLL w B L v ll) : ∀ g, v.ownBlock = some g → B ≤ g ∧ g < w.heap.size := by obtain ⟨hs, h1, _⟩ := h; exact h1.ob
theorem ownLL_new (hb : B ≤ w.heap.size) : OwnLL (w.alloc (.cells #[] TI)) B L (.slice (some ⟨w.heap.size, 0, none⟩) 0 0) [] := ⟨[], own1_new hb, Heads.nil _ _ _⟩
theorem ownLL_nil : OwnLL w B L (.slice none 0 0) [] := ⟨[], own1_nil _ _ _, Heads.nil _ _ _⟩
theorem below_ownLL {W : World} (hb : Below W.heap.size W w) (ho : OwnLL w W.heap.size L v ll) (hg : w.grownBy w' v.ownBlock) : Below W.heap.size W w' :=
  hb.grown hg hb.size fun g hg => (ho.ob g hg).1
/-- What 'append' makes of rows of one's own and headers at A. -/
theorem ownLL_app (hs : List Value) (_h1 : Own1 TI w B v hs) (h2 : Heads w L v.ownBlock hs ll) {hs2 : List Value} {ll2 : List (List Int)} (k : Heads w L v.ownBlock hs2 ll2) {v' : Value} (ho : Own1 TI w' B v' (hs ++ hs2)) (hg : w.grownBy w' v.ownBlock)
    (hat : v'.ownBlock = v.ownBlock ∨ v'.ownBlock = some w.heap.size) : OwnLL w' B L v' (ll ++ ll2) :=
  ⟨_, ho, (h2.app k).keep hg.size fun b _ hlt hne => ⟨hg.block b hlt hne, by
    rcases hat with e | e
    · rw [e]; exact hne
    · rw [e]; intro e2; injection e2 with e2; omega⟩⟩
theorem wp_appendLL {o : Oper} {a : Act} {w : World} {K : Act → World → Prop} {Q : Exit → Act → World → Prop} (s x : Operand)
    (ho : o.op = .call { callee := .builtin .append, args := #[s, x], argTypes := #[TII, TII] }) (B L : Nat) (v : Value) (ll : List (List Int)) (hs : a.eval s = v) (hown : OwnLL w B L v ll)
    (Bd : Nat) (A : Option Addr) (m d : Nat) (hs2 : List Value) (ll2 : List (List Int)) (hm : m = ll2.length) (hx : a.eval x = .slice A m d) (hr : Row w Bd A hs2) (hh : Heads w L v.ownBlock hs2 ll2) (hlen : ll.length + ll2.length ≤ 1000000) (hbase : B ≤ w.heap.size)
    (h : ∀ v' w', OwnLL w' B L v' (ll ++ ll2) → w.grownBy w' v.ownBlock → K (a.put o.dst v') w') : o.wp Try.prog a w K Q := by
  obtain ⟨h0, h1, h2⟩ := hown
  exact wp_append1 one_II s x ho B v h0 hs h1 Bd A m d hs2 (by rw [hm, hh.1]) hx hr hh.cell1 (by rw [h2.1, hh.1]; exact hlen) hbase fun v' w' a1 a2 a3 => h v' w' (ownLL_app h0 h1 h2 hh a1 a2 a3) a2
theorem appLL {ops : Array Oper} {rest : List Oper} {o : Oper} {a : Act} {w : World} {Q : Exit → Act → World → Prop} (hw : Region.wanted o (yielded ops a.tmps) = true) (s x : Operand)
    (ho : o.op = .call { callee := .builtin .append, args := #[s, x], argTypes := #[TII, TII] }) (B L : Nat) (v : Value) (ll : List (List Int)) (hs : a.eval s = v) (hown : OwnLL w B L v ll)
    (Bd : Nat) (A : Option Addr) (m d : Nat) (hs2 : List Value) (ll2 : List (List Int)) (hm : m = ll2.length) (hx : a.eval x = .slice A m d) (hr : Row w Bd A hs2) (hh : Heads w L v.ownBlock hs2 ll2) (hlen : ll.length + ll2.length ≤ 1000000) (hbase : B ≤ w.heap.size)
    (h : ∀ v' w', OwnLL w' B L v' (ll ++ ll2) → w.grownBy w' v.ownBlock → wpList Try.prog ops Q rest (a.put o.dst v') w') : wpList Try.prog ops Q (o :: rest) a w :=
  BigFrame.wpList_want hw fun _ hK => wp_appendLL s x ho B L v ll hs hown Bd A m d hs2 ll2 hm hx hr hh hlen hbase fun v' w' h2 h3 => hK _ _ (h v' w' h2 h3)
/-- Rows in memory as headers, for what is made behind them. -/
theorem LL.heads {W : World} {A : Option Addr} (h : LL W W.heap.size A ll) {w : World} (hb : Below W.heap.size W w) (no : Option Nat) (hno : ∀ k, no = some k → W.heap.size ≤ k) : ∃ hs, Row w W.heap.size A hs ∧ Heads w 0 no hs ll := by
  obtain ⟨hs, h0, h1, h2⟩ := h
  refine ⟨hs, h1.below hb (Nat.le_refl _), h0, fun i hi => ?_⟩
  obtain ⟨Ai, ci, a1, a2, a3, a4⟩ := h2 i hi
  refine ⟨Ai, ci, a1, a2, a3, ?_⟩
  rcases a4 with a4 | ⟨b, o, rfl, hlt, hc⟩
  · have := icells_len (ll.getD i []); rw [a4] at this; exact .inl (List.eq_nil_of_length_eq_zero this.symm)
  · exact .inr ⟨b, o, rfl, Nat.zero_le _, Nat.lt_of_lt_of_le hlt hb.size, fun e => by have := hno b e.symm; omega, fun j u hu => (hb.cell (p := ⟨b, o + j, none⟩) hlt).trans (hc j u hu)⟩
end
theorem OwnLL.ll {w : World} {B L : Nat} {A : Option Addr} {n c : Nat} {ll : List (List Int)} (h : OwnLL w B L (.slice A n c) ll) : LL w w.heap.size A ll := by
  obtain ⟨A', c', hv, _, _, hl⟩ := h.form
  injection hv with e1 e2 e3
  subst e1
  exact hl
/-- A value, and no more than draws. -/
def QR (v : Value) (w : World) (e : Ending) (w' : World) : Prop := e = .returned v ∧ ∃ m, w' = w.drewN m
theorem QR.draws {v : Value} {w : World} {m : Nat} {f : FuncId} {args : Array Value} (h : Calls Try.prog f args (w.drewN m) (QR v (w.drewN m))) : Calls Try.prog f args (w.drewN m) (QR v w) := Calls.quiet_of h
theorem l6In_q (x a b : Int) (t : Bool) (h : in3 x a b = t) (w : World) : Calls Try.prog 42 #[.int .i64 x, .int .i64 a, .int .i64 b] w (QR (.bool t) w) := by
  subst h; exact (l6In_any x a b w).mono fun e w' ⟨he, hw⟩ => ⟨he, 0, hw.symm⟩
theorem qret {v v' : Value} {w w' : World} (h : v = v') (m : Nat) (hw : w' = w.drewN m) : QR v' w (.returned v) w' := ⟨by rw [h], m, hw⟩
end Go.Proofs.Ytaaljmmnfgghfaa
namespace Go.Proofs.Ytaaljmmnfgghfaa
open Go.RowKit
theorem sStep_any (x : List Int) (A : Option Addr) (c : Nat) (w : World) (hr : Row w w.heap.size A (icells x)) (hl : x.length ≤ maxLen) :
    Calls Try.prog 68 #[.slice A x.length c] w (QR (.bool (stepOk x)) w) := by
  unfold maxLen at hl
  go_enter Try.func68, Try.ntmps68
  go_wp2
  go_loopw [3] (fun i wr => ∃ k m : Nat, k ≤ x.length ∧ i = .int .i64 k ∧ (∀ j, j < k → stepAt x j = true) ∧ wr = w.drewN m) (fun i _ => x.length - (intOf i).toNat)
  case atStart => exact ⟨0, 0, Nat.zero_le _, rfl, by simp, rfl⟩
  case round =>
    obtain ⟨k, m, hk, rfl, hall, hw⟩ := hrel
    have HW := Lib.hid hw; clear hw
    have HALL := Lib.hid hall; clear hall
    by_cases hlt : k < x.length
    · have hki : (k : Int) < (x.length : Int) := by omega
      obtain ⟨b, o, rfl, hb, c0⟩ := hr.int_ k hlt
      obtain ⟨a, ha⟩ : ∃ a, x.getD k 0 = a := ⟨_, rfl⟩
      rw [ha] at c0
      have c0' : wr.cell? ⟨b, o + k, none⟩ = some (.int .i64 a) := by rw [HW.out]; exact c0
      have HA := Lib.hid ha; clear ha
      cases hin : in3 a 0 k
      · have HIN := Lib.hid hin; clear hin
        go_wp2_with fail
        go_quiet (first | (go_at_call 42; refine Calls.quiet_of (l6In_q _ _ _ false HIN.out _)))
        go_wp2
        go_ret
        refine ⟨retb ?_, m + nq, by rw [HW.out, World.drewN_drewN]⟩
        rw [stepOk, all_range_no k hlt (by rw [stepAt, HA.out, HIN.out]; rfl), Bool.and_false]
      · have hin2 : 0 ≤ a ∧ a ≤ k := by simpa [in3] using hin
        obtain ⟨v, hv⟩ := Int.eq_ofNat_of_zero_le hin2.1
        have hvk : v < x.length := by omega
        obtain ⟨b2, o2, hA2, _, c1⟩ := hr.int_ v hvk
        injection hA2 with hA2
        injection hA2 with h1 h2 _
        subst h1 h2
        have c1' : wr.cell? ⟨b, o + v, none⟩ = some (.int .i64 (x.getD v 0)) := by rw [HW.out]; exact c1
        have HIN := Lib.hid hin; clear hin
        have hst : stepAt x k = decide (x.getD v 0 = (v : Int)) := by rw [stepAt, HA.out, HIN.out, hv]; simp [ig]
        have HST := Lib.hid hst; clear hst
        rw [hv] at c0' hin2 HIN
        have hvi : (v : Int) < (x.length : Int) := by omega
        clear c0 c1 hv hr HA
        generalize x.getD v 0 = y at *
        by_cases hy : y = v
        · subst hy
          go_wp2_with fail
          go_quiet (first | (go_at_call 42; refine Calls.quiet_of (l6In_q _ _ _ true HIN.out _)))
          go_wp2
          go_roundw
          case rel =>
            refine ⟨k + 1, m + nq, by omega, by go_num, fun j hj => ?_, by rw [HW.out, World.drewN_drewN]⟩
            by_cases hjk : j < k
            · exact HALL.out j hjk
            · obtain rfl : j = k := by omega
              rw [HST.out]; simp
          case measure => simp [intOf]; omega
        · go_wp2_with fail
          go_quiet (first | (go_at_call 42; refine Calls.quiet_of (l6In_q _ _ _ true HIN.out _)))
          go_wp2
          go_ret
          refine ⟨retb ?_, m + nq, by rw [HW.out, World.drewN_drewN]⟩
          rw [stepOk, all_range_no k hlt (by rw [HST.out]; simp [hy]), Bool.and_false]
    · go_wp2
      go_ret
      refine ⟨retb ?_, m, HW.out⟩
      rw [stepOk, all_range.2 fun j hj => HALL.out j (by omega), Bool.and_true]
      rw [Bool.eq_iff_iff]; simp; omega
theorem sCoarser_any (f x : List Int) (hf : stepOk f = true) (hx : stepOk x = true) (A B : Option Addr) (n1 n2 c d : Nat) (h1 : n1 = f.length) (h2 : n2 = x.length) (w : World) (ha : Row w w.heap.size A (icells f)) (hb : Row w w.heap.size B (icells x)) :
    Calls Try.prog 69 #[.slice A n1 c, .slice B n2 d] w (QR (.bool (coarser f x)) w) := by
  obtain ⟨hf1, hf2⟩ := stepOk_vals hf
  obtain ⟨hx1, hx2⟩ := stepOk_vals hx
  rw [hf1] at h1
  rw [hx1] at h2
  subst h1 h2
  have HF := Lib.hid hf2; clear hf2
  go_enter Try.func69, Try.ntmps69
  go_wp2
  go_loopw [5] (fun i wr => ∃ k m : Nat, k ≤ 4 ∧ i = .int .i64 k ∧ (∀ j, j < k → cAt f x j = true) ∧ wr = w.drewN m) (fun i _ => 4 - (intOf i).toNat)
  case atStart => exact ⟨0, 0, Nat.zero_le _, rfl, by simp, rfl⟩
  case round =>
    obtain ⟨k, m, hk, rfl, hall, hw⟩ := hrel
    have HW := Lib.hid hw; clear hw
    have HALL := Lib.hid hall; clear hall
    by_cases hlt : k < 4
    · have hki : (k : Int) < 4 := by omega
      obtain ⟨b, o, rfl, _, c0⟩ := ha.int_ k (by omega)
      obtain ⟨v, hv, hvk, _⟩ := HF.out k hlt
      rw [hv] at c0
      obtain ⟨b2, o2, rfl, _, c1⟩ := hb.int_ v (by omega)
      obtain ⟨b3, o3, hA3, _, c2⟩ := hb.int_ k (by omega)
      injection hA3 with hA3
      injection hA3 with e1 e2 _
      subst e1 e2
      have hst : cAt f x k = decide (x.getD v 0 = x.getD k 0) := by rw [cAt, hv]; simp [ig]
      have HST := Lib.hid hst; clear hst
      have c0' : wr.cell? ⟨b, o + k, none⟩ = some (.int .i64 v) := by rw [HW.out]; exact c0
      have c1' : wr.cell? ⟨b2, o2 + v, none⟩ = some (.int .i64 (x.getD v 0)) := by rw [HW.out]; exact c1
      have c2' : wr.cell? ⟨b2, o2 + k, none⟩ = some (.int .i64 (x.getD k 0)) := by rw [HW.out]; exact c2
      have hv4 : (v : Int) < 4 := by omega
      clear c0 c1 c2 hv ha hb hf hx
      generalize x.getD v 0 = y at *
      generalize x.getD k 0 = z at *
      clear hf1 hx1
      by_cases hy : y = z
      · subst hy
        go_wp2_with fail
        go_quiet (fail)
        go_wp2
        go_roundw
        case rel =>
          refine ⟨k + 1, m + nq, by omega, by go_num, fun j hj => ?_, by rw [HW.out, World.drewN_drewN]⟩
          by_cases hjk : j < k
          · exact HALL.out j hjk
          · obtain rfl : j = k := by omega
            rw [HST.out]; simp
        case measure => simp [intOf]; omega
      · have hyd : (y == z) = false := by rw [beq_eq_false_iff_ne]; exact hy
        have hyd2 : (y != z) = true := by rw [bne_iff_ne]; exact hy
        go_wp2_with fail
        go_quiet (fail)
        go_wp2
        go_ret
        refine ⟨retb ?_, m + nq, by rw [HW.out, World.drewN_drewN]⟩
        rw [coarser, all_range_no k hlt (by rw [HST.out]; simp [hy])]
    · go_wp2
      go_ret
      refine ⟨retb ?_, m, HW.out⟩
      rw [coarser, all_range.2 fun j hj => HALL.out j (by omega)]
theorem sStep_at (x : List Int) (n : Nat) (hn : n = x.length) (A : Option Addr) (c : Nat) (w : World) (hr : Row w w.heap.size A (icells x)) (hl : x.length ≤ maxLen) (t : Bool) (ht : stepOk x = t) :
    Calls Try.prog 68 #[.slice A n c] w (QR (.bool t) w) := by subst hn ht; exact sStep_any x A c w hr hl
theorem sCoarser_at (f x : List Int) (hf : stepOk f = true) (hx : stepOk x = true) (A B : Option Addr) (n1 n2 c d : Nat) (h1 : n1 = f.length) (h2 : n2 = x.length) (w : World) (ha : Row w w.heap.size A (icells f)) (hb : Row w w.heap.size B (icells x)) (t : Bool) (ht : coarser f x = t) :
    Calls Try.prog 69 #[.slice A n1 c, .slice B n2 d] w (QR (.bool t) w) := by subst ht; exact sCoarser_any f x hf hx A B n1 n2 c d h1 h2 w ha hb
end Go.Proofs.Ytaaljmmnfgghfaa
namespace Go.Proofs.Ytaaljmmnfgghfaa
open Go.RowKit
theorem sLadder_any (ll : List (List Int)) (A : Option Addr) (c : Nat) (w : World) (hr : LL w w.heap.size A ll) (hl : ll.length ≤ maxLen) :
    Calls Try.prog 65 #[.slice A ll.length c] w (QR (.bool (ladOk ll)) w) := by
  unfold maxLen at hl
  go_enter Try.func65, Try.ntmps65
  go_wp2
  go_loopw [3] (fun i wr => ∃ k m : Nat, k ≤ ll.length ∧ i = .int .i64 k ∧ (∀ j, j < k → rungAt ll j = true) ∧ wr = w.drewN m) (fun i _ => ll.length - (intOf i).toNat)
  case atStart => exact ⟨0, 0, Nat.zero_le _, rfl, by simp, rfl⟩
  case round =>
    obtain ⟨k, m, hk, rfl, hall, hw⟩ := hrel
    have HW := Lib.hid hw; clear hw
    have HALL := Lib.hid hall; clear hall
    by_cases hlt : k < ll.length
    · have hki : (k : Int) < (ll.length : Int) := by omega
      obtain ⟨b, o, Ai, ci, rfl, hb, c0, h1, h2, r0⟩ := hr.at_ k hlt
      have c0' : wr.cell? ⟨b, o + k, none⟩ = some (.slice Ai (ll.getD k []).length ci) := by rw [HW.out]; exact c0
      clear c0
      have r0' : Row wr wr.heap.size Ai (icells (ll.getD k [])) := by rw [HW.out]; exact r0
      obtain ⟨x, hx⟩ : ∃ x, ll.getD k [] = x := ⟨_, rfl⟩
      have hxl : (ll.getD k []).length ≤ maxLen := by omega
      rw [hx] at c0' r0' hxl
      have HX := Lib.hid hx; clear hx
      obtain ⟨n, hn⟩ : ∃ n, n = x.length := ⟨_, rfl⟩
      rw [← hn] at c0'
      have HN := Lib.hid hn; clear hn
      clear r0
      cases hst : stepOk x
      · have HST := Lib.hid hst; clear hst
        go_wp2_with fail
        go_quiet (first | (go_at_call 68; refine Calls.quiet_of (sStep_at x n HN.out _ _ _ ?_ hxl false HST.out); exact r0'))
        go_wp2
        go_ret
        refine ⟨retb ?_, m + nq, by rw [HW.out, World.drewN_drewN]⟩
        rw [ladOk, all_range_no k hlt (by rw [rungAt, HX.out, HST.out]; rfl), Bool.and_false]
      · have HST := Lib.hid hst; clear hst
        by_cases hk0 : k = 0
        · subst hk0
          have c00 : wr.cell? ⟨b, o, none⟩ = some (.slice Ai n ci) := by simpa using c0'
          have h00 : (0 : Int) < (ll.length : Int) := by omega
          have h01 : 0 < ll.length := hlt
          go_wp2_with fail
          go_quiet (first | (go_at_call 68; refine Calls.quiet_of (sStep_at x n HN.out _ _ _ ?_ hxl true HST.out); exact r0'))
          go_wp2
          go_roundw
          case rel =>
            refine ⟨1, m + nq, by omega, by go_num, fun j hj => ?_, by rw [HW.out, World.drewN_drewN]⟩
            obtain rfl : j = 0 := by omega
            rw [rungAt, HX.out, HST.out]; rfl
          case measure => simp [intOf]; omega
        · obtain ⟨q, rfl⟩ : ∃ q, k = q + 1 := ⟨k - 1, by omega⟩
          obtain ⟨b', o', Ag, cg, hA, _, c1, g1, g2, r1⟩ := hr.at_ q (by omega)
          injection hA with hA
          injection hA with e1 e2 _
          subst e1 e2
          have c1' : wr.cell? ⟨b, o + q, none⟩ = some (.slice Ag (ll.getD q []).length cg) := by rw [HW.out]; exact c1
          have r1' : Row wr wr.heap.size Ag (icells (ll.getD q [])) := by rw [HW.out]; exact r1
          have hq := HALL.out q (by omega)
          simp only [rungAt, Bool.and_eq_true] at hq
          obtain ⟨f, hf⟩ : ∃ f, ll.getD q [] = f := ⟨_, rfl⟩
          have hfo := hq.1
          rw [hf] at c1' r1' hfo
          have HF := Lib.hid hf
          obtain ⟨n2, hn2⟩ : ∃ n2, n2 = f.length := ⟨_, rfl⟩
          rw [← hn2] at c1'
          have HN2 := Lib.hid hn2
          have HFO := Lib.hid hfo
          clear hn2 hfo hf hq c1 r1 hk0 hr
          have hq0 : (0 : Int) < ((q + 1 : Nat) : Int) := by omega
          have hwr : IntKind.i64.wrap (((q + 1 : Nat) : Int) - 1) = (q : Int) := by rw [IntWalk.i64_in _ (by omega)]; omega
          cases hco : coarser f x
          · have HCO := Lib.hid hco; clear hco
            go_wp2_with fail
            go_quiet (first
              | (go_at_call 68; refine Calls.quiet_of (sStep_at x n HN.out _ _ _ ?_ hxl true HST.out); exact r0')
              | (go_at_call 69; refine Calls.quiet_of (sCoarser_at f x HFO.out HST.out _ _ n2 n _ _ HN2.out HN.out _ ?_ ?_ false HCO.out); exact r1'; exact r0'))
            clear hwr
            go_wp2
            go_ret
            refine ⟨retb ?_, m + nq, by rw [HW.out, World.drewN_drewN]⟩
            rw [ladOk, all_range_no (q + 1) hlt (by rw [rungAt, HX.out, HST.out, Nat.add_sub_cancel, HF.out, HCO.out]; simp), Bool.and_false]
          · have HCO := Lib.hid hco; clear hco
            go_wp2_with fail
            go_quiet (first
              | (go_at_call 68; refine Calls.quiet_of (sStep_at x n HN.out _ _ _ ?_ hxl true HST.out); exact r0')
              | (go_at_call 69; refine Calls.quiet_of (sCoarser_at f x HFO.out HST.out _ _ n2 n _ _ HN2.out HN.out _ ?_ ?_ true HCO.out); exact r1'; exact r0'))
            clear hwr
            go_wp2
            go_roundw
            case rel =>
              refine ⟨q + 2, m + nq, by omega, by go_num, fun j hj => ?_, by rw [HW.out, World.drewN_drewN]⟩
              by_cases hjk : j < q + 1
              · exact HALL.out j hjk
              · obtain rfl : j = q + 1 := by omega
                rw [rungAt, HX.out, HST.out, Nat.add_sub_cancel, HF.out, HCO.out]; simp
            case measure => simp [intOf]; omega
    · go_wp2
      go_ret
      refine ⟨retb ?_, m, HW.out⟩
      rw [ladOk, all_range.2 fun j hj => HALL.out j (by omega), Bool.and_true]
      rw [Bool.eq_iff_iff]; simp; try omega
end Go.Proofs.Ytaaljmmnfgghfaa
namespace Go.Proofs.Ytaaljmmnfgghfaa
open Go.RowKit
theorem lad_len {ll : List (List Int)} (h : ladOk ll = true) : ll.length ≤ 3 := by
  simp only [ladOk, Bool.and_eq_true, decide_eq_true_eq] at h; exact h.1
theorem lad_step {ll : List (List Int)} (h : ladOk ll = true) (k : Nat) (hk : k < ll.length) : stepOk (ll.getD k []) = true := by
  simp only [ladOk, Bool.and_eq_true, all_range] at h
  have h2 := h.2 k hk
  simp only [rungAt, Bool.and_eq_true] at h2
  exact h2.1
theorem drewN_size (w : World) (n : Nat) : (w.drewN n).heap.size = w.heap.size := rfl
theorem Row.drewN {w : World} {B : Nat} {A : Option Addr} {cs : List Value} (h : Row w B A cs) (n : Nat) : Row (w.drewN n) B A cs := h
theorem LL.drewN {w : World} {B : Nat} {A : Option Addr} {ll : List (List Int)} (h : LL w B A ll) (n : Nat) : LL (w.drewN n) B A ll := h
theorem sCode_any (ll : List (List Int)) (hok : ladOk ll = true) (A : Option Addr) (n c : Nat) (hn : n = ll.length) (level code : Int) (l0 : 0 ≤ level) (l1 : level ≤ ll.length) (c0 : 0 ≤ code) (c1 : code ≤ 3) (w : World) (hr : LL w w.heap.size A ll) :
    Calls Try.prog 58 #[.slice A n c, .int .i64 level, .int .i64 code] w fun e w' => e = .returned (.int .i64 (codeAt ll level code)) ∧ w = w' := by
  have h3 := lad_len hok
  by_cases h0 : level = 0
  · subst h0
    go_enter Try.func58, Try.ntmps58
    go_wp2
    go_ret
    exact ⟨rfl, rfl⟩
  · obtain ⟨q, rfl⟩ : ∃ q : Nat, level = ((q + 1 : Nat) : Int) := ⟨(level - 1).toNat, by omega⟩
    obtain ⟨v, rfl⟩ := Int.eq_ofNat_of_zero_le c0
    have hq : q < ll.length := by omega
    obtain ⟨b, o, Ai, ci, rfl, hb, d0, g1, g2, r0⟩ := hr.at_ q hq
    have hst := (stepOk_vals (lad_step hok q hq)).1
    obtain ⟨b2, o2, rfl, hb2, d1⟩ := r0.int_ v (by omega)
    have hv : codeAt ll ((q + 1 : Nat) : Int) v = (ll.getD q []).getD v 0 := by
      rw [codeAt, if_neg (by omega)]
      have e : ((((q + 1 : Nat) : Int) - 1).toNat) = q := by omega
      rw [e]; simp [ig]
    rw [hst] at d0
    have HV := Lib.hid hv; clear hv
    generalize (ll.getD q []).getD v 0 = x at *
    have hqi : (q : Int) < (n : Int) := by omega
    have hv4 : (v : Int) < 4 := by omega
    clear hst r0 hr hn g1 g2 h0
    go_enter Try.func58, Try.ntmps58
    go_wp2
    go_ret
    exact ⟨reti HV.out.symm, rfl⟩
theorem sLadder_at (ll : List (List Int)) (n : Nat) (hn : n = ll.length) (A : Option Addr) (c : Nat) (w : World) (hr : LL w w.heap.size A ll) (hl : ll.length ≤ maxLen) :
    Calls Try.prog 65 #[.slice A n c] w (QR (.bool (ladOk ll)) w) := by subst hn; exact sLadder_any ll A c w hr hl
def PairQ (x : Int) (t : Bool) (w : World) (e : Ending) (w' : World) : Prop := e = .returned (.tuple #[.int .i64 x, .bool t]) ∧ ∃ m, w' = w.drewN m
theorem codeOk_parts {ll : List (List Int)} {level code : Int} : codeOk ll level code = true ↔ ladOk ll = true ∧ in3 level 0 ll.length = true ∧ in3 code 0 3 = true := by
  simp only [codeOk, Bool.and_eq_true, and_assoc]
theorem in3_parts {x a b : Int} : in3 x a b = true ↔ a ≤ x ∧ x ≤ b := by simp [in3]
theorem codeOk_no {ll : List (List Int)} {level code : Int} (h : ¬ (ladOk ll = true ∧ in3 level 0 ll.length = true ∧ in3 code 0 3 = true)) : codeOk ll level code = false := by
  cases hc : codeOk ll level code
  · rfl
  · exact absurd (codeOk_parts.1 hc) h
theorem pair_no {ll : List (List Int)} {level code : Int} {w : World} (h : codeOk ll level code = false) (m : Nat) : PairQ (lcode ll level code) (codeOk ll level code) w (.returned (.tuple #[.int .i64 0, .bool false])) (w.drewN m) :=
  ⟨by simp [lcode, h], m, rfl⟩
theorem pair_yes {ll : List (List Int)} {level code : Int} {w : World} (h : codeOk ll level code = true) (m : Nat) : PairQ (lcode ll level code) (codeOk ll level code) w (.returned (.tuple #[.int .i64 (codeAt ll level code), .bool true])) (w.drewN m) :=
  ⟨by simp [lcode, h], m, rfl⟩
theorem groups_succ (ll : List (List Int)) (level : Int) (k : Nat) : groupsTo ll level (k + 1) = groupsTo ll level k + if codeAt ll level k = (k : Int) then 1 else 0 := by
  unfold groupsTo
  rw [List.range_succ, List.filter_append, List.length_append, List.filter_cons, List.filter_nil]
  by_cases h : codeAt ll level k = (k : Int)
  · simp [h]
  · simp [h]
theorem groups_bd (ll : List (List Int)) (level : Int) (k : Nat) : 0 ≤ groupsTo ll level k ∧ groupsTo ll level k ≤ k := by
  unfold groupsTo
  have := List.length_filter_le (fun i : Nat => codeAt ll level i == (i : Int)) (List.range k)
  simp at this
  omega
theorem groupOk_no {ll : List (List Int)} {level : Int} (h : ¬ (ladOk ll = true ∧ in3 level 0 ll.length = true)) : lgroups ll level = -1 := by
  unfold lgroups
  rw [if_neg (by simpa [groupOk] using h)]
end Go.Proofs.Ytaaljmmnfgghfaa
namespace Go.Proofs.Ytaaljmmnfgghfaa
open Go.RowKit
abbrev nilS : Value := .slice none 0 0
theorem Own1.same {T : TypeId} {w w' : World} {B : Nat} {v : Value} {cs : List Value} (h : Own1 T w B v cs) (hk : ∀ k, v.ownBlock = some k → w'.heap[k]? = w.heap[k]?) : Own1 T w' B v cs := by
  obtain ⟨h1, h2⟩ := h
  refine ⟨h1, ?_⟩
  rcases h2 with h2 | ⟨g, cap, cur, rfl, hg, hh, r⟩
  · exact .inl h2
  · exact .inr ⟨g, cap, cur, rfl, hg, (hk g rfl).trans hh, r⟩
/-- The headers 'hs' are rows of one's own, in blocks from B on below T, none of them 'no', no two of them one. -/
def Rws (w : World) (B T : Nat) (no : Option Nat) (hs : List Value) (ll : List (List Int)) : Prop :=
  hs.length = ll.length ∧ (∀ i, i < ll.length → Own1 TN w B (hs.getD i nilS) (icells (ll.getD i [])) ∧ ∀ k, (hs.getD i nilS).ownBlock = some k → k < T ∧ some k ≠ no) ∧
    ∀ i j k, i < j → j < ll.length → (hs.getD i nilS).ownBlock = some k → (hs.getD j nilS).ownBlock ≠ some k
def Mine (w : World) (B T : Nat) (v : Value) (ll : List (List Int)) : Prop := T ≤ w.heap.size ∧ (∀ k, v.ownBlock = some k → k < T) ∧ ∃ hs, Own1 TI w B v hs ∧ Rws w B T v.ownBlock hs ll
theorem getD_snoc_lt {α : Type} {l : List α} {x d : α} {i : Nat} (h : i < l.length) : (l ++ [x]).getD i d = l.getD i d := by
  rw [List.getD_eq_getElem?_getD, List.getElem?_append_left h, List.getD_eq_getElem?_getD]
theorem getD_snoc_at {α : Type} {l : List α} {x d : α} {i : Nat} (h : i = l.length) : (l ++ [x]).getD i d = x := by
  subst h; simp
section
variable {w w' : World} {B T : Nat} {no : Option Nat} {hs : List Value} {ll : List (List Int)}
theorem Rws.nil (w : World) (B T : Nat) (no : Option Nat) : Rws w B T no [] [] := ⟨rfl, fun i hi => by simp at hi, fun i j k _ hj => by simp at hj⟩
theorem Rws.same (h : Rws w B T no hs ll) (hk : ∀ k, B ≤ k → k < T → some k ≠ no → w'.heap[k]? = w.heap[k]?) : Rws w' B T no hs ll :=
  ⟨h.1, fun i hi => ⟨(h.2.1 i hi).1.same fun k e => hk k (((h.2.1 i hi).1.ob k e).1) ((h.2.1 i hi).2 k e).1 ((h.2.1 i hi).2 k e).2, (h.2.1 i hi).2⟩, h.2.2⟩
theorem Rws.snoc {T' : Nat} {v : Value} {x : List Int} (h : Rws w B T no hs ll) (ho : Own1 TN w B v (icells x)) (hT : T ≤ T') (hv : ∀ k, v.ownBlock = some k → T ≤ k ∧ k < T' ∧ some k ≠ no) : Rws w B T' no (hs ++ [v]) (ll ++ [x]) := by
  have hl := h.1
  refine ⟨by simp [hl], fun i hi => ?_, fun i j k hij hj e => ?_⟩
  · rcases (show i < ll.length ∨ i = ll.length by simp at hi; omega) with hi | hi
    · rw [getD_snoc_lt (by omega), getD_snoc_lt hi]
      exact ⟨(h.2.1 i hi).1, fun k e => ⟨by have := ((h.2.1 i hi).2 k e).1; omega, ((h.2.1 i hi).2 k e).2⟩⟩
    · rw [getD_snoc_at (by omega), getD_snoc_at hi]
      exact ⟨ho, fun k e => (hv k e).2⟩
  · have hi : i < ll.length := by simp at hj; omega
    rw [getD_snoc_lt (by omega)] at e
    rcases (show j < ll.length ∨ j = ll.length by simp at hj; omega) with hj | hj
    · rw [getD_snoc_lt (by omega)]
      exact h.2.2 i j k hij hj e
    · rw [getD_snoc_at (by omega)]
      intro e2
      have := ((h.2.1 i hi).2 k e).1
      have := (hv k e2).1
      omega
theorem Rws.heads (h : Rws w B T no hs ll) : Heads w B no hs ll := by
  refine ⟨h.1, fun i hi => ?_⟩
  obtain ⟨ho, hb⟩ := h.2.1 i hi
  obtain ⟨A, c, hv, h1, h2, hr, hB⟩ := ho.form
  have hi2 : i < hs.length := by rw [h.1]; exact hi
  have e : hs[i]? = some (hs.getD i nilS) := by rw [List.getD_eq_getElem?_getD, List.getElem?_eq_getElem hi2]; rfl
  rw [icells_len] at hv h1
  refine ⟨A, c, by rw [e, hv], h1, h2, ?_⟩
  rcases hr with hr | ⟨b, o, rfl, hlt, hc⟩
  · have := icells_len (ll.getD i []); rw [hr] at this; exact .inl (List.eq_nil_of_length_eq_zero this.symm)
  · exact .inr ⟨b, o, rfl, hB _ rfl, hlt, (hb b (by rw [hv]; rfl)).2, hc⟩
theorem Mine.own {v : Value} (h : Mine w B T v ll) : OwnLL w B B v ll := by
  obtain ⟨_, _, hs, ho, hr⟩ := h
  exact ⟨hs, ho, hr.heads⟩
theorem Mine.same {v : Value} (h : Mine w B T v ll) (hz : w.heap.size ≤ w'.heap.size) (hk : ∀ k, B ≤ k → k < T → w'.heap[k]? = w.heap[k]?) : Mine w' B T v ll := by
  obtain ⟨hT, hv, hs, ho, hr⟩ := h
  exact ⟨by omega, hv, hs, ho.same fun k e => hk k (ho.ob k e).1 (hv k e), hr.same fun k a b _ => hk k a b⟩
theorem Mine.below {v : Value} (h : Mine w B T v ll) (hb : Below w.heap.size w w') : Mine w' B T v ll :=
  h.same hb.size fun k _ hk => hb.block k (Nat.lt_of_lt_of_le hk h.1)
end
/-- One more row behind rows of one's own. -/
theorem wp_appMineT {t : TypeId} (h1t : OneCell t TI) {o : Oper} {a : Act} {w : World} {K : Act → World → Prop} {Q : Exit → Act → World → Prop} (s x : Operand)
    (ho : o.op = .call { callee := .builtin .append, args := #[s, x], argTypes := #[t, t] }) (B T : Nat) (v : Value) (ll : List (List Int)) (hs : a.eval s = v) (hown : Mine w B T v ll)
    (Bd : Nat) (A : Option Addr) (d : Nat) (h : Value) (y : List Int) (hx : a.eval x = .slice A 1 d) (hr : Row w Bd A [h]) (B' : Nat) (hB : B' ≤ B) (hrow : Own1 TN w B' h (icells y))
    (hfr : ∀ k, h.ownBlock = some k → some k ≠ v.ownBlock ∧ (T ≤ k ∨ k < B)) (hlen : ll.length + 1 ≤ 1000000) (hbase : B ≤ w.heap.size)
    (hc : ∀ v' w', Mine w' B' w'.heap.size v' (ll ++ [y]) → w.grownBy w' v.ownBlock → (∀ k, v'.ownBlock = some k → B ≤ k) → K (a.put o.dst v') w') : o.wp Try.prog a w K Q := by
  obtain ⟨hT, hv, h0, h1, h2⟩ := hown
  have hone : h.oneCell' = true := by
    obtain ⟨A', c', e, _⟩ := hrow.form
    rw [e]; rfl
  refine wp_append1 h1t s x ho B v h0 hs h1 Bd A 1 d [h] rfl hx hr (fun u hu => by rw [List.mem_singleton.1 hu]; exact hone) (by rw [h2.1]; exact hlen) hbase fun v' w' a1 a2 a3 => hc v' w' ?_ a2 (fun k e => (a1.ob k e).1)
  refine ⟨Nat.le_refl _, fun k e => (a1.ob k e).2, h0 ++ [h], a1.less hB, ?_⟩
  have hl := h2.1
  have key : ∀ k, k < w.heap.size → some k ≠ v.ownBlock → w'.heap[k]? = w.heap[k]? ∧ some k ≠ v'.ownBlock := fun k h3 h4 => ⟨a2.block k h3 h4, by
    rcases a3 with e | e
    · rw [e]; exact h4
    · rw [e]; intro e2; injection e2 with e2; omega⟩
  have hz := a2.size
  refine ⟨by simp [hl], fun i hi => ?_, fun i j k hij hj e => ?_⟩
  · rcases (show i < ll.length ∨ i = ll.length by simp at hi; omega) with hi | hi
    · rw [getD_snoc_lt (by omega), getD_snoc_lt hi]
      obtain ⟨b1, b2⟩ := h2.2.1 i hi
      exact ⟨(b1.less hB).same fun k e => (key k (by have := (b2 k e).1; omega) (b2 k e).2).1, fun k e => ⟨by have := (b2 k e).1; omega, (key k (by have := (b2 k e).1; omega) (b2 k e).2).2⟩⟩
    · rw [getD_snoc_at (by omega), getD_snoc_at hi]
      exact ⟨hrow.same fun k e => (key k (hrow.ob k e).2 (hfr k e).1).1, fun k e => ⟨by have := (hrow.ob k e).2; omega, (key k (hrow.ob k e).2 (hfr k e).1).2⟩⟩
  · have hi : i < ll.length := by simp at hj; omega
    rw [getD_snoc_lt (by omega)] at e
    rcases (show j < ll.length ∨ j = ll.length by simp at hj; omega) with hj | hj
    · rw [getD_snoc_lt (by omega)]
      exact h2.2.2 i j k hij hj e
    · rw [getD_snoc_at (by omega)]
      intro e2
      obtain ⟨b1, b2⟩ := h2.2.1 i hi
      have := (b2 k e).1
      have := (b1.ob k e).1
      have := (hfr k e2).2
      omega
theorem appMineT {t : TypeId} (h1t : OneCell t TI) {ops : Array Oper} {rest : List Oper} {o : Oper} {a : Act} {w : World} {Q : Exit → Act → World → Prop} (hw : Region.wanted o (yielded ops a.tmps) = true) (s x : Operand)
    (ho : o.op = .call { callee := .builtin .append, args := #[s, x], argTypes := #[t, t] }) (B T : Nat) (v : Value) (ll : List (List Int)) (hs : a.eval s = v) (hown : Mine w B T v ll)
    (Bd : Nat) (A : Option Addr) (d : Nat) (h : Value) (y : List Int) (hx : a.eval x = .slice A 1 d) (hr : Row w Bd A [h]) (B' : Nat) (hB : B' ≤ B) (hrow : Own1 TN w B' h (icells y))
    (hfr : ∀ k, h.ownBlock = some k → some k ≠ v.ownBlock ∧ (T ≤ k ∨ k < B)) (hlen : ll.length + 1 ≤ 1000000) (hbase : B ≤ w.heap.size)
    (hc : ∀ v' w', Mine w' B' w'.heap.size v' (ll ++ [y]) → w.grownBy w' v.ownBlock → (∀ k, v'.ownBlock = some k → B ≤ k) → wpList Try.prog ops Q rest (a.put o.dst v') w') : wpList Try.prog ops Q (o :: rest) a w :=
  BigFrame.wpList_want hw fun _ hK => wp_appMineT h1t s x ho B T v ll hs hown Bd A d h y hx hr B' hB hrow hfr hlen hbase fun v' w' h2 h3 h4 => hK _ _ (hc v' w' h2 h3 h4)
theorem appMine {ops : Array Oper} {rest : List Oper} {o : Oper} {a : Act} {w : World} {Q : Exit → Act → World → Prop} (hw : Region.wanted o (yielded ops a.tmps) = true) (s x : Operand)
    (ho : o.op = .call { callee := .builtin .append, args := #[s, x], argTypes := #[TII, TII] }) (B T : Nat) (v : Value) (ll : List (List Int)) (hs : a.eval s = v) (hown : Mine w B T v ll)
    (Bd : Nat) (A : Option Addr) (d : Nat) (h : Value) (y : List Int) (hx : a.eval x = .slice A 1 d) (hr : Row w Bd A [h]) (B' : Nat) (hB : B' ≤ B) (hrow : Own1 TN w B' h (icells y))
    (hfr : ∀ k, h.ownBlock = some k → some k ≠ v.ownBlock ∧ (T ≤ k ∨ k < B)) (hlen : ll.length + 1 ≤ 1000000) (hbase : B ≤ w.heap.size)
    (hc : ∀ v' w', Mine w' B' w'.heap.size v' (ll ++ [y]) → w.grownBy w' v.ownBlock → (∀ k, v'.ownBlock = some k → B ≤ k) → wpList Try.prog ops Q rest (a.put o.dst v') w') : wpList Try.prog ops Q (o :: rest) a w :=
  appMineT one_II hw s x ho B T v ll hs hown Bd A d h y hx hr B' hB hrow hfr hlen hbase hc
theorem mine_new {w : World} {B : Nat} (hb : B ≤ w.heap.size) : Mine (w.alloc (.cells #[] TI)) B (w.heap.size + 1) (.slice (some ⟨w.heap.size, 0, none⟩) 0 0) [] :=
  ⟨by simp, fun k e => by simp [Value.ownBlock] at e; omega, [], own1_new hb, Rws.nil _ _ _ _⟩
theorem Mine.alloc {w : World} {B T : Nat} {v : Value} {ll : List (List Int)} (h : Mine w B T v ll) (o : Obj) : Mine (w.alloc o) B T v ll := h.below ((Below.refl _ _).alloc (Nat.le_refl _) o)
theorem Mine.ob {w : World} {B T : Nat} {v : Value} {ll : List (List Int)} (h : Mine w B T v ll) : ∀ k, v.ownBlock = some k → B ≤ k ∧ k < T := fun k e => by
  obtain ⟨_, hv, hs, ho, _⟩ := h
  exact ⟨(ho.ob k e).1, hv k e⟩
theorem Mine.up {w : World} {B T : Nat} {v : Value} {ll : List (List Int)} (h : Mine w B T v ll) : Mine w B w.heap.size v ll := by
  obtain ⟨hT, hv, hs, ho, hr⟩ := h
  exact ⟨Nat.le_refl _, fun k e => by have := hv k e; omega, hs, ho, hr.1, fun i hi => ⟨(hr.2.1 i hi).1, fun k e => ⟨by have := ((hr.2.1 i hi).2 k e).1; omega, ((hr.2.1 i hi).2 k e).2⟩⟩, hr.2.2⟩
end Go.Proofs.Ytaaljmmnfgghfaa
namespace Go.Proofs.Ytaaljmmnfgghfaa
open Go.RowKit
theorem made_one (z : Value) (n : Nat) : (madeCells #[z] (n * 1)).toList = List.replicate n z := by
  refine List.ext_getElem? fun i => ?_
  by_cases hi : i < n * 1
  · simp only [madeCells, Array.toList_map, Array.toList_range, List.getElem?_map, List.getElem?_range hi, Option.map_some]
    rw [List.getElem?_replicate, if_pos (by omega)]
    simp [Nat.mod_one]
  · rw [List.getElem?_eq_none (by simp [madeCells]; omega), List.getElem?_eq_none (by simp; omega)]
section
variable {T : TypeId} {w w' : World} {B g n c : Nat} {cs : List Value}
theorem Own1.cellAt (h : Own1 T w B (.slice (some ⟨g, 0, none⟩) n c) cs) (k : Nat) (hk : k < cs.length) : w.cell? ⟨g, k, none⟩ = cs[k]? ∧ w.frozen? ⟨g, k, none⟩ = false := by
  rcases h.2 with ⟨hv, _⟩ | ⟨g', cap, cur, hv, _, hh, hnc, _, hsz, ht⟩
  · cases hv
  · injection hv with hv
    injection hv with hv
    injection hv with hv
    subst hv
    refine ⟨?_, frozen_of_row w g k _ _ hh⟩
    rw [cell_of_row w g k cur T (0, 0) hh, ← ht, List.getElem?_take, if_pos (by omega)]
    simp
theorem Own1.setAt (h : Own1 T w B (.slice (some ⟨g, 0, none⟩) n c) cs) (k : Nat) (u : Value) : Own1 T (w.setCell ⟨g, k, none⟩ u) B (.slice (some ⟨g, 0, none⟩) n c) (cs.set k u) := by
  obtain ⟨h1, h2⟩ := h
  rcases h2 with ⟨hv, _⟩ | ⟨g', cap, cur, hv, hg, hh, hnc, hc, hsz, ht⟩
  · cases hv
  · have hgg : g' = g ∧ cap = c ∧ n = cs.length := by
      injection hv with a1 a2 a3
      injection a1 with a1
      injection a1 with a1
      exact ⟨a1.symm, a3.symm, a2⟩
    obtain ⟨rfl, rfl, rfl⟩ := hgg
    refine ⟨by simp, .inr ⟨g', cap, cur.setIfInBounds k u, by rw [List.length_set], hg, ?_, by rw [List.length_set]; exact hnc, hc, by simpa using hsz, ?_⟩⟩
    · simp [World.setCell, Array.getElem?_modify, hh]
    · simp only [Array.toList_setIfInBounds, List.length_set, List.take_set]
      rw [ht]
end
theorem set_midv (l : List Value) (z : Value) (k : Nat) (hk : k < l.length) : (l.take k ++ List.replicate (l.length - k) z).set k l[k] = l.take (k + 1) ++ List.replicate (l.length - (k + 1)) z := by
  have e : l.length - k = (l.length - (k + 1)) + 1 := by omega
  have hl : (l.take k).length = k := by simp; omega
  rw [e, List.replicate_succ, List.set_append_right _ _ (by omega), hl, Nat.sub_self, List.set_cons_zero, List.take_succ_eq_append_getElem hk, List.append_assoc]; rfl
end Go.Proofs.Ytaaljmmnfgghfaa
