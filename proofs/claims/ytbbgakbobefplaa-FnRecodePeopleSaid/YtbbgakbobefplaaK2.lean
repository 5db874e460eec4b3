import Derived.Test.YtbbgakbobefplaaChecked
import Derived.Test.YtbbgakbobefplaaK1
namespace Go.Proofs.Ytbbgakbobefplaa
open Go.RowKit
theorem l6In_any (x a b : Int) (w : World) : Calls Try.prog 44 #[.int .i64 x, .int .i64 a, .int .i64 b] w fun e w' => e = .returned (.bool (in3 x a b)) ∧ w = w' := by
  go_enter Try.func44, Try.ntmps44
  go_wp2
  all_goals (go_ret; exact ⟨retb (by rw [Bool.eq_iff_iff]; simp [in3]; try omega), rfl⟩)
abbrev TR : TypeId := 73
/-- n bytes lie at A below block B. -/
def Bytes (w : World) (B : Nat) (A : Option Addr) (n : Nat) : Prop :=
  n = 0 ∨ ∃ b o, A = some ⟨b, o, none⟩ ∧ b < B ∧ ∀ k, k < n → ∃ v : Int, 0 ≤ v ∧ v ≤ 255 ∧ w.cell? ⟨b, o + k, none⟩ = some (.int .u8 v)
theorem Bytes.keep {w w' : World} {B n : Nat} {A : Option Addr} (h : Bytes w B A n) (hk : ∀ b o, b < B → w'.cell? ⟨b, o, none⟩ = w.cell? ⟨b, o, none⟩) : Bytes w' B A n := by
  rcases h with h | ⟨b, o, hA, hb, hc⟩
  · exact .inl h
  · exact .inr ⟨b, o, hA, hb, fun k hkn => by obtain ⟨v, h0, h1, h2⟩ := hc k hkn; exact ⟨v, h0, h1, (hk _ _ hb).trans h2⟩⟩
theorem Bytes.below {w w' : World} {B B' n : Nat} {A : Option Addr} (h : Bytes w B A n) (hb : Below B' w w') (hB : B ≤ B') : Bytes w' B A n :=
  h.keep fun b o hlt => hb.cell (p := ⟨b, o, none⟩) (Nat.lt_of_lt_of_le hlt hB)
/-- The reader in block R: its bytes and its place. -/
def Rd (w : World) (R : Nat) (A : Option Addr) (n c p : Nat) : Prop := w.heap[R]? = some (.cells #[.slice A n c, .int .i64 p] TR (0, 0)) ∧ n ≤ 2000 ∧ p ≤ 1000000 ∧ Bytes w R A n
theorem Rd.cells {w : World} {R n c p : Nat} {A : Option Addr} (h : Rd w R A n c p) : w.cell? ⟨R, 0, none⟩ = some (.slice A n c) ∧ w.cell? ⟨R, 1, none⟩ = some (.int .i64 p) ∧ w.frozen? ⟨R, 1, none⟩ = false :=
  ⟨cell_of_row w R 0 _ _ _ h.1, cell_of_row w R 1 _ _ _ h.1, frozen_of_row w R 1 _ _ h.1⟩
theorem Rd.lt {w : World} {R n c p : Nat} {A : Option Addr} (h : Rd w R A n c p) : R < w.heap.size := by
  rcases Nat.lt_or_ge R w.heap.size with hlt | hge
  · exact hlt
  · have := h.1; rw [Array.getElem?_eq_none hge] at this; cases this
theorem l6Open_any (A : Option Addr) (n c : Nat) (hnc : n ≤ c) (hn : n ≤ maxLen) (w : World) (hb : Bytes w w.heap.size A n) :
    Calls Try.prog 31 #[.slice A n c] w fun e w' => e = .returned (.pointer (some ⟨w.heap.size, 0, none⟩)) ∧ (∃ n c, Rd w' w.heap.size A n c 0) ∧ Below w.heap.size w w' := by
  unfold maxLen at hn
  by_cases h : 2000 < n
  · go_enter Try.func31, Try.ntmps31
    go_wp2
    go_ret
    refine ⟨rfl, ⟨2000, c, heap_alloc_new w _, by omega, by omega, ?_⟩, (Below.refl _ _).alloc (Nat.le_refl _) _⟩
    refine Bytes.below (B' := w.heap.size) ?_ ((Below.refl _ _).alloc (Nat.le_refl _) _) (Nat.le_refl _)
    rcases hb with hb | ⟨b, o, hA, hbw, hc⟩
    · omega
    · exact .inr ⟨b, o, hA, hbw, fun k hk => hc k (by omega)⟩
  · go_enter Try.func31, Try.ntmps31
    go_wp2
    go_ret
    refine ⟨rfl, ⟨n, c, heap_alloc_new w _, by omega, by omega, ?_⟩, (Below.refl _ _).alloc (Nat.le_refl _) _⟩
    exact hb.below ((Below.refl _ _).alloc (Nat.le_refl _) _) (Nat.le_refl _)
theorem xor_nn (a b : Nat) (ha : a < 2 ^ 62) (hb : b < 2 ^ 62) : 0 ≤ bits .xor .i64 (a : Int) (b : Int) := by
  have hx : a ^^^ b < 2 ^ 62 := Nat.xor_lt_two_pow ha hb
  have f : ∀ c : Nat, c < 2 ^ 62 → (BitVec.ofInt 64 (c : Int)).toNat = c := fun c hc => by
    rw [BitVec.ofInt_natCast, BitVec.toNat_ofNat]; exact Nat.mod_eq_of_lt (by omega)
  show 0 ≤ IntKind.i64.wrap ((BitVec.ofInt 64 (a : Int) ^^^ BitVec.ofInt 64 (b : Int)).toNat : Int)
  rw [BitVec.toNat_xor, f a ha, f b hb, IntKind.wrap_i64]
  omega
theorem pick_zero (n : Int) (h : n < 1) (R : Nat) (A : Option Addr) (m c p : Nat) (w : World) (hr : Rd w R A m c p) :
    Calls Try.prog 58 #[.pointer (some ⟨R, 0, none⟩), .int .i64 n] w fun e w' => e = .returned (.int .i64 0) ∧ w.setCell ⟨R, 1, none⟩ (.int .i64 (p + 1)) = w' := by
  obtain ⟨r0, r1, r2⟩ := hr.cells
  have hp := hr.2.2.1
  clear hr
  go_enter Try.func58, Try.ntmps58
  go_wp2
  go_ret
  exact ⟨rfl, rfl⟩
theorem pick_one (n : Int) (h : 1 ≤ n) (hm : n ≤ 1000000) (R : Nat) (A : Option Addr) (m c p : Nat) (w : World) (hr : Rd w R A m c p) :
    Calls Try.prog 58 #[.pointer (some ⟨R, 0, none⟩), .int .i64 n] w fun e w' => (∃ v : Int, e = .returned (.int .i64 v) ∧ 0 ≤ v ∧ v < n) ∧ ∃ k, (w.setCell ⟨R, 1, none⟩ (.int .i64 (p + 1))).drewN k = w' := by
  obtain ⟨r0, r1, r2⟩ := hr.cells
  have hp := hr.2.2.1
  have hm2 := hr.2.1
  have hby := hr.2.2.2
  clear hr
  by_cases h0 : m = 0
  · subst h0
    clear hby
    go_enter Try.func58, Try.ntmps58
    go_wp2
    go_ret
    exact ⟨⟨0, rfl, by omega, by omega⟩, 0, rfl⟩
  · obtain ⟨b, o, rfl, hbR, hc⟩ := hby.resolve_left h0
    have hm0 : 0 < m := by omega
    have hne : ((m : Int) == 0) = false := by simp; omega
    clear hby h0
    by_cases hk : p < m
    · obtain ⟨v, v0, v1, hv⟩ := hc p hk
      clear hc
      go_enter Try.func58, Try.ntmps58
      go_wp2
      go_ret
      exact ⟨⟨v % n, rfl, Int.emod_nonneg _ (by omega), Int.emod_lt_of_pos _ (by omega)⟩, 0, rfl⟩
    · obtain ⟨v, v0, v1, hv⟩ := hc (p % m) (Nat.mod_lt _ hm0)
      obtain ⟨u, u0, u1, hu⟩ := hc ((p * 7 + 3) % m) (Nat.mod_lt _ hm0)
      clear hc
      have i0 : 0 ≤ (p : Int) % (m : Int) := Int.emod_nonneg _ (by omega)
      have i1 : (p : Int) % (m : Int) < (m : Int) := Int.emod_lt_of_pos _ (by omega)
      have i2 : 0 ≤ ((p : Int) * 7 + 3) % (m : Int) := Int.emod_nonneg _ (by omega)
      have i3 : ((p : Int) * 7 + 3) % (m : Int) < (m : Int) := Int.emod_lt_of_pos _ (by omega)
      have i4 : 0 ≤ (p : Int) / (m : Int) := Int.ediv_nonneg (by omega) (by omega)
      have i5 : (p : Int) / (m : Int) ≤ p := Int.ediv_le_self _ (by omega)
      go_enter Try.func58, Try.ntmps58
      go_wp2
      go_quiet (fail)
      go_wp2
      go_ret
      obtain ⟨x, hx⟩ : ∃ x : Nat, v * 131 + u * 1117 + (p : Int) * 29 + (p : Int) / (m : Int) * 53 = x := ⟨(v * 131 + u * 1117 + (p : Int) * 29 + (p : Int) / (m : Int) * 53).toNat, by omega⟩
      have hx2 : x < 1000000000 := by omega
      refine ⟨⟨_, rfl, ?_⟩, nq, rfl⟩
      show 0 ≤ (bits BinOp.xor IntKind.i64 (v * 131 + u * 1117 + (p : Int) * 29 + (p : Int) / (m : Int) * 53) ((v * 131 + u * 1117 + (p : Int) * 29 + (p : Int) / (m : Int) * 53) / 64)).tmod n ∧ _ < n
      rw [hx]
      have e := xor_nn x (x / 64) (by omega) (by omega)
      rw [Int.natCast_ediv] at e
      exact ⟨Int.tmod_nonneg _ e, Int.tmod_lt_of_pos _ (by omega)⟩
/-- The reader in block R has read at most q times. -/
def RdN (w : World) (R q : Nat) : Prop := ∃ A n c p, Rd w R A n c p ∧ p ≤ q
theorem RdN.lt {w : World} {R q : Nat} (h : RdN w R q) : R < w.heap.size := by obtain ⟨_, _, _, _, h, _⟩ := h; exact h.lt
theorem RdN.more {w : World} {R q q' : Nat} (h : RdN w R q) (hq : q ≤ q') : RdN w R q' := by obtain ⟨A, n, c, p, h, hp⟩ := h; exact ⟨A, n, c, p, h, by omega⟩
theorem RdN.keep {w w' : World} {R q : Nat} (h : RdN w R q) (hb : Below (R + 1) w w') : RdN w' R q := by
  obtain ⟨A, n, c, p, h, hp⟩ := h
  refine ⟨A, n, c, p, ⟨?_, h.2.1, h.2.2.1, h.2.2.2.below hb (by omega)⟩, hp⟩
  rw [hb.block R (by omega)]; exact h.1
theorem RdN.alloc {w : World} {R q : Nat} (h : RdN w R q) (o : Obj) : RdN (w.alloc o) R q := h.keep ((Below.refl _ _).alloc h.lt o)
theorem RdN.setCell {w : World} {R q : Nat} (h : RdN w R q) {a : Addr} (ha : R < a.block) (v : Value) : RdN (w.setCell a v) R q := h.keep ((Below.refl _ _).setCell ha v)
theorem RdN.drewN {w : World} {R q : Nat} (h : RdN w R q) (k : Nat) : RdN (w.drewN k) R q := h
theorem RdN.grown {w w' : World} {R q : Nat} {row : Option Nat} (h : RdN w R q) (hg : w.grownBy w' row) (hr : ∀ k, row = some k → R < k) : RdN w' R q := by
  obtain ⟨A, n, c, p, h, hp⟩ := h
  have hl := h.lt
  refine ⟨A, n, c, p, ⟨?_, h.2.1, h.2.2.1, ?_⟩, hp⟩
  · rw [hg.block R hl (fun e => by have := hr _ e.symm; omega)]; exact h.1
  · exact h.2.2.2.keep fun b o hb => World.cell?_of_block (w := w) (a := ⟨b, o, none⟩) (hg.block b (by omega) (fun e => by have := hr _ e.symm; omega))
/-- What a pick hands back. -/
def Picked (n : Int) (R q : Nat) (w : World) (e : Ending) (w' : World) : Prop :=
  ∃ v : Int, e = .returned (.int .i64 v) ∧ 0 ≤ v ∧ v < n ∧ RdN w' R (q + 1) ∧ w.grownBy w' (some R)
theorem pick_any (n : Int) (h : 1 ≤ n) (hm : n ≤ 1000000) (R q : Nat) (hq : q < 1000000) (w : World) (hr : RdN w R q) :
    Calls Try.prog 58 #[.pointer (some ⟨R, 0, none⟩), .int .i64 n] w (Picked n R q w) := by
  obtain ⟨A, m, c, p, hr, hp⟩ := hr
  refine (pick_one n h hm R A m c p w hr).mono ?_
  rintro e w' ⟨⟨v, rfl, v0, v1⟩, k, rfl⟩
  refine ⟨v, rfl, v0, v1, ⟨A, m, c, p + 1, ⟨?_, hr.2.1, by omega, ?_⟩, by omega⟩, grown_draws (grown_set (World.grownBy.refl _ _) (.inl rfl) _) k⟩
  · show (w.setCell ⟨R, 1, none⟩ (.int .i64 (p + 1))).heap[R]? = _
    have := hr.1
    simp [World.setCell, Array.getElem?_modify, this]
  · refine hr.2.2.2.keep fun b o hb => ?_
    exact World.cell?_of_block (w := w) (a := ⟨b, o, none⟩) (Below.heap_setCell w ⟨R, 1, none⟩ _ b (by show b ≠ R; omega))
/-- What the frame tells of a slice of integers that came in. -/
def IsRow (k : IntKind) (w : World) (a : Option Addr) (len cap : Nat) (zs : List Int) : Prop :=
  (a = none ∧ len = 0 ∧ cap = 0 ∧ zs = []) ∨
  ∃ x, a = some x ∧ len ≤ cap ∧ cap ≤ maxLen ∧ zs.length = cap ∧ (∀ i, i < zs.length → w.cell? (x.add i) = some (.int k (zs.getD i 0))) ∧ ∀ n ∈ zs, (Lit.int k n).wf = true
theorem IsRow.len {k : IntKind} {w : World} {a : Option Addr} {len cap : Nat} {zs : List Int} (h : IsRow k w a len cap zs) : len ≤ cap ∧ len ≤ maxLen := by
  rcases h with ⟨_, rfl, rfl, _⟩ | ⟨x, _, h1, h2, _⟩
  · exact ⟨Nat.le_refl _, Nat.zero_le _⟩
  · exact ⟨h1, by omega⟩
theorem IsRow.bytes {w : World} {a : Option Addr} {len cap : Nat} {zs : List Int} (h : IsRow .u8 w a len cap zs) : Bytes w w.heap.size a len := by
  rcases h with ⟨_, h0, _⟩ | ⟨x, rfl, h1, h2, hz, hc, hw⟩
  · exact .inl h0
  · by_cases h0 : len = 0
    · exact .inl h0
    · right
      obtain ⟨b, o, spot⟩ := x
      have hc0 := hc 0 (by omega)
      have hs : spot = none := by simpa [Addr.add] using World.cell?_spot hc0
      subst hs
      refine ⟨b, o, rfl, ?_, fun k hk => ?_⟩
      · have := block_lt_of_cell hc0
        simpa [Addr.add] using this
      · have hck := hc k (by omega)
        rw [Addr.add_lit] at hck
        have hwf := hw (zs.getD k 0) (by rw [List.getD_eq_getElem?_getD, List.getElem?_eq_getElem (by omega)]; exact List.getElem_mem (by omega))
        have hb := bounds_u8 hwf
        exact ⟨_, hb.1, hb.2, hck⟩
theorem Bytes.more {w : World} {B B' n : Nat} {A : Option Addr} (h : Bytes w B A n) (hB : B ≤ B') : Bytes w B' A n := by
  rcases h with h | ⟨b, o, hA, hb, hc⟩
  · exact .inl h
  · exact .inr ⟨b, o, hA, by omega, hc⟩
end Go.Proofs.Ytbbgakbobefplaa
