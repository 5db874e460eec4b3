/- Words for memory that all texts of a seat share. Words for memory that all texts of this seat share. Slices of one's own with one cell an element, and append onto them. What changes in a stretch of blocks alone. -/
import Derived.WalkKit
import Derived.Lib.Hide
import Derived.Deep.LoopGhost
import Derived.Deep.QuietTactic
import Derived.BigQuiet
import Derived.Deep.RegionWith
import Derived.Deep.RegionHeld3
import Derived.OpenShut
import Derived.Test.YtlingfbmphaphaaDoorChecked
import Derived.Maps.AppendAt
import Derived.Deep.RegionLaw
namespace Go.Proofs.YtlingfbmphaphaaDoor
open Go.RowKit
/-- The cells 'cs' lie at 'A' in 'w', below block B (where there are any). -/
def Row (w : World) (B : Nat) (A : Option Addr) (cs : List Value) : Prop :=
  cs = [] ∨ ∃ b o, A = some ⟨b, o, none⟩ ∧ b < B ∧ ∀ j u, cs[j]? = some u → w.cell? ⟨b, o + j, none⟩ = some u
theorem Row.keep {w w' : World} {B : Nat} {A : Option Addr} {cs : List Value} (h : Row w B A cs) (hk : ∀ b o, b < B → w'.cell? ⟨b, o, none⟩ = w.cell? ⟨b, o, none⟩) : Row w' B A cs := by
  rcases h with h | ⟨b, o, hA, hb, hc⟩
  · exact .inl h
  · exact .inr ⟨b, o, hA, hb, fun j u hu => (hk _ _ hb).trans (hc j u hu)⟩
theorem Row.more {w : World} {B B' : Nat} {A : Option Addr} {cs : List Value} (h : Row w B A cs) (hB : B ≤ B') : Row w B' A cs := by
  rcases h with h | ⟨b, o, hA, hb, hc⟩
  · exact .inl h
  · exact .inr ⟨b, o, hA, by omega, hc⟩
theorem Row.below {w w' : World} {B B' : Nat} {A : Option Addr} {cs : List Value} (h : Row w B A cs) (hb : Below B' w w') (hB : B ≤ B') : Row w' B A cs :=
  h.keep fun b o hlt => hb.cell (p := ⟨b, o, none⟩) (Nat.lt_of_lt_of_le hlt hB)
theorem Row.nil (w : World) (B : Nat) (A : Option Addr) : Row w B A [] := .inl rfl
def in3 (x a b : Int) : Bool := decide (a ≤ x) && decide (x ≤ b)
theorem retb {x y : Bool} (h : x = y) : Ending.returned (.bool x) = .returned (.bool y) := by rw [h]
theorem reti {x y : Int} (h : x = y) : Ending.returned (.int .i64 x) = .returned (.int .i64 y) := by rw [h]
theorem grown_trans {a b c : World} {row : Option Nat} (h : a.grownBy b row) (k : b.grownBy c row) : a.grownBy c row :=
  ⟨k.os.trans h.os, k.tape.trans h.tape, k.output.trans h.output, Nat.le_trans h.size k.size, fun i hi hne => (k.block i (Nat.lt_of_lt_of_le hi h.size) hne).trans (h.block i hi hne)⟩
theorem grown_alloc {a b : World} {row : Option Nat} (h : a.grownBy b row) (o : Obj) : a.grownBy (b.alloc o) row := grown_trans h (World.grownBy_alloc b o row)
theorem grown_set {a b : World} {R : Nat} (h : a.grownBy b (some R)) {p : Addr} (hp : p.block = R ∨ a.heap.size ≤ p.block) (v : Value) : a.grownBy (b.setCell p v) (some R) :=
  ⟨h.os, h.tape, h.output, by simpa [World.setCell] using h.size, fun i hi hne => (Below.heap_setCell b p v i (by
    rintro rfl
    rcases hp with hp | hp
    · exact hne (by rw [hp])
    · omega)).trans (h.block i hi hne)⟩
theorem grown_draws {a b : World} {row : Option Nat} (h : a.grownBy b row) (k : Nat) : a.grownBy (b.drewN k) row := ⟨h.os, h.tape, h.output, h.size, h.block⟩
theorem grown_below {a b c : World} {row : Option Nat} (h : a.grownBy b row) (k : Below b.heap.size b c) : a.grownBy c row :=
  ⟨k.os.trans h.os, k.tape.trans h.tape, k.output.trans h.output, Nat.le_trans h.size k.size, fun i hi hne => (k.block i (Nat.lt_of_lt_of_le hi h.size)).trans (h.block i hi hne)⟩
theorem grown_old {a b : World} {R B : Nat} (h : a.grownBy b (some R)) (hB : B ≤ R) (hs : B ≤ a.heap.size) : Below B a b :=
  ⟨h.os, h.tape, h.output, h.size, fun k hk => h.block k (by omega) (fun e => by injection e; omega)⟩
theorem new_block {w w' : World} {cs : Array Value} {t : TypeId} {R : Nat} (h : (w.alloc (.cells cs t)).grownBy w' (some R)) (hR : R < w.heap.size) : w'.heap[w.heap.size]? = some (.cells cs t (0, 0)) := by
  rw [h.block w.heap.size (by simp) (fun e => by injection e; omega)]; exact heap_alloc_new w _
theorem undrew {w w' : World} {row : Option Nat} (h : w.drew.grownBy w' row) : w.grownBy w' row := ⟨h.os, h.tape, h.output, h.size, h.block⟩
theorem grown_new {a b c : World} {R : Nat} {row : Option Nat} (h : a.grownBy b (some R)) (k : b.grownBy c row) (hr : ∀ g, row = some g → a.heap.size ≤ g) : a.grownBy c (some R) :=
  ⟨k.os.trans h.os, k.tape.trans h.tape, k.output.trans h.output, Nat.le_trans h.size k.size, fun i hi hne => (k.block i (Nat.lt_of_lt_of_le hi h.size) (fun e => by have := hr _ e.symm; omega)).trans (h.block i hi hne)⟩
theorem blk4 {w : World} {g : Nat} {t : TypeId} {a b c d : Value} (h : w.heap[g]? = some (.cells #[a, b, c, d] t (0, 0))) :
    w.cell? ⟨g, 0, none⟩ = some a ∧ w.cell? ⟨g, 1, none⟩ = some b ∧ w.cell? ⟨g, 2, none⟩ = some c ∧ w.cell? ⟨g, 3, none⟩ = some d ∧
    w.frozen? ⟨g, 0, none⟩ = false ∧ w.frozen? ⟨g, 1, none⟩ = false ∧ w.frozen? ⟨g, 2, none⟩ = false ∧ w.frozen? ⟨g, 3, none⟩ = false :=
  ⟨cell_of_row w g 0 _ _ _ h, cell_of_row w g 1 _ _ _ h, cell_of_row w g 2 _ _ _ h, cell_of_row w g 3 _ _ _ h, frozen_of_row w g 0 _ _ h, frozen_of_row w g 1 _ _ h, frozen_of_row w g 2 _ _ h, frozen_of_row w g 3 _ _ h⟩
theorem two_cell {w : World} {g : Nat} {a b : Int} {t : TypeId} (h : w.heap[g]? = some (.cells #[.int .i64 a, .int .i64 b] t (0, 0))) (y : Nat) (hy : y < 2) : ∃ z, w.cell? ⟨g, y, none⟩ = some (.int .i64 z) ∧ (z = a ∨ z = b) := by
  rcases (show y = 0 ∨ y = 1 by omega) with rfl | rfl
  · exact ⟨a, cell_of_row w g 0 _ _ _ h, .inl rfl⟩
  · exact ⟨b, cell_of_row w g 1 _ _ _ h, .inr rfl⟩
theorem below_draws {B : Nat} {a b : World} (h : Below B a b) (k : Nat) : Below B a (b.drewN k) := ⟨h.os, h.tape, h.output, h.size, h.block⟩
theorem bth {a b c : World} (h : Below a.heap.size a b) (k : Below b.heap.size b c) : Below a.heap.size a c := h.trans (k.mono h.size)
theorem Row.moved {w w' : World} {A : Option Addr} {cs : List Value} (h : Row w w.heap.size A cs) (hb : Below w.heap.size w w') : Row w' w'.heap.size A cs := (h.below hb (Nat.le_refl _)).more hb.size
end Go.Proofs.YtlingfbmphaphaaDoor
namespace Go.Proofs.YtlingfbmphaphaaDoor
open Go.RowKit

/-- A person: four numbers. -/
structure Pn where
  area : Int
  job : Int
  sex : Int
  pay : Int
deriving DecidableEq

def Pn.cells (p : Pn) : List Value := [.int .i64 p.area, .int .i64 p.job, .int .i64 p.sex, .int .i64 p.pay]
abbrev Pn.val (p : Pn) : Value := .agg #[.int .i64 p.area, .int .i64 p.job, .int .i64 p.sex, .int .i64 p.pay]
def pcells (l : List Pn) : List Value := l.flatMap Pn.cells

theorem pcells_length (l : List Pn) : (pcells l).length = l.length * 4 := by
  induction l with
  | nil => rfl
  | cons p l ih => simp only [pcells, List.flatMap_cons, List.length_append, Pn.cells, List.length_cons, List.length_nil] at *; omega

theorem pcells_get (l : List Pn) (k : Nat) (hk : k < l.length) (j : Nat) (hj : j < 4) : (pcells l)[k * 4 + j]? = (l[k].cells)[j]? := by
  induction l generalizing k with
  | nil => simp at hk
  | cons p l ih =>
    cases k with
    | zero => simp only [pcells, List.flatMap_cons, List.getElem_cons_zero]; rw [List.getElem?_append_left (by simp [Pn.cells]; omega)]; simp
    | succ k =>
      simp only [pcells, List.flatMap_cons, List.getElem_cons_succ]
      rw [List.getElem?_append_right (by simp [Pn.cells]; omega)]
      have e : (k + 1) * 4 + j - (Pn.cells p).length = k * 4 + j := by simp [Pn.cells]; omega
      rw [e]; exact ih k (by simpa using hk)

/-- The four cells of person k. -/
theorem Row.at_ {w : World} {B : Nat} {A : Option Addr} {l : List Pn} (h : Row w B A (pcells l)) (k : Nat) (hk : k < l.length) :
    ∃ b o, A = some ⟨b, o, none⟩ ∧ b < B ∧ w.cell? ⟨b, o + k * 4, none⟩ = some (.int .i64 l[k].area) ∧ w.cell? ⟨b, o + k * 4 + 1, none⟩ = some (.int .i64 l[k].job) ∧
      w.cell? ⟨b, o + k * 4 + 2, none⟩ = some (.int .i64 l[k].sex) ∧ w.cell? ⟨b, o + k * 4 + 3, none⟩ = some (.int .i64 l[k].pay) := by
  rcases h with h | ⟨b, o, hA, hb, hc⟩
  · have := pcells_length l; rw [h] at this; simp at this; omega
  · have g := fun j hj => pcells_get l k hk j hj
    refine ⟨b, o, hA, hb, ?_, ?_, ?_, ?_⟩
    · exact hc (k * 4 + 0) _ (by rw [g 0 (by omega)]; rfl)
    · rw [Nat.add_assoc]; exact hc (k * 4 + 1) _ (by rw [g 1 (by omega)]; rfl)
    · rw [Nat.add_assoc]; exact hc (k * 4 + 2) _ (by rw [g 2 (by omega)]; rfl)
    · rw [Nat.add_assoc]; exact hc (k * 4 + 3) _ (by rw [g 3 (by omega)]; rfl)
end Go.Proofs.YtlingfbmphaphaaDoor
namespace Go.Proofs.YtlingfbmphaphaaDoor
open Go.RowKit
theorem l6In_any (x a b : Int) (w : World) : Calls Tryd.prog 37 #[.int .i64 x, .int .i64 a, .int .i64 b] w fun e w' => e = .returned (.bool (in3 x a b)) ∧ w = w' := by
  go_enter Tryd.func37, Tryd.ntmps37
  go_wp2
  all_goals (go_ret; exact ⟨retb (by rw [Bool.eq_iff_iff]; simp [in3]; try omega), rfl⟩)
abbrev TR : TypeId := 45
/-- n bytes lie at A below block B. -/
def Bytes (w : World) (B : Nat) (A : Option Addr) (n : Nat) : Prop :=
  n = 0 ∨ ∃ b o, A = some ⟨b, o, none⟩ ∧ b < B ∧ ∀ k, k < n → ∃ v : Int, 0 ≤ v ∧ v ≤ 255 ∧ w.cell? ⟨b, o + k, none⟩ = some (.int .u8 v)
theorem Bytes.keep {w w' : World} {B n : Nat} {A : Option Addr} (h : Bytes w B A n) (hk : ∀ b o, b < B → w'.cell? ⟨b, o, none⟩ = w.cell? ⟨b, o, none⟩) : Bytes w' B A n := by
  rcases h with h | ⟨b, o, hA, hb, hc⟩
  · exact .inl h
  · exact .inr ⟨b, o, hA, hb, fun k hkn => by obtain ⟨v, h0, h1, h2⟩ := hc k hkn; exact ⟨v, h0, h1, (hk _ _ hb).trans h2⟩⟩
theorem Bytes.below {w w' : World} {B B' n : Nat} {A : Option Addr} (h : Bytes w B A n) (hb : Below B' w w') (hB : B ≤ B') : Bytes w' B A n :=
  h.keep fun b o hlt => hb.cell (p := ⟨b, o, none⟩) (Nat.lt_of_lt_of_le hlt hB)
/-- The reader in block R: its bytes and its place. -/
def Rd (w : World) (R : Nat) (A : Option Addr) (n c p : Nat) : Prop := w.heap[R]? = some (.cells #[.slice A n c, .int .i64 p] TR (0, 0)) ∧ n ≤ 2000 ∧ p ≤ 1000000 ∧ Bytes w R A n
theorem Rd.cells {w : World} {R n c p : Nat} {A : Option Addr} (h : Rd w R A n c p) : w.cell? ⟨R, 0, none⟩ = some (.slice A n c) ∧ w.cell? ⟨R, 1, none⟩ = some (.int .i64 p) ∧ w.frozen? ⟨R, 1, none⟩ = false :=
  ⟨cell_of_row w R 0 _ _ _ h.1, cell_of_row w R 1 _ _ _ h.1, frozen_of_row w R 1 _ _ h.1⟩
theorem Rd.lt {w : World} {R n c p : Nat} {A : Option Addr} (h : Rd w R A n c p) : R < w.heap.size := by
  rcases Nat.lt_or_ge R w.heap.size with hlt | hge
  · exact hlt
  · have := h.1; rw [Array.getElem?_eq_none hge] at this; cases this
theorem l6Open_any (A : Option Addr) (n c : Nat) (hnc : n ≤ c) (hn : n ≤ maxLen) (w : World) (hb : Bytes w w.heap.size A n) :
    Calls Tryd.prog 29 #[.slice A n c] w fun e w' => e = .returned (.pointer (some ⟨w.heap.size, 0, none⟩)) ∧ (∃ n c, Rd w' w.heap.size A n c 0) ∧ Below w.heap.size w w' := by
  unfold maxLen at hn
  by_cases h : 2000 < n
  · go_enter Tryd.func29, Tryd.ntmps29
    go_wp2
    go_ret
    refine ⟨rfl, ⟨2000, c, heap_alloc_new w _, by omega, by omega, ?_⟩, (Below.refl _ _).alloc (Nat.le_refl _) _⟩
    refine Bytes.below (B' := w.heap.size) ?_ ((Below.refl _ _).alloc (Nat.le_refl _) _) (Nat.le_refl _)
    rcases hb with hb | ⟨b, o, hA, hbw, hc⟩
    · omega
    · exact .inr ⟨b, o, hA, hbw, fun k hk => hc k (by omega)⟩
  · go_enter Tryd.func29, Tryd.ntmps29
    go_wp2
    go_ret
    refine ⟨rfl, ⟨n, c, heap_alloc_new w _, by omega, by omega, ?_⟩, (Below.refl _ _).alloc (Nat.le_refl _) _⟩
    exact hb.below ((Below.refl _ _).alloc (Nat.le_refl _) _) (Nat.le_refl _)
theorem xor_nn (a b : Nat) (ha : a < 2 ^ 62) (hb : b < 2 ^ 62) : 0 ≤ bits .xor .i64 (a : Int) (b : Int) := by
  have hx : a ^^^ b < 2 ^ 62 := Nat.xor_lt_two_pow ha hb
  have f : ∀ c : Nat, c < 2 ^ 62 → (BitVec.ofInt 64 (c : Int)).toNat = c := fun c hc => by
    rw [BitVec.ofInt_natCast, BitVec.toNat_ofNat]; exact Nat.mod_eq_of_lt (by omega)
  show 0 ≤ IntKind.i64.wrap ((BitVec.ofInt 64 (a : Int) ^^^ BitVec.ofInt 64 (b : Int)).toNat : Int)
  rw [BitVec.toNat_xor, f a ha, f b hb, IntKind.wrap_i64]
  omega
theorem pick_zero (n : Int) (h : n < 1) (R : Nat) (A : Option Addr) (m c p : Nat) (w : World) (hr : Rd w R A m c p) :
    Calls Tryd.prog 35 #[.pointer (some ⟨R, 0, none⟩), .int .i64 n] w fun e w' => e = .returned (.int .i64 0) ∧ w.setCell ⟨R, 1, none⟩ (.int .i64 (p + 1)) = w' := by
  obtain ⟨r0, r1, r2⟩ := hr.cells
  have hp := hr.2.2.1
  clear hr
  go_enter Tryd.func35, Tryd.ntmps35
  go_wp2
  go_ret
  exact ⟨rfl, rfl⟩
theorem pick_one (n : Int) (h : 1 ≤ n) (hm : n ≤ 1000000) (R : Nat) (A : Option Addr) (m c p : Nat) (w : World) (hr : Rd w R A m c p) :
    Calls Tryd.prog 35 #[.pointer (some ⟨R, 0, none⟩), .int .i64 n] w fun e w' => (∃ v : Int, e = .returned (.int .i64 v) ∧ 0 ≤ v ∧ v < n) ∧ ∃ k, (w.setCell ⟨R, 1, none⟩ (.int .i64 (p + 1))).drewN k = w' := by
  obtain ⟨r0, r1, r2⟩ := hr.cells
  have hp := hr.2.2.1
  have hm2 := hr.2.1
  have hby := hr.2.2.2
  clear hr
  by_cases h0 : m = 0
  · subst h0
    clear hby
    go_enter Tryd.func35, Tryd.ntmps35
    go_wp2
    go_ret
    exact ⟨⟨0, rfl, by omega, by omega⟩, 0, rfl⟩
  · obtain ⟨b, o, rfl, hbR, hc⟩ := hby.resolve_left h0
    have hm0 : 0 < m := by omega
    have hne : ((m : Int) == 0) = false := by simp; omega
    clear hby h0
    by_cases hk : p < m
    · obtain ⟨v, v0, v1, hv⟩ := hc p hk
      clear hc
      go_enter Tryd.func35, Tryd.ntmps35
      go_wp2
      go_ret
      exact ⟨⟨v % n, rfl, Int.emod_nonneg _ (by omega), Int.emod_lt_of_pos _ (by omega)⟩, 0, rfl⟩
    · obtain ⟨v, v0, v1, hv⟩ := hc (p % m) (Nat.mod_lt _ hm0)
      obtain ⟨u, u0, u1, hu⟩ := hc ((p * 7 + 3) % m) (Nat.mod_lt _ hm0)
      clear hc
      have i0 : 0 ≤ (p : Int) % (m : Int) := Int.emod_nonneg _ (by omega)
      have i1 : (p : Int) % (m : Int) < (m : Int) := Int.emod_lt_of_pos _ (by omega)
      have i2 : 0 ≤ ((p : Int) * 7 + 3) % (m : Int) := Int.emod_nonneg _ (by omega)
      have i3 : ((p : Int) * 7 + 3) % (m : Int) < (m : Int) := Int.emod_lt_of_pos _ (by omega)
      have i4 : 0 ≤ (p : Int) / (m : Int) := Int.ediv_nonneg (by omega) (by omega)
      have i5 : (p : Int) / (m : Int) ≤ p := Int.ediv_le_self _ (by omega)
      go_enter Tryd.func35, Tryd.ntmps35
      go_wp2
      go_quiet (fail)
      go_wp2
      go_ret
      obtain ⟨x, hx⟩ : ∃ x : Nat, v * 131 + u * 1117 + (p : Int) * 29 + (p : Int) / (m : Int) * 53 = x := ⟨(v * 131 + u * 1117 + (p : Int) * 29 + (p : Int) / (m : Int) * 53).toNat, by omega⟩
      have hx2 : x < 1000000000 := by omega
      refine ⟨⟨_, rfl, ?_⟩, nq, rfl⟩
      show 0 ≤ (bits BinOp.xor IntKind.i64 (v * 131 + u * 1117 + (p : Int) * 29 + (p : Int) / (m : Int) * 53) ((v * 131 + u * 1117 + (p : Int) * 29 + (p : Int) / (m : Int) * 53) / 64)).tmod n ∧ _ < n
      rw [hx]
      have e := xor_nn x (x / 64) (by omega) (by omega)
      rw [Int.natCast_ediv] at e
      exact ⟨Int.tmod_nonneg _ e, Int.tmod_lt_of_pos _ (by omega)⟩
/-- The reader in block R has read at most q times. -/
def RdN (w : World) (R q : Nat) : Prop := ∃ A n c p, Rd w R A n c p ∧ p ≤ q
theorem RdN.lt {w : World} {R q : Nat} (h : RdN w R q) : R < w.heap.size := by obtain ⟨_, _, _, _, h, _⟩ := h; exact h.lt
theorem RdN.more {w : World} {R q q' : Nat} (h : RdN w R q) (hq : q ≤ q') : RdN w R q' := by obtain ⟨A, n, c, p, h, hp⟩ := h; exact ⟨A, n, c, p, h, by omega⟩
theorem RdN.keep {w w' : World} {R q : Nat} (h : RdN w R q) (hb : Below (R + 1) w w') : RdN w' R q := by
  obtain ⟨A, n, c, p, h, hp⟩ := h
  refine ⟨A, n, c, p, ⟨?_, h.2.1, h.2.2.1, h.2.2.2.below hb (by omega)⟩, hp⟩
  rw [hb.block R (by omega)]; exact h.1
theorem RdN.alloc {w : World} {R q : Nat} (h : RdN w R q) (o : Obj) : RdN (w.alloc o) R q := h.keep ((Below.refl _ _).alloc h.lt o)
theorem RdN.setCell {w : World} {R q : Nat} (h : RdN w R q) {a : Addr} (ha : R < a.block) (v : Value) : RdN (w.setCell a v) R q := h.keep ((Below.refl _ _).setCell ha v)
theorem RdN.drewN {w : World} {R q : Nat} (h : RdN w R q) (k : Nat) : RdN (w.drewN k) R q := h
theorem RdN.grown {w w' : World} {R q : Nat} {row : Option Nat} (h : RdN w R q) (hg : w.grownBy w' row) (hr : ∀ k, row = some k → R < k) : RdN w' R q := by
  obtain ⟨A, n, c, p, h, hp⟩ := h
  have hl := h.lt
  refine ⟨A, n, c, p, ⟨?_, h.2.1, h.2.2.1, ?_⟩, hp⟩
  · rw [hg.block R hl (fun e => by have := hr _ e.symm; omega)]; exact h.1
  · exact h.2.2.2.keep fun b o hb => World.cell?_of_block (w := w) (a := ⟨b, o, none⟩) (hg.block b (by omega) (fun e => by have := hr _ e.symm; omega))
/-- What a pick hands back. -/
def Picked (n : Int) (R q : Nat) (w : World) (e : Ending) (w' : World) : Prop :=
  ∃ v : Int, e = .returned (.int .i64 v) ∧ 0 ≤ v ∧ v < n ∧ RdN w' R (q + 1) ∧ w.grownBy w' (some R)
theorem pick_any (n : Int) (h : 1 ≤ n) (hm : n ≤ 1000000) (R q : Nat) (hq : q < 1000000) (w : World) (hr : RdN w R q) :
    Calls Tryd.prog 35 #[.pointer (some ⟨R, 0, none⟩), .int .i64 n] w (Picked n R q w) := by
  obtain ⟨A, m, c, p, hr, hp⟩ := hr
  refine (pick_one n h hm R A m c p w hr).mono ?_
  rintro e w' ⟨⟨v, rfl, v0, v1⟩, k, rfl⟩
  refine ⟨v, rfl, v0, v1, ⟨A, m, c, p + 1, ⟨?_, hr.2.1, by omega, ?_⟩, by omega⟩, grown_draws (grown_set (World.grownBy.refl _ _) (.inl rfl) _) k⟩
  · show (w.setCell ⟨R, 1, none⟩ (.int .i64 (p + 1))).heap[R]? = _
    have := hr.1
    simp [World.setCell, Array.getElem?_modify, this]
  · refine hr.2.2.2.keep fun b o hb => ?_
    exact World.cell?_of_block (w := w) (a := ⟨b, o, none⟩) (Below.heap_setCell w ⟨R, 1, none⟩ _ b (by show b ≠ R; omega))
/-- What the frame tells of a slice of integers that came in. -/
def IsRow (k : IntKind) (w : World) (a : Option Addr) (len cap : Nat) (zs : List Int) : Prop :=
  (a = none ∧ len = 0 ∧ cap = 0 ∧ zs = []) ∨
  ∃ x, a = some x ∧ len ≤ cap ∧ cap ≤ maxLen ∧ zs.length = cap ∧ (∀ i, i < zs.length → w.cell? (x.add i) = some (.int k (zs.getD i 0))) ∧ ∀ n ∈ zs, (Lit.int k n).wf = true
theorem IsRow.len {k : IntKind} {w : World} {a : Option Addr} {len cap : Nat} {zs : List Int} (h : IsRow k w a len cap zs) : len ≤ cap ∧ len ≤ maxLen := by
  rcases h with ⟨_, rfl, rfl, _⟩ | ⟨x, _, h1, h2, _⟩
  · exact ⟨Nat.le_refl _, Nat.zero_le _⟩
  · exact ⟨h1, by omega⟩
theorem IsRow.bytes {w : World} {a : Option Addr} {len cap : Nat} {zs : List Int} (h : IsRow .u8 w a len cap zs) : Bytes w w.heap.size a len := by
  rcases h with ⟨_, h0, _⟩ | ⟨x, rfl, h1, h2, hz, hc, hw⟩
  · exact .inl h0
  · by_cases h0 : len = 0
    · exact .inl h0
    · right
      obtain ⟨b, o, spot⟩ := x
      have hc0 := hc 0 (by omega)
      have hs : spot = none := by simpa [Addr.add] using World.cell?_spot hc0
      subst hs
      refine ⟨b, o, rfl, ?_, fun k hk => ?_⟩
      · have := block_lt_of_cell hc0
        simpa [Addr.add] using this
      · have hck := hc k (by omega)
        rw [Addr.add_lit] at hck
        have hwf := hw (zs.getD k 0) (by rw [List.getD_eq_getElem?_getD, List.getElem?_eq_getElem (by omega)]; exact List.getElem_mem (by omega))
        have hb := bounds_u8 hwf
        exact ⟨_, hb.1, hb.2, hck⟩
theorem Bytes.more {w : World} {B B' n : Nat} {A : Option Addr} (h : Bytes w B A n) (hB : B ≤ B') : Bytes w B' A n := by
  rcases h with h | ⟨b, o, hA, hb, hc⟩
  · exact .inl h
  · exact .inr ⟨b, o, hA, by omega, hc⟩
end Go.Proofs.YtlingfbmphaphaaDoor
namespace Go.Proofs.YtlingfbmphaphaaDoor
open Go.RowKit
/-- t is the type of slices whose elements, of type T, are one cell each. -/
def OneCell (t T : TypeId) : Prop := Tryd.prog.underlying t = some (.slice T) ∧ ∃ z b, (Tryd.prog.info? T).map (fun i => (i.zero, i.size, i.bytes)) = some (some z, 1, b) ∧ z.cells.size = 1 ∧ b ≤ 24
def Own1 (T : TypeId) (w : World) (B : Nat) (v : Value) (cs : List Value) : Prop := w.ownsRow B T 1 v cs.length cs
section
variable {T : TypeId} {w w' : World} {B : Nat} {v : Value} {cs : List Value}
theorem Own1.form (h : Own1 T w B v cs) : ∃ A c, v = .slice A cs.length c ∧ cs.length ≤ c ∧ c ≤ maxLen ∧ Row w w.heap.size A cs ∧ (∀ a, A = some a → B ≤ a.block) := by
  obtain ⟨h1, h2⟩ := h
  rcases h2 with ⟨rfl, h0⟩ | ⟨g, cap, cur, rfl, hg, hh, hnc, hc, hsz, ht⟩
  · have : cs = [] := List.eq_nil_of_length_eq_zero h0
    subst this
    exact ⟨none, 0, rfl, Nat.le_refl _, by simp [maxLen], .inl rfl, fun a h => by cases h⟩
  · refine ⟨some ⟨g, 0, none⟩, cap, rfl, hnc, hc, .inr ⟨g, 0, rfl, (Array.getElem?_eq_some_iff.1 hh).1, fun j u hu => ?_⟩, fun a h => by injection h with h; subst h; exact hg⟩
    rw [Nat.zero_add, cell_of_row w g j cur T (0, 0) hh]
    rw [← ht, List.getElem?_take] at hu
    split at hu
    · simpa using hu
    · cases hu
theorem Own1.kept {row : Option Nat} (h : Own1 T w B v cs) (hg : w.grownBy w' row) (hne : ∀ k, v.ownBlock = some k → some k ≠ row) : Own1 T w' B v cs := by
  refine World.ownsRow.kept h hg ?_
  rcases hb : v.ownBlock with _ | k
  · exact .inl rfl
  · exact .inr (hne k hb)
theorem Own1.ob (h : Own1 T w B v cs) : ∀ g, v.ownBlock = some g → B ≤ g ∧ g < w.heap.size := World.ownsRow.lt h
theorem Own1.alloc (h : Own1 T w B v cs) (o : Obj) : Own1 T (w.alloc o) B v cs := World.ownsRow.alloc h o
theorem Own1.less {B' : Nat} (h : Own1 T w B v cs) (hB : B' ≤ B) : Own1 T w B' v cs := by
  obtain ⟨h1, h2⟩ := h
  refine ⟨h1, ?_⟩
  rcases h2 with h2 | ⟨g, cap, cur, rfl, hg, r⟩
  · exact .inl h2
  · exact .inr ⟨g, cap, cur, rfl, by omega, r⟩
theorem Own1.below (h : Own1 T w B v cs) (hb : Below w.heap.size w w') : Own1 T w' B v cs := by
  obtain ⟨h1, h2⟩ := h
  refine ⟨h1, ?_⟩
  rcases h2 with h2 | ⟨g, cap, cur, rfl, hg, hh, r⟩
  · exact .inl h2
  · exact .inr ⟨g, cap, cur, rfl, hg, (hb.block g (Array.getElem?_eq_some_iff.1 hh).1).trans hh, r⟩
theorem own1_nil (w : World) (B : Nat) (T : TypeId) : Own1 T w B (.slice none 0 0) [] := World.ownsRow_nil w B T 1
theorem own1_new (hb : B ≤ w.heap.size) : Own1 T (w.alloc (.cells #[] T)) B (.slice (some ⟨w.heap.size, 0, none⟩) 0 0) [] :=
  World.ownsRow_made w #[] 0 hb (by simp [maxLen]) rfl
theorem own1_lit (cs : Array Value) (hb : B ≤ w.heap.size) (hs : cs.size ≤ 1000) : Own1 T (w.alloc (.cells cs T)) B (.slice (some ⟨w.heap.size, 0, none⟩) cs.size cs.size) cs.toList := by
  unfold Own1
  refine ⟨by simp, .inr ⟨w.heap.size, cs.size, cs, by simp, hb, heap_alloc_new w _, by simp, by simp only [maxLen]; omega, by simp, List.take_of_length_le (by simp)⟩⟩
theorem below_own1 {W : World} (hb : Below W.heap.size W w) (ho : Own1 T w W.heap.size v cs) (hg : w.grownBy w' v.ownBlock) : Below W.heap.size W w' :=
  hb.grown hg hb.size fun g hg => (ho.ob g hg).1
set_option maxRecDepth 100000 in
theorem run_append1 {t : TypeId} (h1 : OneCell t T) (w : World) (ty : TypeId) (B : Nat) (v : Value) (cs : List Value) (hown : Own1 T w B v cs) (Bd : Nat) (A : Option Addr) (m d : Nat) (cs2 : List Value) (hm : m = cs2.length) (hr : Row w Bd A cs2)
    (hone : ∀ u ∈ cs2, u.oneCell' = true) (hlen : cs.length + cs2.length ≤ 1000000) (hbase : B ≤ w.heap.size) :
    ∃ v' w', (Builtin.append_ #[t, t] ty #[v, .slice A m d]).run Tryd.prog w = .ok v' w' ∧ Own1 T w' B v' (cs ++ cs2) ∧ w.grownBy w' v.ownBlock ∧ (v'.ownBlock = v.ownBlock ∨ v'.ownBlock = some w.heap.size) := by
  subst hm
  obtain ⟨ht, z, b, hi, hz1, hb⟩ := h1
  obtain ⟨i0, hi0, hz0, hsz, hby⟩ := info_parts hi
  rcases A with _ | ad
  · have h0 : cs2 = [] := by
      rcases hr with hr | ⟨b, o, hA, _⟩
      · exact hr
      · cases hA
    subst h0
    refine ⟨v, w, ?_, by simpa using hown, World.grownBy.refl w _, .inl rfl⟩
    rcases hown.2 with ⟨rfl, h0⟩ | ⟨g, cap, cur, rfl, _, _, hnc, _⟩
    · simp [Builtin.append_, run_underlying ht, sizeOf, typeInfo, hi0, Builtin.lenOf, Builtin.firstCells]
    · simp [Builtin.append_, run_underlying ht, sizeOf, typeInfo, hi0, Builtin.lenOf, Builtin.firstCells, hnc, storeCells]
  · have hcells : ∀ j u, cs2[j]? = some u → w.cell? (ad.add j) = some u := by
      intro j u hu
      rcases hr with hr | ⟨b, o, hA, hb, hc⟩
      · rw [hr] at hu; simp at hu
      · injection hA with hA
        subst hA
        rw [Addr.add_lit]; exact hc j u hu
    obtain ⟨v', w', hrun, h2, h3, _, h5⟩ := run_append_own_at (P := Tryd.prog) w B t ty T i0 z 1 b ht hi0 hz0 hsz hby hz1 (by omega) v cs.length cs hown ad cs2.length d cs2 (by simp) hcells hone (by simp only [maxLen]; omega) (by have := Nat.mul_le_mul hlen hb; omega) hbase
    exact ⟨v', w', hrun, by unfold Own1; rw [List.length_append]; exact h2, h3, h5⟩
theorem wp_append1 {t : TypeId} (h1 : OneCell t T) {o : Oper} {a : Act} {w : World} {K : Act → World → Prop} {Q : Exit → Act → World → Prop} (s x : Operand)
    (ho : o.op = .call { callee := .builtin .append, args := #[s, x], argTypes := #[t, t] }) (B : Nat) (v : Value) (cs : List Value) (hs : a.eval s = v) (hown : Own1 T w B v cs)
    (Bd : Nat) (A : Option Addr) (m d : Nat) (cs2 : List Value) (hm : m = cs2.length) (hx : a.eval x = .slice A m d) (hr : Row w Bd A cs2) (hone : ∀ u ∈ cs2, u.oneCell' = true) (hlen : cs.length + cs2.length ≤ 1000000) (hbase : B ≤ w.heap.size)
    (h : ∀ v' w', Own1 T w' B v' (cs ++ cs2) → w.grownBy w' v.ownBlock → (v'.ownBlock = v.ownBlock ∨ v'.ownBlock = some w.heap.size) → K (a.put o.dst v') w') : o.wp Tryd.prog a w K Q := by
  obtain ⟨v', w', hrun, h2, h3, h4⟩ := run_append1 h1 w o.type B v cs hown Bd A m d cs2 hm hr hone hlen hbase
  unfold Oper.wp execOp
  simp only [ho, resolve, invoke, builtin, Sem.run_bind, Sem.run_pure, Result.andThen_ok, List.map_toArray, List.map_cons, List.map_nil, hs, hx, hrun]
  exact h v' w' h2 h3 h4
/-- 'append' at its place in a walk, its guard (if there is one) decided. -/
theorem app1 {t : TypeId} (h1 : OneCell t T) {ops : Array Oper} {rest : List Oper} {o : Oper} {a : Act} {w : World} {Q : Exit → Act → World → Prop} (hw : Region.wanted o (yielded ops a.tmps) = true) (s x : Operand)
    (ho : o.op = .call { callee := .builtin .append, args := #[s, x], argTypes := #[t, t] }) (B : Nat) (v : Value) (cs : List Value) (hs : a.eval s = v) (hown : Own1 T w B v cs)
    (Bd : Nat) (A : Option Addr) (m d : Nat) (cs2 : List Value) (hm : m = cs2.length) (hx : a.eval x = .slice A m d) (hr : Row w Bd A cs2) (hone : ∀ u ∈ cs2, u.oneCell' = true) (hlen : cs.length + cs2.length ≤ 1000000) (hbase : B ≤ w.heap.size)
    (h : ∀ v' w', Own1 T w' B v' (cs ++ cs2) → w.grownBy w' v.ownBlock → (v'.ownBlock = v.ownBlock ∨ v'.ownBlock = some w.heap.size) → wpList Tryd.prog ops Q rest (a.put o.dst v') w') : wpList Tryd.prog ops Q (o :: rest) a w :=
  BigFrame.wpList_want hw fun _ hK => wp_append1 h1 s x ho B v cs hs hown Bd A m d cs2 hm hx hr hone hlen hbase fun v' w' h2 h3 h4 => hK _ _ (h v' w' h2 h3 h4)
/-- 'append' with no guard, in a drawn region. -/
theorem step1 {t : TypeId} (h1 : OneCell t T) {ops : Array Oper} {o : Oper} {a : Act} {w : World} {K : Act → World → Prop} {Q : Exit → Act → World → Prop} {E : Prop} (hgd : o.guard = none) (s x : Operand)
    (ho : o.op = .call { callee := .builtin .append, args := #[s, x], argTypes := #[t, t] }) (B : Nat) (v : Value) (cs : List Value) (hs : a.eval s = v) (hown : Own1 T w B v cs)
    (Bd : Nat) (A : Option Addr) (m d : Nat) (cs2 : List Value) (hm : m = cs2.length) (hx : a.eval x = .slice A m d) (hr : Row w Bd A cs2) (hone : ∀ u ∈ cs2, u.oneCell' = true) (hlen : cs.length + cs2.length ≤ 1000000) (hbase : B ≤ w.heap.size)
    (h : ∀ v' w', Own1 T w' B v' (cs ++ cs2) → w.grownBy w' v.ownBlock → (v'.ownBlock = v.ownBlock ∨ v'.ownBlock = some w.heap.size) → K (a.put o.dst v') w') : if Region.wanted o (yielded ops a.tmps) = true then Oper.wp Tryd.prog o a w K Q else E := by
  have hw : Region.wanted o (yielded ops a.tmps) = true := by simp [Region.wanted, hgd]
  rw [if_pos hw]
  exact wp_append1 h1 s x ho B v cs hs hown Bd A m d cs2 hm hx hr hone hlen hbase h
/-- A block that was just made, as a row. -/
theorem row_lit (w : World) (cs : Array Value) (T : TypeId) : Row (w.alloc (.cells cs T)) (w.heap.size + 1) (some ⟨w.heap.size, 0, none⟩) cs.toList :=
  .inr ⟨_, 0, rfl, Nat.lt_succ_self _, fun j u hu => by rw [Nat.zero_add, cell_of_row _ _ j cs T (0, 0) (heap_alloc_new w _)]; simpa using hu⟩
end
end Go.Proofs.YtlingfbmphaphaaDoor
namespace Go.Proofs.YtlingfbmphaphaaDoor
open Go.RowKit
/-- What was there below B and from T on is as before. -/
def Within (w w' : World) (B T : Nat) : Prop := w'.os = w.os ∧ w'.tape = w.tape ∧ w'.output = w.output ∧ w.heap.size ≤ w'.heap.size ∧ ∀ k, k < w.heap.size → (k < B ∨ T ≤ k) → w'.heap[k]? = w.heap[k]?
theorem Within.refl (w : World) (B T : Nat) : Within w w B T := ⟨rfl, rfl, rfl, Nat.le_refl _, fun _ _ _ => rfl⟩
theorem Within.grown {w w1 w2 : World} {B T : Nat} {row : Option Nat} (h : Within w w1 B T) (hg : w1.grownBy w2 row) (hr : ∀ k, row = some k → B ≤ k ∧ k < T) : Within w w2 B T :=
  ⟨hg.os.trans h.1, hg.tape.trans h.2.1, hg.output.trans h.2.2.1, Nat.le_trans h.2.2.2.1 hg.size, fun k hk hb => (hg.block k (Nat.lt_of_lt_of_le hk h.2.2.2.1) (fun e => by have := hr k e.symm; omega)).trans (h.2.2.2.2 k hk hb)⟩
theorem below_within {W w w' : World} {B T : Nat} (hb : Below W.heap.size W w) (hw : Within w w' B T) (hB : W.heap.size ≤ B) : Below W.heap.size W w' :=
  ⟨hw.1.trans hb.os, hw.2.1.trans hb.tape, hw.2.2.1.trans hb.output, Nat.le_trans hb.size hw.2.2.2.1, fun k hk => (hw.2.2.2.2 k (Nat.lt_of_lt_of_le hk hb.size) (.inl (by omega))).trans (hb.block k hk)⟩
/-- A value is handed back, and nothing of W has turned. -/
def Back (v : Value) (W : World) (e : Ending) (w' : World) : Prop := e = .returned v ∧ Below W.heap.size W w'
end Go.Proofs.YtlingfbmphaphaaDoor
