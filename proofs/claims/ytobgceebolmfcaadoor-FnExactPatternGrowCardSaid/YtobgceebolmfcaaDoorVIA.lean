/- Contracts of the program: the bits of a pattern. Contracts of the program: the places of a pattern, one by one. Contracts of the program: what the cells of a pattern cost. Contracts of the program: a pattern as a mask. -/
import Derived.Test.YtobgceebolmfcaaDoorIVA
import Derived.Test.YtobgceebolmfcaaDoorVMA
import Derived.Test.YtobgceebolmfcaaDoorIMC
namespace Go.Proofs.YtobgceebolmfcaaDoor
open Go.RowKit Go.Shelf
abbrev TPt : TypeId := 61
abbrev patV (x : Nat) : Value := .int .u64 (x : Int)
/-- The table by which the least bit is found, in its variable. -/
def TabW (w : World) : Prop := ∀ j, j < 64 → w.cell? ⟨1, j, none⟩ = some (.int .u8 ((Lib.deBruijn64tab.getD j 0 : Nat) : Int))
theorem TabW.below {w w' : World} (h : TabW w) (hb : Below w.heap.size w w') : TabW w' := fun j hj => (hb.cell (p := ⟨1, j, none⟩) (World.block_lt_of_cell? _ _ (h j hj))).trans (h j hj)
set_option maxHeartbeats 1000000 in
theorem iBit_is (a b : Nat) (ha : a < 4) (hb : b < 4) (w : World) :
    Calls Tryd.prog 76 #[plV a b] w fun e w' => e = .returned (patV (2 ^ (4 * a + b))) ∧ Below w.heap.size w w' := by
  obtain ⟨W1, hW1, b1, hz1, k1⟩ := one_blk w #[.int .i64 a, .int .i64 b] TPl
  obtain ⟨p0, p1, _, _⟩ := blk2 k1
  have HW := Lib.hid hW1.symm
  have HB := Lib.hid b1
  clear hW1 b1 hz1 k1
  have hw : IntKind.u64.wrap (2 ^ (a * 4 + b)) = ((2 ^ (4 * a + b) : Nat) : Int) := by
    have h1 := bit_lt (show 4 * a + b < 16 by omega)
    have h2 : (2 : Int) ^ (a * 4 + b) = ((2 ^ (4 * a + b) : Nat) : Int) := by rw [Nat.mul_comm 4 a]; simp
    rw [h2]
    generalize 2 ^ (4 * a + b) = v at h1
    rw [IntKind.wrap_u64]; omega
  have HWR := Lib.hid hw
  clear hw
  go_enter Tryd.func76, Tryd.ntmps76
  go_wp2
  rw [HW.out]
  go_wp2
  rw [HWR.out]
  go_ret
  exact ⟨rfl, HB.out⟩
theorem iBit_as (a b : Nat) (ha : a < 4) (hb : b < 4) (z : Nat) (hz : 2 ^ (4 * a + b) = z) (w : World) :
    Calls Tryd.prog 76 #[plV a b] w fun e w' => e = .returned (patV z) ∧ Below w.heap.size w w' := by rw [← hz]; exact iBit_is a b ha hb w
theorem pop_steps {x : Nat} (hx : x < 65536) : ∃ x1 x2 y3 x3 x4 x5 x6 : Nat,
    IntKind.u64.wrap (bits BinOp.and IntKind.u64 ((x : Int) / 2) 6148914691236517205 + bits BinOp.and IntKind.u64 (x : Int) 6148914691236517205) = (x1 : Int) ∧
    IntKind.u64.wrap (bits BinOp.and IntKind.u64 ((x1 : Int) / 4) 3689348814741910323 + bits BinOp.and IntKind.u64 (x1 : Int) 3689348814741910323) = (x2 : Int) ∧
    IntKind.u64.wrap ((x2 : Int) / 16 + (x2 : Int)) = (y3 : Int) ∧ bits BinOp.and IntKind.u64 (y3 : Int) 1085102592571150095 = (x3 : Int) ∧
    IntKind.u64.wrap ((x3 : Int) + (x3 : Int) / 256) = (x4 : Int) ∧ IntKind.u64.wrap ((x4 : Int) + (x4 : Int) / 65536) = (x5 : Int) ∧ IntKind.u64.wrap ((x5 : Int) + (x5 : Int) / 4294967296) = (x6 : Int) ∧
    IntKind.i64.wrap (x6 : Int) = (x6 : Int) ∧ bits BinOp.and IntKind.i64 (x6 : Int) 127 = (popN x : Int) := by
  have hp := pop16_eq hx
  obtain ⟨x1, h1⟩ : ∃ x1, x1 = (x / 2 &&& 6148914691236517205) + (x &&& 6148914691236517205) := ⟨_, rfl⟩
  have a1 : x / 2 &&& 6148914691236517205 ≤ x / 2 := Nat.and_le_left
  have a2 : x &&& 6148914691236517205 ≤ x := Nat.and_le_left
  obtain ⟨x2, h2⟩ : ∃ x2, x2 = (x1 / 4 &&& 3689348814741910323) + (x1 &&& 3689348814741910323) := ⟨_, rfl⟩
  have a3 : x1 / 4 &&& 3689348814741910323 ≤ x1 / 4 := Nat.and_le_left
  have a4 : x1 &&& 3689348814741910323 ≤ x1 := Nat.and_le_left
  obtain ⟨x3, h3⟩ : ∃ x3, x3 = (x2 / 16 + x2) &&& 1085102592571150095 := ⟨_, rfl⟩
  have a5 : (x2 / 16 + x2) &&& 1085102592571150095 ≤ x2 / 16 + x2 := Nat.and_le_left
  have e : popN x = (x3 + x3 / 256 + (x3 + x3 / 256) / 65536 + (x3 + x3 / 256 + (x3 + x3 / 256) / 65536) / 4294967296) &&& 127 := by
    rw [← hp, pop16]
    rw [← h1, ← h2, ← h3]
  refine ⟨x1, x2, x2 / 16 + x2, x3, x3 + x3 / 256, _, _, ?_, ?_, ?_, ?_, ?_, (?_ : _ = ((x3 + x3 / 256 + (x3 + x3 / 256) / 65536 : Nat) : Int)), (?_ : _ = ((x3 + x3 / 256 + (x3 + x3 / 256) / 65536 + (x3 + x3 / 256 + (x3 + x3 / 256) / 65536) / 4294967296 : Nat) : Int)), ?_, ?_⟩
  · have b1 := bits_and_u64_nat (x / 2) 6148914691236517205 (by omega) (by decide)
    have b2 := bits_and_u64_nat x 6148914691236517205 (by omega) (by decide)
    rw [show (x : Int) / 2 = ((x / 2 : Nat) : Int) by omega, show (6148914691236517205 : Int) = ((6148914691236517205 : Nat) : Int) from rfl, b1, b2, IntKind.wrap_u64]
    omega
  · have b1 := bits_and_u64_nat (x1 / 4) 3689348814741910323 (by omega) (by decide)
    have b2 := bits_and_u64_nat x1 3689348814741910323 (by omega) (by decide)
    rw [show (x1 : Int) / 4 = ((x1 / 4 : Nat) : Int) by omega, show (3689348814741910323 : Int) = ((3689348814741910323 : Nat) : Int) from rfl, b1, b2, IntKind.wrap_u64]
    omega
  · rw [IntKind.wrap_u64]; omega
  · have b1 := bits_and_u64_nat (x2 / 16 + x2) 1085102592571150095 (by omega) (by decide)
    rw [show (1085102592571150095 : Int) = ((1085102592571150095 : Nat) : Int) from rfl, b1, h3]
  · rw [IntKind.wrap_u64]; omega
  · rw [IntKind.wrap_u64]; omega
  · rw [IntKind.wrap_u64]; omega
  · rw [IntKind.wrap_i64]; omega
  · have b1 := (bits_nat .i64 62 (by decide) (fun n h1 h2 => by rw [IntKind.wrap_i64]; omega) (x3 + x3 / 256 + (x3 + x3 / 256) / 65536 + (x3 + x3 / 256 + (x3 + x3 / 256) / 65536) / 4294967296) 127 (by omega) (by decide)).1
    rw [e]; exact b1
set_option maxHeartbeats 1000000 in
theorem iOnes64_is (x : Nat) (hx : x < 65536) (w : World) :
    Calls Tryd.prog 90 #[patV x] w fun e w' => e = .returned (.int .i64 (popN x)) ∧ w' = w := by
  obtain ⟨x1, x2, y3, x3, x4, x5, x6, h1, h2, h3, h4, h5, h6, h7, h8, h9⟩ := pop_steps hx
  go_enter Tryd.func90, Tryd.ntmps90
  go_wp2
  go_ret
  exact ⟨rfl, rfl⟩
set_option maxHeartbeats 1000000 in
theorem iOnes_is (x : Nat) (hx : x < 65536) (w : World) :
    Calls Tryd.prog 77 #[patV x] w fun e w' => e = .returned (.int .i64 (popN x)) ∧ w' = w := by
  go_enter Tryd.func77, Tryd.ntmps77
  go_wp2_with fail
  refine (iOnes64_is x hx _).mono ?_
  rintro e w1 ⟨rfl, rfl⟩
  go_wp2
  go_ret
  exact ⟨rfl, rfl⟩
set_option maxHeartbeats 1000000 in
theorem iMany2_is (x : Nat) (hx : x < 65536) (w : World) :
    Calls Tryd.prog 49 #[patV x] w fun e w' => e = .returned (.int .i64 (popN x)) ∧ w' = w := by
  go_enter Tryd.func49, Tryd.ntmps49
  go_wp2_with fail
  refine (iOnes_is x hx _).mono ?_
  rintro e w1 ⟨rfl, rfl⟩
  go_wp2
  go_ret
  exact ⟨rfl, rfl⟩
set_option maxHeartbeats 1000000 in
theorem iTz64_is (x k idx : Nat) (w : World) (hx0 : ((x : Int) == 0) = false)
    (key : IntKind.u64.wrap (bits BinOp.and IntKind.u64 (x : Int) (IntKind.u64.wrap (-(x : Int))) * 285870213051353865) / 288230376151711744 = (idx : Int))
    (hi : idx < 64) (hk : k < 64) (hcell : w.cell? ⟨1, idx, none⟩ = some (.int .u8 k)) :
    Calls Tryd.prog 93 #[patV x] w fun e w' => e = .returned (.int .i64 k) ∧ w' = w := by
  go_enter Tryd.func93, Tryd.ntmps93
  go_wp2_with (simp only [key])
  go_ret
  exact ⟨rfl, rfl⟩
theorem tz_key {x a : Nat} (hx : x < 65536) (hx0 : x ≠ 0) (hlow : x &&& (18446744073709551616 - x) = a) :
    IntKind.u64.wrap (bits BinOp.and IntKind.u64 (x : Int) (IntKind.u64.wrap (-(x : Int))) * 285870213051353865) / 288230376151711744 = ((a * 285870213051353865 % 18446744073709551616 / 288230376151711744 : Nat) : Int) := by
  have e1 : IntKind.u64.wrap (-(x : Int)) = ((18446744073709551616 - x : Nat) : Int) := by rw [IntKind.wrap_u64]; omega
  rw [e1, bits_and_u64_nat x _ (by omega) (by omega), hlow, IntKind.wrap_u64]
  omega
set_option maxHeartbeats 1000000 in
theorem iTz_is (x : Nat) (h0 : x ≠ 0) (hx : x < 65536) (w : World) (hT : TabW w) :
    Calls Tryd.prog 83 #[patV x] w fun e w' => e = .returned (.int .i64 (Lib.ctz 64 x)) ∧ w' = w := by
  obtain ⟨hlow, hk⟩ := Lib.lowest_bit 64 x h0 (by omega)
  obtain ⟨hi, htab⟩ := Lib.deBruijn64_at _ hk
  have hcell := hT _ hi
  rw [htab] at hcell
  have H := Lib.hid (iTz64_is x _ _ w (by simp; omega) (tz_key hx h0 hlow) hi hk hcell)
  clear hlow hk hi htab hcell
  go_enter Tryd.func83, Tryd.ntmps83
  go_wp2_with fail
  refine H.out.mono ?_
  rintro e w1 ⟨rfl, rfl⟩
  go_wp2
  go_ret
  exact ⟨rfl, rfl⟩
set_option maxHeartbeats 1000000 in
theorem iFore_is (x : Nat) (h0 : x ≠ 0) (hx : x < 65536) (w : World) (hT : TabW w) :
    Calls Tryd.prog 68 #[patV x] w fun e w' => e = .returned (plV (Lib.ctz 64 x / 4 : Nat) (Lib.ctz 64 x % 4 : Nat)) ∧ Below w.heap.size w w' := by
  have hb : Below w.heap.size w (w.alloc (.cells #[.int .i64 0, .int .i64 0] TPl)) := (Below.refl _ _).alloc (Nat.le_refl _) _
  have H := Lib.hid (iTz_is x h0 hx _ (hT.below hb))
  have h16 := (ctz_bit h0 hx).1
  obtain ⟨z, hz⟩ : ∃ z, Lib.ctz 64 x = z := ⟨_, rfl⟩
  rw [hz] at H h16 ⊢
  have HB := Lib.hid hb
  clear hb hz hT
  go_enter Tryd.func68, Tryd.ntmps68
  go_wp2_with fail
  refine H.out.mono ?_
  rintro e w1 ⟨rfl, rfl⟩
  go_wp2
  refine bodyPost_ret (v := plV (z / 4 : Nat) (z % 4 : Nat)) (by simp [results, Tryd.results68, go_sem]) rfl ?_
  exact ⟨rfl, (Below.refl _ _).alloc (Nat.le_refl _) _⟩
set_option maxHeartbeats 1000000 in
theorem iPlcs_any (x : Nat) (w : World) : Calls Tryd.prog 71 #[patV x] w fun e w' => e = .returned (.func (.func 84) #[] #[.pointer (some ⟨w.heap.size, 0, none⟩)]) ∧ w' = w.alloc (.cells #[patV x] TPt) := by
  go_enter Tryd.func71, Tryd.ntmps71
  go_wp2
  go_ret
  exact ⟨rfl, rfl⟩
end Go.Proofs.YtobgceebolmfcaaDoor
namespace Go.Proofs.YtobgceebolmfcaaDoor
open Go.RowKit Go.Shelf
attribute [local go_sem] Oper.semAt_some
/-- A bit that is set. -/
abbrev PB (x : Nat) := {i : Fin 16 // x.testBit i.val = true}
abbrev pfV {x : Nat} (i : PB x) : Array Value := #[plV (i.1.val / 4 : Nat) (i.1.val % 4 : Nat)]
def pick (x : Nat) (k : Fin 16) : Option (PB x) := if h : x.testBit k.val = true then some ⟨k, h⟩ else none
/-- The bits that are set and less than i, in order. -/
def upP (x i : Nat) : List (PB x) := ((List.finRange 16).take i).filterMap (pick x)
def allP (x : Nat) : List (PB x) := (List.finRange 16).filterMap (pick x)
theorem upP_zero (x : Nat) : upP x 0 = [] := by simp [upP]
theorem upP_all (x : Nat) : upP x 16 = allP x := by simp [upP, allP, List.take_of_length_le]
theorem upP_succ {x i : Nat} (hi : i < 16) : upP x (i + 1) = upP x i ++ (pick x ⟨i, hi⟩).toList := by
  unfold upP
  have e : (List.finRange 16)[i]'(by simpa using hi) = (⟨i, hi⟩ : Fin 16) := by simp
  rw [List.take_succ_eq_append_getElem (by simpa using hi), List.filterMap_append, e]
  congr 1
theorem upP_step {x i : Nat} (hi : i < 16) (h : x.testBit i = true) : upP x (i + 1) = upP x i ++ [⟨⟨i, hi⟩, h⟩] := by
  rw [upP_succ hi]
  unfold pick
  rw [dif_pos h]; rfl
theorem upP_gap {x i : Nat} : ∀ n, (∀ b, i ≤ b → b < i + n → b < 16 → x.testBit b = false) → upP x (i + n) = upP x i
  | 0, _ => rfl
  | n + 1, h => by
    have ih := upP_gap n fun b h1 h2 h3 => h b h1 (by omega) h3
    by_cases hi : i + n < 16
    · rw [← Nat.add_assoc, upP_succ hi, ih]
      unfold pick
      rw [dif_neg (by rw [h (i + n) (by omega) (by omega) hi]; decide)]; simp
    · rw [← ih]
      unfold upP
      rw [List.take_of_length_le (by simp; omega), List.take_of_length_le (by simp; omega)]
theorem upP_pre {x i : Nat} : upP x i <+: allP x := by
  unfold upP allP
  exact List.IsPrefix.filterMap _ (List.take_prefix _ _)
/-- What lies as it lay: the block B, the table. -/
abbrev KP (B : Nat) (X Y : World) : Prop := Y.heap[B]? = X.heap[B]? ∧ Y.heap[1]? = X.heap[1]?
theorem kP_t {B : Nat} {X Y Z : World} (h : KP B X Y) (k : KP B Y Z) : KP B X Z := ⟨k.1.trans h.1, k.2.trans h.2⟩
theorem TabW.lt {w : World} (h : TabW w) : 1 < w.heap.size := World.block_lt_of_cell? _ _ (h 0 (by omega))
theorem TabW.same {w w' : World} (h : TabW w) (e : w'.heap[1]? = w.heap[1]?) : TabW w' := fun j hj => (World.cell?_of_block (w := w) (a := ⟨1, j, none⟩) e).trans (h j hj)
theorem kP_b {B n : Nat} (hB : B < n) (hT : 1 < n) (W : World) (l : Nat) (o o' : Obj) (hl : n ≤ l) (_ : W.heap[l]? = some o) (_ : o.isCells = false) (_ : o.isWalk = false) : KP B W (W.putObj l o') := ⟨World.putObj_heap_other (by omega), World.putObj_heap_other (by omega)⟩
theorem kP_below {B : Nat} {X Y : World} (h : Below X.heap.size X Y) (hB : B < X.heap.size) (hT : 1 < X.heap.size) : KP B X Y := ⟨h.block _ hB, h.block _ hT⟩
theorem kP_set {B g c : Nat} {X : World} {v : Value} (h : B ≠ g) (hT : 1 ≠ g) : KP B X (X.setCell ⟨g, c, none⟩ v) := ⟨Below.heap_setCell X ⟨g, c, none⟩ v B h, Below.heap_setCell X ⟨g, c, none⟩ v _ hT⟩
/-- What is left of a pattern when the bits less than i are gone. -/
def RestP (x i r : Nat) : Prop := r < 65536 ∧ ∀ b, r.testBit b = (x.testBit b && decide (i ≤ b))
theorem rest_zero {x : Nat} (hx : x < 65536) : RestP x 0 x := ⟨hx, fun b => by simp⟩
theorem rest_next {x i r : Nat} (h : RestP x i r) (h0 : r ≠ 0) : Lib.ctz 64 r < 16 ∧ x.testBit (Lib.ctz 64 r) = true ∧ upP x (Lib.ctz 64 r) = upP x i ∧ RestP x (Lib.ctz 64 r + 1) (r &&& (18446744073709551615 - 2 ^ Lib.ctz 64 r)) ∧ r &&& (18446744073709551615 - 2 ^ Lib.ctz 64 r) < r := by
  obtain ⟨h1, h2, h3⟩ := ctz_bit h0 h.1
  generalize Lib.ctz 64 r = z at h1 h2 h3 ⊢
  have h4 := h.2 z
  rw [h2] at h4
  have h5 : x.testBit z = true ∧ i ≤ z := by
    have := h4.symm
    rw [Bool.and_eq_true, decide_eq_true_eq] at this; exact this
  have hz := bit_lt h1
  have hbit : ∀ b, (r &&& (18446744073709551615 - 2 ^ z)).testBit b = (x.testBit b && decide (z + 1 ≤ b)) := fun b => by
    rw [Nat.testBit_and, h.2 b]
    by_cases hb : b < 16
    · rw [not_bit hz (by omega), Nat.testBit_two_pow]
      by_cases e1 : b < z
      · have e2 := h3 b e1
        rw [h.2 b] at e2
        rw [e2]
        have : ¬ z + 1 ≤ b := by omega
        simp [this]
      · by_cases e2 : b = z
        · subst e2; simp
        · have a1 : i ≤ b := by omega
          have a2 : z + 1 ≤ b := by omega
          have a3 : ¬ z = b := fun e => e2 e.symm
          simp [a1, a2, a3]
    · have h6 : r.testBit b = false := by
        have : r < 2 ^ b := Nat.lt_of_lt_of_le h.1 (Nat.pow_le_pow_right (n := 2) (by omega) (show 16 ≤ b by omega))
        exact Nat.testBit_lt_two_pow this
      have h7 := h.2 b
      rw [h6] at h7
      have a1 : i ≤ b := by omega
      simp [a1] at h7
      simp [h7]
  refine ⟨h1, h5.1, ?_, ⟨and_lt h.1, hbit⟩, ?_⟩
  · obtain ⟨n, rfl⟩ : ∃ n, z = i + n := ⟨z - i, by omega⟩
    refine upP_gap n fun b hb1 hb2 _ => ?_
    have := h3 b hb2
    rw [h.2 b] at this
    simpa [hb1] using this
  · refine Nat.lt_of_le_of_ne Nat.and_le_left fun e => ?_
    have h9 := hbit z
    rw [e, h2] at h9
    simp at h9
    exact absurd h9.2 (by omega)
theorem rest_done {x i : Nat} (h : RestP x i 0) : upP x i = allP x := by
  rw [← upP_all]
  by_cases hi : i ≤ 16
  · obtain ⟨n, hn⟩ : ∃ n, i + n = 16 := ⟨16 - i, by omega⟩
    have e := upP_gap (x := x) (i := i) n fun b hb _ _ => by
      have := h.2 b
      simp [hb] at this
      exact this
    rw [hn] at e
    exact e.symm
  · unfold upP
    rw [List.take_of_length_le (by simp; omega), List.take_of_length_le (by simp)]
set_option maxRecDepth 100000 in
set_option maxHeartbeats 2000000 in
/-- The function value that goes through the places. -/
theorem plcs_stops (n : Nat) (hn : 2 ≤ n) (Bn x : Nat) (hx : x < 65536) (w : World) (hBn : Bn < w.heap.size) (hc : w.heap[Bn]? = some (.cells #[patV x] TPt (0, 0))) (hT : TabW w) :
    SeqStopsK Fence.wide n Tryd.prog 84 #[.pointer (some ⟨Bn, 0, none⟩)] (fun i : PB x => pfV i) (KP Bn) (fun ys => ys = allP x) (fun pre => pre <+: allP x) (allP x).length w := by
  intro l J Jx W hW hJ hJx hY h0
  have HY := Lib.hid hY
  have HJ := Lib.hid hJ
  have HTT := Lib.hid (show ∀ w', KP Bn w w' → TabW w' from fun w' h => hT.same h.2)
  have c0 : W.cell? ⟨Bn, 0, none⟩ = some (patV x) := (hW.cell (p := ⟨Bn, 0, none⟩) hBn).trans (cell_of_row _ _ 0 _ _ _ hc)
  have HLT := Lib.hid (show ∀ w', KP Bn w w' → Bn < w'.heap.size from fun w' h => (Array.getElem?_eq_some_iff.1 (h.1.trans hc)).1)
  have H0 := Lib.hid h0
  have HW := Lib.hid (show KP Bn w W from ⟨hW.block Bn hBn, hW.block _ hT.lt⟩)
  clear hY hJ hJx hc h0 hW hT
  refine callsIn_of_wp Tryd.func84 rfl trivial ?_ rfl
  simp only [Tryd.ntmps84, List.size_toArray, List.length_cons, List.length_nil, Nat.reduceAdd, Nat.reduceSub, Array.replicate_succ, Array.replicate_zero, List.push_toArray, List.append_toArray, List.nil_append, List.cons_append]
  gi_wp2
  clear c0
  gi_loopw [3] (fun v wr => ∃ i r : Nat, v = patV r ∧ RestP x i r ∧ J (upP x i) wr ∧ KP Bn w wr) (fun v _ => (intOf v).toNat)
  case atStart => exact ⟨0, x, rfl, rest_zero hx, by rw [upP_zero]; exact H0.out, HW.out⟩
  case round =>
    obtain ⟨i, r, rfl, hr, hj, hk⟩ := hrel
    have HR := Lib.hid hr
    have HJ1 := Lib.hid hj
    have HK1 := Lib.hid hk
    clear hr hj hk
    by_cases h0 : r = 0
    · subst h0
      have hJ1 := HJ1.out
      rw [rest_done HR.out] at hJ1
      have HJ9 := Lib.hid hJ1
      clear hJ1
      gi_wp2
      go_end0
      exact ⟨⟨_, rfl⟩, .inl ⟨_, rfl, HJ9.out⟩⟩
    · obtain ⟨h1, h2, h3, h4, h5⟩ := rest_next HR.out h0
      have HF := Lib.hid (iFore_is r h0 HR.out.1 wr (HTT.out _ HK1.out))
      have hr6 := HR.out.1
      obtain ⟨z, hz⟩ : ∃ z, Lib.ctz 64 r = z := ⟨_, rfl⟩
      rw [hz] at h1 h2 h3 h4 h5 HF
      obtain ⟨a, ha⟩ : ∃ a, z / 4 = a := ⟨_, rfl⟩
      obtain ⟨b, hb⟩ : ∃ b, z % 4 = b := ⟨_, rfl⟩
      rw [ha, hb] at HF
      have HA := Lib.hid ha
      have HB := Lib.hid hb
      have hab : a < 4 ∧ b < 4 ∧ 4 * a + b = z := by omega
      have hset := h2
      have HST := Lib.hid (upP_step h1 hset)
      have HPRE := Lib.hid (show upP x z ++ [⟨⟨z, h1⟩, hset⟩] <+: allP x by rw [← HST.out]; exact upP_pre)
      have hlen : (upP x z).length < (allP x).length := by
        have h := HPRE.out.length_le
        rw [List.length_append] at h
        simp at h; omega
      have HLEN := Lib.hid hlen
      have H2 := Lib.hid h3
      have H4 := Lib.hid h4
      have H5 := Lib.hid h5
      have hri : ¬ (r : Int) = 0 := by omega
      have HZ := Lib.hid hz
      clear hlen h2 h3 h4 h5 hz ha hb
      gi_wp2_with fail
      refine ⟨trivial, fun _ => by omega, ?_⟩
      refine (callsIn_wide.2 HF.out).mono ?_
      rintro e w2 ⟨rfl, b2⟩
      have HK2 := Lib.hid (kP_t HK1.out (kP_below b2 (HLT.out _ HK1.out) (HTT.out _ HK1.out).lt))
      have HJ2 := Lib.hid (show J (upP x z) w2 by rw [H2.out]; exact abides_b HJ.out HJ1.out b2)
      clear b2
      obtain ⟨fn, tmps, assign, body, hy, hR⟩ := HY.out (upP x z) ⟨⟨z, h1⟩, hset⟩ w2 HJ2.out HLEN.out
      dsimp only [pfV] at hy
      rw [HA.out, HB.out] at hy
      gi_wp2
      refine ⟨fun _ => by omega, ?_⟩
      refine hR.mono ?_
      clear hR hy
      rintro e w6 (⟨rfl, hj6, hk6⟩ | ⟨rfl, hx6⟩)
      · have HK6 := Lib.hid (kP_t HK2.out hk6)
        have HJ6 := Lib.hid (show J (upP x (z + 1)) w6 by rw [HST.out]; exact hj6)
        have hf6 := iFore_is r h0 HR.out.1 w6 (HTT.out _ HK6.out)
        rw [HZ.out, HA.out, HB.out] at hf6
        have HF6 := Lib.hid hf6
        clear hj6 hk6 hf6
        gi_wp2_with fail
        refine ⟨trivial, fun _ => by omega, ?_⟩
        refine (callsIn_wide.2 HF6.out).mono ?_
        rintro e w7 ⟨rfl, b7⟩
        have HK7 := Lib.hid (kP_t HK6.out (kP_below b7 (HLT.out _ HK6.out) (HTT.out _ HK6.out).lt))
        have HJ7 := Lib.hid (abides_b HJ.out HJ6.out b7)
        clear b7
        gi_wp2_with fail
        refine ⟨trivial, fun _ => by omega, ?_⟩
        refine (callsIn_wide.2 (iBit_is a b hab.1 hab.2.1 w7)).mono ?_
        rintro e w8 ⟨rfl, b8⟩
        have HK8 := Lib.hid (kP_t HK7.out (kP_below b8 (HLT.out _ HK7.out) (HTT.out _ HK7.out).lt))
        have HJ8 := Lib.hid (abides_b HJ.out HJ7.out b8)
        have hbits := less_int hr6 (bit_lt h1)
        rw [hab.2.2]
        generalize 2 ^ z = zz at hbits H4 H5 ⊢
        generalize r &&& (18446744073709551615 - zz) = r2 at hbits H4 H5 ⊢
        clear b8
        gi_wp2
        go_roundw
        case rel => exact ⟨z + 1, r2, rfl, H4.out, HJ8.out, HK8.out⟩
        case measure => have := H5.out; simp [intOf]; omega
      · have HX6 := Lib.hid hx6
        clear hx6
        gi_wp2
        refine bodyPost_ret (results_none rfl _ _ _) rfl ?_
        exact ⟨⟨_, rfl⟩, .inr ⟨_, HPRE.out, HX6.out⟩⟩
end Go.Proofs.YtobgceebolmfcaaDoor
namespace Go.Proofs.YtobgceebolmfcaaDoor
open Go.RowKit Go.Shelf
attribute [local go_sem] Oper.semAt_some
/-- A table's cell at a bit; the sum over some of them. -/
def cP (t : Tb) {x : Nat} (i : PB x) : Int := cF t (i.1.val / 4) (i.1.val % 4)
def sumP (t : Tb) {x : Nat} (l : List (PB x)) : Int := (l.map (cP t)).sum
theorem allP_len (x : Nat) : (allP x).length ≤ 16 := by
  have := List.length_filterMap_le (pick x) (List.finRange 16)
  simpa [allP] using this
theorem sumP_bd {t : Tb} {x q d : Nat} (hin : ∀ i : PB x, i.1.val / 4 < q ∧ i.1.val % 4 < d) (hc : ∀ k l, k < q → l < d → 0 ≤ cF t k l ∧ cF t k l ≤ 99) : ∀ l : List (PB x), 0 ≤ sumP t l ∧ sumP t l ≤ 99 * l.length
  | [] => by simp [sumP]
  | i :: l => by
    have h1 := sumP_bd hin hc l
    have h2 := hc _ _ (hin i).1 (hin i).2
    unfold sumP at h1 ⊢
    simp only [List.map_cons, List.sum_cons, List.length_cons, cP]
    omega
theorem sumP_snoc (t : Tb) {x : Nat} (l : List (PB x)) (i : PB x) : sumP t (l ++ [i]) = sumP t l + cP t i := by simp [sumP, List.sum_append]
set_option maxRecDepth 100000 in
set_option maxHeartbeats 4000000 in
theorem iPCost_is (W : World) (t : Tb) (v : Value) (hv : IsR W v t) (q d : Nat) (hq : t.length = q) (hr : ∀ k, k < q → (t.getD k []).length = d) (hc : ∀ k l, k < q → l < d → 0 ≤ cF t k l ∧ cF t k l ≤ 99)
    (x : Nat) (hx : x < 65536) (hin : ∀ i : PB x, i.1.val / 4 < q ∧ i.1.val % 4 < d) (h0 : 0 < q) (g : Int) (hg : sumP t (allP x) = g) (w : World) (hb : Below W.heap.size W w) (hT : TabW W) :
    Calls Tryd.prog 55 #[grV q d v, patV x] w (Back (.int .i64 g) W) := by
  have HIN := Lib.hid hin
  have HSB := Lib.hid (sumP_bd hin hc)
  have HCB := Lib.hid hc
  have HG := Lib.hid hg
  have HB := Lib.hid hb
  have HR := Lib.hid hr
  have hWw := hb.size
  have hTw := hT.below hb
  have htl := hTw.lt
  obtain ⟨A, c, rfl, a1, a2, hL⟩ := hv
  have HL := Lib.hid hL
  obtain ⟨b, o, _, _, rfl, _, _, _, _, _⟩ := hL.at_ 0 (by omega)
  rw [hq]
  have HQ := Lib.hid hq
  obtain ⟨W5, hW5, b5, hz5, k4, kt, k5⟩ := three_blk w #[.int .i64 q, .int .i64 d, .slice (some ⟨b, o, none⟩) q c] #[.int .i64 0] #[patV x] TGI TN TPt
  have HW5 := Lib.hid hW5.symm
  have HB5 := Lib.hid b5
  have HT5 := Lib.hid (hTw.below b5)
  clear hb hg hin hc hr a1 a2 hL hq hT hTw hW5
  refine (callsIn_wide (n := 6)).1 ?_
  refine callsIn_of_wp_marks Tryd.func55 rfl trivial ?_ rfl
  simp only [Tryd.ntmps55, List.size_toArray, List.length_cons, List.length_nil, Nat.reduceAdd, Nat.reduceSub, Array.replicate_succ, Array.replicate_zero, List.push_toArray, List.append_toArray, List.nil_append, List.cons_append]
  gi_wp2_with fail
  refine ⟨trivial, ?_⟩
  refine (callsIn_wide.2 (iPlcs_any x _)).mono ?_
  rintro e w3 ⟨rfl, rfl⟩
  gi_wp2
  rw [HW5.out]
  have hlt5 : w.heap.size + 1 + 1 < W5.heap.size := by omega
  have hN := allP_len x
  refine' wpIn_rangeFunc_ownH (α := PB x) rfl (by omega) (gf := 84) (lb := #[.pointer (some ⟨w.heap.size + 1 + 1, 0, none⟩)]) rfl trivial (enters_of Tryd.func84 (by kernel_rfl) rfl)
    (plcs_stops 5 (by omega) (w.heap.size + 1 + 1) x hx W5 (by omega) k5 HT5.out) kP_t (kP_b hlt5 (by omega)) (Below.refl _ _) (fun _ => rfl)
    (fun pre X => ((Boxed X (w.heap.size + 1) TN (.int .i64 (sumP t pre)) ∧ W5.heap.size ≤ X.heap.size) ∧ X.heap[w.heap.size]? = some (.cells #[.int .i64 q, .int .i64 d, .slice (some ⟨b, o, none⟩) q c] TGI (0, 0))) ∧ Below w.heap.size w X)
    (fun _ _ _ => False)
    (OwnFrom.and (fun s X Y row hs hg hr => ⟨⟨boxed_own _ TN (fun (_ : Unit) => Value.int .i64 (sumP t s)) () X Y row hs.1.1 hg (fun r e => (hr r e).2), Nat.le_trans hs.1.2 hg.size⟩, (grownBy_keeps_cells hg (fun r e => (hr r e).2) hs.2 rfl).trans hs.2⟩) (ownFrom_below (Nat.le_refl _) (by omega)))
    (fun _ _ _ _ _ hs _ _ => hs)
    ⟨⟨⟨kt, Nat.le_refl _⟩, k4⟩, HB5.out⟩
    (fun i a' X => ∃ Bx, W5.heap.size ≤ Bx ∧ X.heap[Bx]? = some (.cells #[.int .i64 (i.1.val / 4 : Nat), .int .i64 (i.1.val % 4 : Nat)] TPl (0, 0)) ∧ a' = (?fr9 : PB x → Nat → Act) i Bx)
    (fun i a' _ X Y row hs hg hr => by obtain ⟨Bx, e1, e2, e3⟩ := hs; exact ⟨Bx, e1, (grownBy_keeps_cells hg (fun r e => (hr r e).2) e2 rfl).trans e2, e3⟩)
    ?assign ?body ?done ?stop
  rotate_left
  case assign =>
    rintro l' pre i X K ⟨⟨⟨hp1, hzX5⟩, hp2⟩, hbX⟩ hK
    have hzX := hbX.size
    gi_wp2
    refine hK _ _ ((KeepsOthers.alloc _ _).from _) (kP_below ((Below.refl _ X).alloc (Nat.le_refl _) _) (by omega) (by omega)) ⟨⟨⟨(Below.heap_alloc _ _ _ hp1.lt).trans hp1, Nat.le_trans hzX5 (by simp)⟩, (Below.heap_alloc _ _ _ (by omega)).trans hp2⟩, hbX.alloc hzX _⟩ ⟨X.heap.size, hzX5, heap_alloc_new X _, ?_⟩
    generalize X.heap.size = n
    rfl
  case body =>
    rintro l' pre i a' X _ _ ⟨⟨⟨hbx, hzX5⟩, hgr⟩, hbX⟩ ⟨Bx, hBx, hx, rfl⟩ hlt
    have hwX : Below W.heap.size W X := HB.out.trans (hbX.mono hWw)
    obtain ⟨hi, hj⟩ := HIN.out i
    have HSN := Lib.hid (sumP_snoc t pre i)
    have hcb := HCB.out _ _ hi hj
    have hcp : cP t i = cF t (i.1.val / 4) (i.1.val % 4) := rfl
    obtain ⟨k, hk⟩ : ∃ k, i.1.val / 4 = k := ⟨_, rfl⟩
    obtain ⟨l, hl⟩ : ∃ l, i.1.val % 4 = l := ⟨_, rfl⟩
    rw [hk, hl] at hx hcb hcp
    rw [hk] at hi
    rw [hl] at hj
    have hln := HR.out k hi
    obtain ⟨b', o', b2, o2, c2, hA, hb1, hc1, _, hb3, hc2⟩ := HL.out.cell2 (i := k) (j := l) (by rw [HQ.out]; exact hi) (by rw [hln]; exact hj)
    injection hA with hA
    injection hA with g1 g2 _
    subst g1 g2
    have e1 := (hwX.cell (p := ⟨b, o + k, none⟩) hb1).trans hc1
    have e2 := (hwX.cell (p := ⟨b2, o2 + l, none⟩) hb3).trans hc2
    rw [hln] at e1
    have HS := Lib.hid (HSB.out pre)
    obtain ⟨y, hy⟩ : ∃ y, cF t k l = y := ⟨_, rfl⟩
    have hyy : (t.getD k []).getD l 0 = y := hy
    obtain ⟨s, hs⟩ : ∃ s, sumP t pre = s := ⟨_, rfl⟩
    rw [hyy] at e2
    rw [hy] at hcb hcp
    rw [hs] at hbx HS
    have hwr : IntKind.i64.wrap (s + y) = s + y := by rw [IntKind.wrap_i64]; have := HS.out; omega
    have HSY := Lib.hid (show sumP t (pre ++ [i]) = s + y by rw [HSN.out, hs, hcp])
    obtain ⟨_, _, e0, _, _, _⟩ := blkG3 hgr
    obtain ⟨x0, x1, _, _⟩ := blk2 hx
    have et := hbx.cell
    have HBX := Lib.hid hbX
    have HGR := Lib.hid hgr
    have HBOX := Lib.hid hbx
    have hii : (k : Int) < (q : Int) := by omega
    have hji : (l : Int) < (d : Int) := by omega
    clear hc1 hc2 hln hlt hy hyy hbX hwX hcp hs hgr hbx hb1 hb3 hk hl hcb hx HSN
    gi_wp2
    refine region_still_round 12 (by kernel_rfl) (by kernel_rfl) (by kernel_rfl) ?_
    simp only [List.take_succ_cons, List.take_zero, List.drop_succ_cons, List.drop_zero]
    iterate 12 still_step
    try refine wpStill_nil ?_
    change wpList _ _ _ _ _ X.drew
    obtain ⟨Z, hZ⟩ : ∃ Z, Z = X.drew := ⟨_, rfl⟩
    have hbox : Boxed Z (w.heap.size + 1) TN (.int .i64 s) := by rw [hZ]; exact HBOX.out
    have zt := hbox.cell
    have zf := hbox.frozen
    have HZB := Lib.hid (show Below w.heap.size w Z by rw [hZ]; exact HBX.out.drew)
    have HZG := Lib.hid (show Z.heap[w.heap.size]? = some (.cells #[.int .i64 q, .int .i64 d, .slice (some ⟨b, o, none⟩) q c] TGI (0, 0)) by rw [hZ]; exact HGR.out)
    have HZ2 := Lib.hid (show KP (w.heap.size + 1 + 1) X Z ∧ KeepsOthers X Z ∧ W5.heap.size ≤ Z.heap.size from by rw [hZ]; exact ⟨⟨rfl, rfl⟩, KeepsOthers.drew X, hzX5⟩)
    have HZX := Lib.hid hbox
    rw [← hZ]
    clear hZ et hbox
    go_wp2
    refine ⟨(HZ2.out.2.1.trans (KeepsOthers.setCell Z _ _)).from _, kP_t HZ2.out.1 (kP_set (by omega) (by omega)), ⟨⟨⟨?_, ?_⟩, ?_⟩, HZB.out.setCell (p := ⟨w.heap.size + 1, 0, none⟩) (by show w.heap.size ≤ w.heap.size + 1; omega) _⟩⟩
    · rw [HSY.out]; exact HZX.out.set _
    · simpa [World.setCell] using HZ2.out.2.2
    · exact (Below.heap_setCell Z ⟨w.heap.size + 1, 0, none⟩ _ _ (by show w.heap.size ≠ w.heap.size + 1; omega)).trans HZG.out
  case done =>
    rintro D ys X hD rfl ⟨⟨⟨hbx, _⟩, _⟩, hbX⟩ hK
    have hsum : sumP t (allP x) = g := HG.out
    rw [hsum] at hbx
    have et := hbx.cell
    have HK := Lib.hid hK
    have HBX := Lib.hid hbX
    clear hK hbX hsum hbx
    gi_wp2
    refine ⟨by simp, .inl ⟨_, _, rfl, run_takeDeferred HK.out, ?_⟩⟩
    exact ⟨_, results_tmp rfl _ _ _, rfl, HB.out.trans (Below.mono (HBX.out.trans (belowK_b (w := w) (Nat.le_refl _) _ D _ _ (by omega) HK.out rfl rfl)) hWw)⟩
  case stop =>
    rintro D c pre X hD _ h _
    exact h.elim
end Go.Proofs.YtobgceebolmfcaaDoor
namespace Go.Proofs.YtobgceebolmfcaaDoor
open Go.RowKit Go.Shelf
attribute [local go_sem] Oper.semAt_some
/-- A mask in new memory. -/
def OutPM (m : Mk) (w : World) (e : Ending) (w' : World) : Prop := ∃ v, e = .returned v ∧ InM w' w.heap.size w'.heap.size v m ∧ Below w.heap.size w w'
def bitsBy (q d : Nat) {x : Nat} (pre : List (PB x)) : Mk := matM q d fun a b => pre.any fun i => decide (i.1.val = 4 * a + b)
theorem bitsBy_nil (q d : Nat) {x : Nat} : bitsBy q d ([] : List (PB x)) = List.replicate q (zerowM d) := by
  unfold bitsBy matM zerowM
  simp only [List.any_nil]
  rw [List.map_const', List.map_const', List.length_range, List.length_range]
theorem bitsBy_snoc {q d x : Nat} (pre : List (PB x)) (i : PB x) (hi : i.1.val / 4 < q) (hj : i.1.val % 4 < d) (hd : d ≤ 4) :
    (bitsBy q d pre).set (i.1.val / 4) (((bitsBy q d pre).getD (i.1.val / 4) []).set (i.1.val % 4) true) = bitsBy q d (pre ++ [i]) := by
  rw [bitsBy, matM_set _ _ _ hi hj, bitsBy]
  refine matM_ext fun a b _ hb => ?_
  rw [List.any_append]
  by_cases h : a = i.1.val / 4 ∧ b = i.1.val % 4
  · rw [if_pos h]
    have : i.1.val = 4 * a + b := by omega
    simp [this]
  · rw [if_neg h]
    have : ¬ i.1.val = 4 * a + b := fun e => h (by omega)
    simp [this]
theorem pick_mem {x : Nat} {i : PB x} : i ∈ allP x := by
  unfold allP
  rw [List.mem_filterMap]
  exact ⟨i.1, List.mem_finRange _, by unfold pick; rw [dif_pos i.2]⟩
theorem bitsBy_all {q d x : Nat} (hq : q ≤ 4) (hd : d ≤ 4) : bitsBy q d (allP x) = matM q d fun a b => x.testBit (4 * a + b) := by
  refine matM_ext fun a b ha hb => ?_
  rw [Bool.eq_iff_iff, List.any_eq_true]
  constructor
  · rintro ⟨i, _, h⟩
    rw [decide_eq_true_eq] at h
    rw [← h]; exact i.2
  · intro h
    exact ⟨⟨⟨4 * a + b, by omega⟩, h⟩, pick_mem, by simp⟩
set_option maxRecDepth 100000 in
set_option maxHeartbeats 4000000 in
theorem iPMask_is (q d : Nat) (hq : q ≤ 4) (hd : d ≤ 4) (x : Nat) (hx : x < 65536) (hin : ∀ i : PB x, i.1.val / 4 < q ∧ i.1.val % 4 < d) (m : Mk) (hm : (matM q d fun a b => x.testBit (4 * a + b)) = m) (w : World) (hT : TabW w) :
    Calls Tryd.prog 43 #[patV x, szV q d] w (OutPM m w) := by
  have HIN := Lib.hid hin
  have HM := Lib.hid hm
  have htl := hT.lt
  obtain ⟨w1, hw1, b1, hz1, k1⟩ := one_blk w #[.int .i64 q, .int .i64 d] TG
  have HW1 := Lib.hid hw1.symm
  have HB1 := Lib.hid b1
  have HT1 := Lib.hid (hT.below b1)
  obtain ⟨s0, s1, _, _⟩ := blk2 k1
  clear hin hm hT hw1 b1 k1
  refine (callsIn_wide (n := 6)).1 ?_
  refine callsIn_of_wp_marks Tryd.func43 rfl trivial ?_ rfl
  simp only [Tryd.ntmps43, List.size_toArray, List.length_cons, List.length_nil, Nat.reduceAdd, Nat.reduceSub, Array.replicate_succ, Array.replicate_zero, List.push_toArray, List.append_toArray, List.nil_append, List.cons_append]
  gi_wp2_with fail
  rw [HW1.out]
  gi_wp2_with fail
  refine ⟨trivial, ?_⟩
  refine (callsIn_wide.2 (iNewM_any q d (by omega) (by omega) w1)).mono ?_
  rintro e wc ⟨g2, c2, rfl, ho, bc⟩
  have hzc := bc.size
  obtain ⟨W5, hW5, b5, hz5, k6, k5⟩ := two_blk wc #[.int .i64 q, .int .i64 d, .slice (some ⟨g2, 0, none⟩) q c2] #[patV x] 79 TPt
  clear s0 s1
  gi_wp2_with fail
  refine ⟨trivial, ?_⟩
  refine (callsIn_wide.2 (iPlcs_any x _)).mono ?_
  rintro e w3 ⟨rfl, rfl⟩
  gi_wp2
  rw [hW5.symm]
  have hlt5 : wc.heap.size + 1 < W5.heap.size := by omega
  have HB5 := Lib.hid (show Below w1.heap.size w1 W5 from bc.trans (b5.mono (by omega)))
  have HT5 := Lib.hid (HT1.out.below HB5.out)
  have hTc : wc.heap.size ≤ W5.heap.size := b5.size
  have HO := Lib.hid (show MineB W5 w1.heap.size wc.heap.size (.slice (some ⟨g2, 0, none⟩) q c2) (bitsBy q d ([] : List (PB x))) by rw [bitsBy_nil]; exact ho.below b5)
  have hN := allP_len x
  clear hW5 b5 ho bc
  refine' wpIn_rangeFunc_ownH (α := PB x) rfl (by omega) (gf := 84) (lb := #[.pointer (some ⟨wc.heap.size + 1, 0, none⟩)]) rfl trivial (enters_of Tryd.func84 (by kernel_rfl) rfl)
    (plcs_stops 5 (by omega) (wc.heap.size + 1) x hx W5 (by omega) k5 HT5.out) kP_t (kP_b hlt5 (by omega)) (Below.refl _ _) (fun _ => rfl)
    (fun pre X => ((MineB X w1.heap.size wc.heap.size (.slice (some ⟨g2, 0, none⟩) q c2) (bitsBy q d pre) ∧ W5.heap.size ≤ X.heap.size) ∧ X.heap[wc.heap.size]? = some (.cells #[.int .i64 q, .int .i64 d, .slice (some ⟨g2, 0, none⟩) q c2] 79 (0, 0))) ∧ Below w1.heap.size w1 X)
    (fun _ _ _ => False)
    (OwnFrom.and (OwnFrom.and (OwnFrom.and (MineB.from_ _ _ hTc) (fun s X Y row hs hg hr => Nat.le_trans hs hg.size)) cells_from) (ownFrom_below (Nat.le_refl _) (by omega)))
    (fun _ _ _ _ _ hs _ _ => hs)
    ⟨⟨⟨HO.out, Nat.le_refl _⟩, k6⟩, HB5.out⟩
    (fun i a' X => ∃ Bx, W5.heap.size ≤ Bx ∧ X.heap[Bx]? = some (.cells #[.int .i64 (i.1.val / 4 : Nat), .int .i64 (i.1.val % 4 : Nat)] TPl (0, 0)) ∧ a' = (?fr9 : PB x → Nat → Act) i Bx)
    (fun i a' _ X Y row hs hg hr => by obtain ⟨Bx, e1, e2, e3⟩ := hs; exact ⟨Bx, e1, (grownBy_keeps_cells hg (fun r e => (hr r e).2) e2 rfl).trans e2, e3⟩)
    ?assign ?body ?done ?stop
  rotate_left
  case assign =>
    rintro l' pre i X K ⟨⟨⟨hmi, hzX5⟩, htr⟩, hbX⟩ hK
    have hzX := hbX.size
    gi_wp2
    refine hK _ _ ((KeepsOthers.alloc _ _).from _) (kP_below ((Below.refl _ X).alloc (Nat.le_refl _) _) (by omega) (by omega)) ⟨⟨⟨hmi.below ((Below.refl _ X).alloc (Nat.le_refl _) _), Nat.le_trans hzX5 (by simp)⟩, (Below.heap_alloc _ _ _ (by omega)).trans htr⟩, hbX.alloc hzX _⟩ ⟨X.heap.size, hzX5, heap_alloc_new X _, ?_⟩
    generalize X.heap.size = n
    rfl
  case body =>
    rintro l' pre i a' X _ _ ⟨⟨⟨hmi, hzX5⟩, htr⟩, hbX⟩ ⟨Bx, hBx, hx, rfl⟩ hlt
    obtain ⟨hi, hj⟩ := HIN.out i
    have hst := bitsBy_snoc pre i hi hj hd
    obtain ⟨k, hk⟩ : ∃ k, i.1.val / 4 = k := ⟨_, rfl⟩
    obtain ⟨l, hl⟩ : ∃ l, i.1.val % 4 = l := ⟨_, rfl⟩
    rw [hk, hl] at hx hst
    rw [hk] at hi
    rw [hl] at hj
    obtain ⟨g', c', gi, ci, hv', m0, _, hgi, hne, m1, mf, hset⟩ := hmi.cell (i := k) (j := l) (by rw [bitsBy, matM_len]; exact hi) (by rw [bitsBy, matM_rlen _ _ _ hi]; exact hj)
    injection hv' with hv1 hv2 hv3
    injection hv1 with hv1
    injection hv1 with hv1 _ _
    subst hv1
    rw [show ((bitsBy q d pre).getD k []).length = d by rw [bitsBy, matM_rlen _ _ _ hi]] at m0
    obtain ⟨z, hz⟩ : ∃ z, ((bitsBy q d pre).getD k []).getD l false = z := ⟨_, rfl⟩
    rw [hz] at m1
    have HSET := Lib.hid (show MineB (X.setCell ⟨gi, l, none⟩ (.bool true)) w1.heap.size wc.heap.size (.slice (some ⟨g2, 0, none⟩) q c2) (bitsBy q d (pre ++ [i])) by
      have := hset true; rw [← hst]; exact this)
    obtain ⟨_, _, t0, _, _, _⟩ := blkG3 htr
    obtain ⟨x0, x1, _, _⟩ := blk2 hx
    have HBX := Lib.hid hbX
    have HTR := Lib.hid htr
    have HGI := Lib.hid hgi
    have hii : (k : Int) < (q : Int) := by omega
    have hji : (l : Int) < (d : Int) := by omega
    clear hlt hbX hst hset hv2 hv3 htr hz hmi hk hl hx hgi
    gi_wp2
    refine region_still_round 9 (by kernel_rfl) (by kernel_rfl) (by kernel_rfl) ?_
    simp only [List.take_succ_cons, List.take_zero, List.drop_succ_cons, List.drop_zero]
    iterate 9 still_step
    try refine wpStill_nil ?_
    change wpList _ _ _ _ _ X.drew
    obtain ⟨Z, hZ⟩ : ∃ Z, Z = X.drew := ⟨_, rfl⟩
    have zt : Z.cell? ⟨gi, l, none⟩ = some (.bool z) := by rw [hZ]; exact m1
    have zf : Z.frozen? ⟨gi, l, none⟩ = false := by rw [hZ]; exact mf
    have HZB := Lib.hid (show Below w1.heap.size w1 Z by rw [hZ]; exact HBX.out.drew)
    have HZT := Lib.hid (show Z.heap[wc.heap.size]? = some (.cells #[.int .i64 q, .int .i64 d, .slice (some ⟨g2, 0, none⟩) q c2] 79 (0, 0)) by rw [hZ]; exact HTR.out)
    have HZ2 := Lib.hid (show KP (wc.heap.size + 1) X Z ∧ KeepsOthers X Z ∧ W5.heap.size ≤ Z.heap.size from by rw [hZ]; exact ⟨⟨rfl, rfl⟩, KeepsOthers.drew X, hzX5⟩)
    have HS2 := Lib.hid (show MineB (Z.setCell ⟨gi, l, none⟩ (.bool true)) w1.heap.size wc.heap.size (.slice (some ⟨g2, 0, none⟩) q c2) (bitsBy q d (pre ++ [i])) by rw [hZ]; exact HSET.out)
    rw [← hZ]
    clear hZ t0 m0 m1 mf x0 x1
    go_wp2
    have hgi := HGI.out
    refine ⟨(HZ2.out.2.1.trans (KeepsOthers.setCell Z _ _)).from _, kP_t HZ2.out.1 (kP_set (by omega) (by omega)), ⟨⟨⟨HS2.out, ?_⟩, ?_⟩, HZB.out.setCell (p := ⟨gi, l, none⟩) (by show w1.heap.size ≤ gi; omega) _⟩⟩
    · simpa [World.setCell] using HZ2.out.2.2
    · exact (Below.heap_setCell Z ⟨gi, l, none⟩ _ _ (by show wc.heap.size ≠ gi; omega)).trans HZT.out
  case done =>
    rintro D ys X hD rfl ⟨⟨⟨hmi, _⟩, htr⟩, hbX⟩ hK
    have hall : bitsBy q d (allP x) = m := by rw [bitsBy_all hq hd]; exact HM.out
    rw [hall] at hmi
    obtain ⟨_, _, t0, _, _, _⟩ := blkG3 htr
    have HK := Lib.hid hK
    have HBX := Lib.hid hbX
    have HMI := Lib.hid hmi
    clear hK hbX hall hmi htr
    gi_wp2
    refine ⟨by simp, .inl ⟨_, _, rfl, run_takeDeferred HK.out, ?_⟩⟩
    refine ⟨.slice (some ⟨g2, 0, none⟩) q c2, by simp [results, Tryd.results43, go_sem], _, rfl, ?_, HB1.out.trans ((HBX.out.mono HB1.out.size).trans (belowK_b (w := w) (Nat.le_refl _) _ D _ _ (by omega) HK.out rfl rfl))⟩
    refine ((HMI.out.same (Nat.le_of_eq (by simp)) fun k _ hT => ?_).lowerM (by omega)).up
    exact World.putObj_heap_other (by omega)
  case stop =>
    rintro D c pre X hD _ h _
    exact h.elim
end Go.Proofs.YtobgceebolmfcaaDoor
