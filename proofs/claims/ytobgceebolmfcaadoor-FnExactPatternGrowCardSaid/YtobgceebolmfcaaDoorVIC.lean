/- VI11, VM3, VI12, VI13, VI14 laid together. -/
import Derived.Test.YtobgceebolmfcaaDoorVIB
import Derived.Test.YtobgceebolmfcaaDoorRQ
import Derived.Deep.RegionHeld3
import Derived.Test.YtobgceebolmfcaaDoorVSA
import Derived.BigQuiet
import Derived.Shelf.RegionOpen
namespace Go.Proofs.YtobgceebolmfcaaDoor
open Go.RowKit
theorem or_rect {i j k l : Nat} (hi : i < 4) (hj : j < 4) (hk : k < 4) (hl : l < 4) : 2 ^ (4 * i + j) ||| 2 ^ (4 * i + l) ||| 2 ^ (4 * k + j) ||| 2 ^ (4 * k + l) = enc (inSq i j k l) := by
  rw [bit_enc hi hj, bit_enc hi hl, bit_enc hk hj, bit_enc hk hl, or_enc, or_enc, or_enc]
  refine enc_ext fun a b _ _ => ?_
  unfold inSq
  generalize decide (a = i) = x1
  generalize decide (a = k) = x2
  generalize decide (b = j) = x3
  generalize decide (b = l) = x4
  revert x1 x2 x3 x4
  decide
set_option maxRecDepth 100000 in
set_option maxHeartbeats 4000000 in
theorem iRect_is (i j k l : Nat) (hi : i < 4) (hj : j < 4) (hk : k < 4) (hl : l < 4) (z : Nat) (hz : enc (inSq i j k l) = z) (w : World) :
    Calls Tryd.prog 69 #[plV i j, plV k l] w fun e w' => e = .returned (patV z) ∧ Below w.heap.size w w' := by
  obtain ⟨W5, hW5, b5, hz5, k4, k5⟩ := two_blk w #[.int .i64 i, .int .i64 j] #[.int .i64 k, .int .i64 l] TPl TPl
  obtain ⟨p0, p1, _, _⟩ := blk2 k4
  obtain ⟨q0, q1, _, _⟩ := blk2 k5
  have HCE := Lib.hid (show ∀ X, Below W5.heap.size W5 X → Below W5.heap.size W5 X ∧ (X.cell? ⟨w.heap.size, 0, none⟩ = some (.int .i64 i) ∧ X.cell? ⟨w.heap.size, 1, none⟩ = some (.int .i64 j)) ∧ X.cell? ⟨w.heap.size + 1, 0, none⟩ = some (.int .i64 k) ∧ X.cell? ⟨w.heap.size + 1, 1, none⟩ = some (.int .i64 l) from fun X h =>
    ⟨h, ⟨(h.cell (p := ⟨w.heap.size, 0, none⟩) (by show w.heap.size < W5.heap.size; omega)).trans p0, (h.cell (p := ⟨w.heap.size, 1, none⟩) (by show w.heap.size < W5.heap.size; omega)).trans p1⟩, (h.cell (p := ⟨w.heap.size + 1, 0, none⟩) (by show w.heap.size + 1 < W5.heap.size; omega)).trans q0, (h.cell (p := ⟨w.heap.size + 1, 1, none⟩) (by show w.heap.size + 1 < W5.heap.size; omega)).trans q1⟩)
  have HW5 := Lib.hid hW5.symm
  have HB5 := Lib.hid b5
  have HZ5 := Lib.hid hz5
  obtain ⟨z1, h1⟩ : ∃ z, 2 ^ (4 * i + j) = z := ⟨_, rfl⟩
  obtain ⟨z2, h2⟩ : ∃ z, 2 ^ (4 * i + l) = z := ⟨_, rfl⟩
  obtain ⟨z3, h3⟩ : ∃ z, 2 ^ (4 * k + j) = z := ⟨_, rfl⟩
  obtain ⟨z4, h4⟩ : ∃ z, 2 ^ (4 * k + l) = z := ⟨_, rfl⟩
  have hzz := (or_rect hi hj hk hl).trans hz
  rw [h1, h2, h3, h4] at hzz
  have l1 : z1 < 65536 := by rw [← h1]; exact bit_lt (by omega)
  have l2 : z2 < 65536 := by rw [← h2]; exact bit_lt (by omega)
  have l3 : z3 < 65536 := by rw [← h3]; exact bit_lt (by omega)
  have l4 : z4 < 65536 := by rw [← h4]; exact bit_lt (by omega)
  obtain ⟨y1, hy1⟩ : ∃ y, z1 ||| z2 = y := ⟨_, rfl⟩
  obtain ⟨y2, hy2⟩ : ∃ y, y1 ||| z3 = y := ⟨_, rfl⟩
  have m1 : y1 < 65536 := by rw [← hy1]; exact or_lt l1 l2
  have m2 : y2 < 65536 := by rw [← hy2]; exact or_lt m1 l3
  rw [hy1, hy2] at hzz
  have o1 := or_int l1 l2
  have o2 := or_int m1 l3
  have o3 := or_int m2 l4
  rw [hy1] at o1
  rw [hy2] at o2
  rw [hzz] at o3
  have H1 := Lib.hid h1
  have H2 := Lib.hid h2
  have H3 := Lib.hid h3
  have H4 := Lib.hid h4
  have B1 := Lib.hid (show ∀ X, Calls Tryd.prog 76 #[.agg #[.int .i64 i, .int .i64 j]] X (fun e w' => e = .returned (patV z1) ∧ Below X.heap.size X w') from fun X => iBit_as i j hi hj z1 H1.out X)
  have B2 := Lib.hid (show ∀ X, Calls Tryd.prog 76 #[.agg #[.int .i64 i, .int .i64 l]] X (fun e w' => e = .returned (patV z2) ∧ Below X.heap.size X w') from fun X => iBit_as i l hi hl z2 H2.out X)
  have B3 := Lib.hid (show ∀ X, Calls Tryd.prog 76 #[.agg #[.int .i64 k, .int .i64 j]] X (fun e w' => e = .returned (patV z3) ∧ Below X.heap.size X w') from fun X => iBit_as k j hk hj z3 H3.out X)
  have B4 := Lib.hid (show ∀ X, Calls Tryd.prog 76 #[.agg #[.int .i64 k, .int .i64 l]] X (fun e w' => e = .returned (patV z4) ∧ Below X.heap.size X w') from fun X => iBit_as k l hk hl z4 H4.out X)
  have O1 := Lib.hid o1
  have O2 := Lib.hid o2
  have O3 := Lib.hid o3
  clear hW5 b5 k4 k5 p0 p1 q0 q1 hz h1 h2 h3 h4 hzz l1 l2 l3 l4 hy1 hy2 m1 m2 o1 o2 o3 hz5
  go_enter Tryd.func69, Tryd.ntmps69
  go_wp2_with fail
  rw [HW5.out]
  have bd : Below W5.heap.size W5 W5.drew := (Below.refl _ _).drew
  have ba : ∀ o, Below W5.heap.size W5 ((W5.alloc o).drew) := fun o => ((Below.refl _ _).alloc (Nat.le_refl _) o).drew
  have bb : ∀ o o', Below W5.heap.size W5 (((W5.alloc o).alloc o').drew) := fun o o' => (((Below.refl _ _).alloc (Nat.le_refl _) o).alloc (by simp) o').drew
  go_region_held3 (fun X : World => Below W5.heap.size W5 X ∧ (X.cell? ⟨w.heap.size, 0, none⟩ = some (.int .i64 i) ∧ X.cell? ⟨w.heap.size, 1, none⟩ = some (.int .i64 j)) ∧ X.cell? ⟨w.heap.size + 1, 0, none⟩ = some (.int .i64 k) ∧ X.cell? ⟨w.heap.size + 1, 1, none⟩ = some (.int .i64 l))
    (first | exact HCE.out _ bd | exact HCE.out _ (ba _) | exact HCE.out _ (bb _ _))
    (fail)
  · obtain ⟨W7, hW7, b7, hz7, k6, k7⟩ := two_blk W5 #[.int .i64 i, .int .i64 l] #[.int .i64 k, .int .i64 j] TPl TPl
    obtain ⟨Y, hY⟩ : ∃ Y, Y = W7.drew := ⟨_, rfl⟩
    have hbY : Below W5.heap.size W5 Y := by rw [hY]; exact b7.drew
    have k6' : Y.heap[W5.heap.size]? = W7.heap[W5.heap.size]? := by rw [hY]; rfl
    have k7' : Y.heap[W5.heap.size + 1]? = W7.heap[W5.heap.size + 1]? := by rw [hY]; rfl
    rw [k6] at k6'
    rw [k7] at k7'
    obtain ⟨r0, r1, _, _⟩ := blk2 k6'
    obtain ⟨s0, s1, _, _⟩ := blk2 k7'
    obtain ⟨_, ⟨p0, p1⟩, q0, q1⟩ := HCE.out _ hbY
    have HYE := Lib.hid (show ((W5.alloc (Obj.cells #[.int .i64 i, .int .i64 l] TPl)).alloc (Obj.cells #[.int .i64 k, .int .i64 j] TPl)).drew = Y by rw [hY, hW7])
    have L0 := Later.cell1 p0
    have L1 := Later.cell1 p1
    have L2 := Later.cell1 q0
    have L3 := Later.cell1 q1
    have L4 := Later.cell1 r0
    have L5 := Later.cell1 r1
    have L6 := Later.cell1 s0
    have L7 := Later.cell1 s1
    have HBY := Lib.hid hbY
    have o1 := O1.out
    have o2 := O2.out
    have o3 := O3.out
    clear hY hW7 b7 hz7 k6 k7 k6' k7' r0 r1 s0 s1 p0 p1 q0 q1 hbY ba bb bd
    rw [HYE.out]
    go_wp2_with fail
    refine region_quiet_later (by kernel_rfl) (by kernel_rfl) ?_
    repeat (go_big_quiet_step (first
      | (go_at_call 76
         first
         | (with_reducible exact Later.back (v := patV z1) (B1.out _) fun _ _ h => ⟨h.1, below_step (Later.h _) h.2⟩)
         | (with_reducible exact Later.back (v := patV z2) (B2.out _) fun _ _ h => ⟨h.1, below_step (Later.h _) h.2⟩)
         | (with_reducible exact Later.back (v := patV z3) (B3.out _) fun _ _ h => ⟨h.1, below_step (Later.h _) h.2⟩)
         | (with_reducible exact Later.back (v := patV z4) (B4.out _) fun _ _ h => ⟨h.1, below_step (Later.h _) h.2⟩))))
    refine wpQuiet_nil ?_
    rintro _ ⟨L, rfl⟩
    have HF := Lib.hid (HB5.out.trans ((HBY.out.trans (L.h.mono HBY.out.size)).mono HB5.out.size))
    clear L0 L1 L2 L3 L4 L5 L6 L7
    go_wp2
    go_ret
    exact ⟨rfl, HF.out⟩
  · obtain ⟨W7, hW7, b7, hz7, k6, k7⟩ := two_blk W5 #[.int .i64 k, .int .i64 j] #[.int .i64 i, .int .i64 l] TPl TPl
    obtain ⟨Y, hY⟩ : ∃ Y, Y = W7.drew := ⟨_, rfl⟩
    have hbY : Below W5.heap.size W5 Y := by rw [hY]; exact b7.drew
    have k6' : Y.heap[W5.heap.size]? = W7.heap[W5.heap.size]? := by rw [hY]; rfl
    have k7' : Y.heap[W5.heap.size + 1]? = W7.heap[W5.heap.size + 1]? := by rw [hY]; rfl
    rw [k6] at k6'
    rw [k7] at k7'
    obtain ⟨r0, r1, _, _⟩ := blk2 k6'
    obtain ⟨s0, s1, _, _⟩ := blk2 k7'
    obtain ⟨_, ⟨p0, p1⟩, q0, q1⟩ := HCE.out _ hbY
    have HYE := Lib.hid (show ((W5.alloc (Obj.cells #[.int .i64 k, .int .i64 j] TPl)).alloc (Obj.cells #[.int .i64 i, .int .i64 l] TPl)).drew = Y by rw [hY, hW7])
    have L0 := Later.cell1 p0
    have L1 := Later.cell1 p1
    have L2 := Later.cell1 q0
    have L3 := Later.cell1 q1
    have L4 := Later.cell1 r0
    have L5 := Later.cell1 r1
    have L6 := Later.cell1 s0
    have L7 := Later.cell1 s1
    have HBY := Lib.hid hbY
    have o1 := O1.out
    have o2 := O2.out
    have o3 := O3.out
    clear hY hW7 b7 hz7 k6 k7 k6' k7' r0 r1 s0 s1 p0 p1 q0 q1 hbY ba bb bd
    rw [HYE.out]
    go_wp2_with fail
    refine region_quiet_later (by kernel_rfl) (by kernel_rfl) ?_
    repeat (go_big_quiet_step (first
      | (go_at_call 76
         first
         | (with_reducible exact Later.back (v := patV z1) (B1.out _) fun _ _ h => ⟨h.1, below_step (Later.h _) h.2⟩)
         | (with_reducible exact Later.back (v := patV z2) (B2.out _) fun _ _ h => ⟨h.1, below_step (Later.h _) h.2⟩)
         | (with_reducible exact Later.back (v := patV z3) (B3.out _) fun _ _ h => ⟨h.1, below_step (Later.h _) h.2⟩)
         | (with_reducible exact Later.back (v := patV z4) (B4.out _) fun _ _ h => ⟨h.1, below_step (Later.h _) h.2⟩))))
    refine wpQuiet_nil ?_
    rintro _ ⟨L, rfl⟩
    have HF := Lib.hid (HB5.out.trans ((HBY.out.trans (L.h.mono HBY.out.size)).mono HB5.out.size))
    clear L0 L1 L2 L3 L4 L5 L6 L7
    go_wp2
    go_ret
    exact ⟨rfl, HF.out⟩
end Go.Proofs.YtobgceebolmfcaaDoor

namespace Go.Proofs.YtobgceebolmfcaaDoor
open Go.RowKit
theorem fore_first {u : Nat → Nat → Bool} {q d : Nat} (hd : d ≤ 4) (hout : ∀ a b, u a b = true → a < q ∧ b < d) (h0 : enc u ≠ 0) : fst1 u (np d q 0) = some (Lib.ctz 64 (enc u) / 4, Lib.ctz 64 (enc u) % 4) := by
  obtain ⟨h1, h2, h3⟩ := ctz_bit h0 (enc_lt u)
  generalize Lib.ctz 64 (enc u) = c at h1 h2 h3
  rw [enc_bit] at h2
  simp only [Bool.and_eq_true, decide_eq_true_eq] at h2
  obtain ⟨ha, hb⟩ := hout _ _ h2.2
  refine fst1_hit ha hb ?_ h2.2
  unfold fst1
  rw [List.find?_eq_none]
  rintro ⟨x, y⟩ hxy
  rw [np_mem] at hxy
  have hlt : 4 * x + y < c := by omega
  have h9 := h3 _ hlt
  rw [enc_bit] at h9
  have e1 : (4 * x + y) / 4 = x := by omega
  have e2 : (4 * x + y) % 4 = y := by omega
  rw [e1, e2] at h9
  simp only [Bool.and_eq_false_iff, decide_eq_false_iff_not] at h9
  rcases h9 with h | h
  · omega
  · simp [h]
theorem sm_pair {f : Nat → Int} {i k : Nat} (hi : i < 4) (hk : k < 4) (hne : k ≠ i) (h : ∀ a, a ≠ i → a ≠ k → f a = 0) : sm 4 f = f i + f k := by
  simp only [sm]
  have e0 := h 0
  have e1 := h 1
  have e2 := h 2
  have e3 := h 3
  rcases (show i = 0 ∨ i = 1 ∨ i = 2 ∨ i = 3 by omega) with rfl | rfl | rfl | rfl <;> rcases (show k = 0 ∨ k = 1 ∨ k = 2 ∨ k = 3 by omega) with rfl | rfl | rfl | rfl <;> simp at hne e0 e1 e2 e3 ⊢ <;> omega
/-- What a rectangle hides besides. -/
def newB (m : Mk) (i j k l a b : Nat) : Bool := inSq i j k l a b && !hF m a b
theorem new_enc (m : Mk) (i j k l : Nat) : enc (inSq i j k l) &&& (18446744073709551615 - enc (hF m)) = enc (newB m i j k l) := less_enc _ _
theorem new_zero {m : Mk} {i j k l : Nat} (hi : i < 4) (hj : j < 4) (hk : k < 4) (hl : l < 4) : enc (newB m i j k l) = 0 ↔ isNew m i j (k, l) = false := by
  rw [enc_eq0]
  unfold isNew newB inSq
  constructor
  · intro h
    have a1 := h i j hi hj
    have a2 := h i l hi hl
    have a3 := h k j hk hj
    have a4 := h k l hk hl
    simp at a1 a2 a3 a4
    simp [a1, a2, a3, a4]
  · intro h a b ha hb
    simp at h
    obtain ⟨⟨⟨h1, h2⟩, h3⟩, h4⟩ := h
    cases e : ((decide (a = i) || decide (a = k)) && (decide (b = j) || decide (b = l)))
    · rfl
    · simp at e
      obtain ⟨e1, e2⟩ := e
      rcases e1 with rfl | rfl <;> rcases e2 with rfl | rfl <;> simp [h1, h2, h3, h4]
theorem new_cost {t : Tb} {m : Mk} {i j k l : Nat} (hi : i < 4) (hj : j < 4) (hk : k < 4) (hl : l < 4) (hki : k ≠ i) (hlj : l ≠ j) : sumP t (allP (enc (newB m i j k l))) = rc t m i j (k, l) := by
  rw [← upP_all, sumP_up t _ 16 (Nat.le_refl _)]
  rw [sm_congr (g := fun n => (fun a b => if newB m i j k l a b = true then cF t a b else 0) (n / 4) (n % 4)) fun n hn => by rw [enc_bit]; simp [hn]]
  rw [sm_16 (fun a b => if newB m i j k l a b = true then cF t a b else 0), sm_pair hi hk hki fun a h1 h2 => ?_]
  · rw [sm_pair hj hl hlj fun b h1 h2 => ?_, sm_pair hj hl hlj fun b h1 h2 => ?_]
    · have a1 : newB m i j k l i j = !hF m i j := by simp [newB, inSq]
      have a2 : newB m i j k l i l = !hF m i l := by simp [newB, inSq]
      have a3 : newB m i j k l k j = !hF m k j := by simp [newB, inSq]
      have a4 : newB m i j k l k l = !hF m k l := by simp [newB, inSq]
      simp only [rc, nC, a1, a2, a3, a4]
      cases hF m i j <;> cases hF m i l <;> cases hF m k j <;> cases hF m k l <;> simp <;> omega
    · simp [newB, inSq, h1, h2]
    · simp [newB, inSq, h1, h2]
  · rw [sm_congr (g := fun _ => 0) fun b _ => by simp [newB, inSq, h1, h2], sm_zero]
theorem sq_enc {t : Tb} {m : Mk} {i j k l : Nat} (h : mkOk t m = true) (hi : i < t.length) (hj : j < wd t) (hk : k < t.length) (hl : l < wd t) : enc (hF m) ||| enc (inSq i j k l) = enc (hF (sq m i j k l)) := by
  rw [or_enc]
  exact enc_ext fun a b _ _ => (sq_at h hi hj hk hl a b).symm
theorem rect_pos {i j k l : Nat} (hi : i < 4) (hj : j < 4) : enc (inSq i j k l) ≠ 0 := fun e => by
  have := enc_eq0.1 e i j hi hj
  simp [inSq] at this
end Go.Proofs.YtobgceebolmfcaaDoor

namespace Go.Proofs.YtobgceebolmfcaaDoor
open Go.RowKit
def MaskP (q d : Nat) (x : Mk) (z : Nat) : Prop := z < 65536 ∧ (∀ i : PB z, i.1.val / 4 < q ∧ i.1.val % 4 < d) ∧ (matM q d fun a b => z.testBit (4 * a + b)) = x
theorem mask_key0 {t : Tb} {x : Mk} (h : mkOk t x = true) : MaskP t.length (wd t) x (enc (hF x)) := by
  refine ⟨enc_lt _, fun i => ?_, mat_mask h⟩
  have h9 := i.2
  rw [enc_bit] at h9
  simp only [Bool.and_eq_true, decide_eq_true_eq] at h9
  exact mask_out h h9.2
theorem mask_key {t : Tb} {x : Mk} {q d z : Nat} (h : mkOk t x = true) (hq : t.length = q) (hd : wd t = d) (hz : z = enc (hF x)) : MaskP q d x z := by
  have h1 := mask_key0 h
  rw [hq, hd] at h1
  rw [hz]
  exact h1
/-- What the demand's step hands back. -/
def OutStp (r : Option Mk) (W : World) (e : Ending) (w' : World) : Prop := ∃ z : Nat, e = .returned (.tuple #[patV z, .bool r.isSome]) ∧ (∀ x, r = some x → z = enc (hF x)) ∧ Below W.heap.size W w'
def StepC : Prop := ∀ (W : World) (t : Tb) (v : Value) (_ : IsR W v t) (f m : Mk) (_ : mkOk t f = true) (_ : mkOk t m = true) (n : Int) (_ : 0 ≤ n ∧ n ≤ 99) (r : Option Mk) (_ : stepO t f m n = r) (w : World) (_ : Below W.heap.size W w) (_ : TabW W),
  Calls Tryd.prog 42 #[demV t.length (wd t) v (enc (hF f)) n, patV (enc (hF m))] w (OutStp r W)
set_option maxHeartbeats 2000000 in
theorem iPStep_of (hS : StepC) (W : World) (t : Tb) (v : Value) (hv : IsR W v t) (f : Mk) (u : Value) (hu : IsM W u f) (m : Mk) (u2 : Value) (hu2 : IsM W u2 m) (n : Int) (r : Option Mk) (hr : stepO t f m n = r) (w : World) (hb : Below W.heap.size W w) (hT : TabW W) :
    Calls Tryd.prog 14 #[v, u, u2, .int .i64 n] w (OutMT (r.getD []) r.isSome w) := by
  have hvw := hv.below hb
  have HU := Lib.hid (hu.below hb)
  have HU2 := Lib.hid (hu2.below hb)
  have HT := Lib.hid (hT.below hb)
  obtain ⟨A, c, rfl, _, _, _⟩ := id hvw
  obtain ⟨q, hq⟩ : ∃ q, t.length = q := ⟨_, rfl⟩
  obtain ⟨d, hd⟩ : ∃ d, wd t = d := ⟨_, rfl⟩
  have HQ := Lib.hid hq
  have HD := Lib.hid hd
  rw [hq] at hvw ⊢
  have HV := Lib.hid hvw
  have HR := Lib.hid hr
  clear hv hu hu2 hb hT hr hq hd hvw
  go_enter Tryd.func14, Tryd.ntmps14
  go_wp2_with fail
  refine (iDemW_is w t _ HV.out f _ HU.out m _ HU2.out n w (Below.refl _ _)).mono ?_
  rintro e w1 ⟨b1, ⟨h1, a, b, A', k', c', f', n', z, rfl⟩ | ⟨h1, rfl⟩⟩
  · obtain ⟨w2, hw2, b2, hz2, k2⟩ := one_blk w1 #[.int .i64 a, .int .i64 b, .slice A' k' c', .int .u64 f', .int .i64 n'] TDm
    have HE := Lib.hid (show r = none by rw [← HR.out]; exact step_low (by rw [needN_no h1]; omega))
    have hF2 := b1.trans (b2.mono b1.size)
    have HN := Lib.hid (show MineB (w2.alloc (.cells #[] TBS)) w.heap.size (w1.heap.size + 1 + 1) (.slice (some ⟨w1.heap.size + 1, 0, none⟩) 0 0) [] from by have := mineB_new (w := w2) hF2.size; rw [hz2] at this; exact this)
    have HF := Lib.hid (hF2.alloc hF2.size (.cells #[] TBS))
    have HW2 := Lib.hid hw2.symm
    clear b1 b2 hw2 h1 k2 hF2 hz2
    go_wp2
    rw [HW2.out]
    refine bodyPost_ret (results_tmp2 rfl _ _ _) rfl ?_
    rw [HE.out]
    exact ⟨_, rfl, HN.out.up, HF.out⟩
  · obtain ⟨hf, hm, hn0, hn9⟩ := pOk3_iff.1 h1
    have ht := mk_tab hm
    have ht4 := ht.h4
    have hw4 := ht.w4
    rw [HQ.out] at ht4
    rw [HD.out] at hw4
    have HMK := Lib.hid hm
    obtain ⟨w2, hw2, b2, hz2, k2⟩ := one_blk w1 #[.int .i64 t.length, .int .i64 (wd t), .slice A q c, patV (enc (hF f)), .int .i64 n] TDm
    have HB2 := Lib.hid (b1.trans (b2.mono b1.size))
    have HS := Lib.hid (hS w2 t _ (HV.out.below HB2.out) f m hf hm n ⟨hn0, hn9⟩ r HR.out w2 (Below.refl _ _) (HT.out.below HB2.out))
    have HW2 := Lib.hid hw2.symm
    obtain ⟨x0, x1, x2, x3, x4⟩ := blk5 k2
    have hlt : w1.heap.size < w2.heap.size := by omega
    have hpos : ∀ x, r = some x → mkOk t x = true := fun x e => (step_ok (HR.out.trans e)).2.1
    have HPOS := Lib.hid hpos
    generalize enc (hF f) = fp at *
    generalize enc (hF m) = mp at *
    rw [HQ.out, HD.out] at HS HW2 ⊢
    rw [HQ.out] at x0
    rw [HD.out] at x1
    have HX := Lib.hid (show ∀ X, Below w2.heap.size w2 X → X.cell? ⟨w1.heap.size, 0, none⟩ = some (.int .i64 q) ∧ X.cell? ⟨w1.heap.size, 1, none⟩ = some (.int .i64 d) from fun X h =>
      ⟨(h.cell (p := ⟨w1.heap.size, 0, none⟩) hlt).trans x0, (h.cell (p := ⟨w1.heap.size, 1, none⟩) hlt).trans x1⟩)
    rw [← HW2.out] at x0 x1 x2 x3 x4
    clear b1 b2 hw2 h1 hf hm k2 hpos
    go_wp2_with fail
    rw [HW2.out]
    refine HS.out.mono ?_
    rintro e w3 ⟨z, rfl, hz, b3⟩
    have HZ := Lib.hid hz
    obtain ⟨y0, y1⟩ := HX.out _ b3
    have hb3 := HB2.out.trans (b3.mono HB2.out.size)
    have HB3 := Lib.hid hb3
    clear b3 x0 x1 x2 x3 x4 hz
    cases r with
    | none =>
      have HN := Lib.hid (mineB_new (w := w3) hb3.size)
      have HF := Lib.hid (hb3.alloc hb3.size (.cells #[] TBS))
      clear hb3
      go_wp2
      refine bodyPost_ret (results_tmp2 rfl _ _ _) rfl ?_
      exact ⟨_, rfl, HN.out.up, HF.out⟩
    | some x =>
      have hzx : z = enc (hF x) := HZ.out x (Eq.refl _)
      obtain ⟨hz16, hzi, hzm⟩ := mask_key (HPOS.out x (Eq.refl _)) HQ.out HD.out hzx
      have HP := Lib.hid (iPMask_is q d ht4 hw4 z hz16 hzi x hzm w3 (HT.out.below hb3))
      clear hb3 hzx hz16 hzi hzm HZ HPOS
      go_wp2_with fail
      refine HP.out.mono ?_
      rintro e w4 ⟨v4, rfl, ho4, h4⟩
      have HO4 := Lib.hid (ho4.lowerM HB3.out.size)
      have HF := Lib.hid (HB3.out.trans (h4.mono HB3.out.size))
      clear ho4 h4 y0 y1
      go_wp2
      refine bodyPost_ret (results_tmp2 rfl _ _ _) rfl ?_
      exact ⟨v4, rfl, HO4.out, HF.out⟩
end Go.Proofs.YtobgceebolmfcaaDoor

namespace Go.Proofs.YtobgceebolmfcaaDoor
open Go.RowKit Go.Shelf
attribute [local go_sem] Oper.semAt_some
def pcN {q d : Nat} (x : Pc q d) : Nat × Nat := (x.1.val, x.2.val)
theorem finRange_val (n : Nat) : (List.finRange n).map (fun a => a.val) = List.range n := List.ext_getElem (by simp) fun i h1 h2 => by simp
theorem plc_np (q d : Nat) : (plc q d).map pcN = np d q 0 := by
  unfold plc np pcN
  rw [List.map_flatMap]
  simp only [List.map_map, Function.comp_def, List.range_zero, List.map_nil, List.append_nil]
  rw [← finRange_val q, List.flatMap_map]
  congr 1
  funext a
  rw [← finRange_val d, List.map_map]
  rfl
/-- The best rectangle so far, and what it costs. -/
def bbV (i j : Nat) (o : Option (Nat × Nat)) : Nat := match o with | none => 0 | some y => enc (inSq i j y.1 y.2)
def ccV (t : Tb) (m : Mk) (i j : Nat) (o : Option (Nat × Nat)) : Int := match o with | none => 0 | some y => rc t m i j y
theorem bbV_lt (i j : Nat) (o : Option (Nat × Nat)) : bbV i j o < 65536 := by
  cases o
  · show 0 < 65536
    omega
  · exact enc_lt _
abbrev bstP (t : Tb) (m : Mk) (i j : Nat) {q d : Nat} (pre : List (Pc q d)) : Option (Nat × Nat) := bst t m i j (pre.map pcN)
theorem bstP_snoc {t : Tb} {m : Mk} {i j q d : Nat} (pre : List (Pc q d)) (x : Pc q d) : bstP t m i j (pre ++ [x]) = bst t m i j (pre.map pcN ++ [pcN x]) := by simp [bstP]
theorem bne_nat {b : Nat} (h : b ≠ 0) : ((b : Int) != 0) = true := by simp; omega
theorem good_no {m : Mk} {i j k l : Nat} (h : k = i ∨ l = j) : goodR m i j (k, l) = false := by
  unfold goodR
  rcases h with h | h <;> simp [h]
theorem good_at {m : Mk} {i j k l : Nat} (hi : i < 4) (hj : j < 4) (hk : k < 4) (hl : l < 4) (h1 : k ≠ i) (h2 : l ≠ j) : goodR m i j (k, l) = decide (enc (newB m i j k l) ≠ 0) := by
  unfold goodR
  cases h : isNew m i j (k, l)
  · rw [(new_zero hi hj hk hl).2 h]; simp
  · have : enc (newB m i j k l) ≠ 0 := fun e => by rw [(new_zero hi hj hk hl).1 e] at h; cases h
    simp [h1, h2, this]
theorem new_in {m : Mk} {i j k l q d : Nat} (hi : i < q) (hj : j < d) (hk : k < q) (hl : l < d) (_hd : d ≤ 4) : ∀ x : PB (enc (newB m i j k l)), x.1.val / 4 < q ∧ x.1.val % 4 < d := fun x => by
  have h := x.2
  rw [enc_bit] at h
  simp only [newB, inSq, Bool.and_eq_true, Bool.or_eq_true, decide_eq_true_eq] at h
  obtain ⟨_, ⟨h1, h2⟩, _⟩ := h
  omega
theorem enc_unmet {t : Tb} {f m : Mk} {n : Int} (hf : mkOk t f = true) (hm : mkOk t m = true) (hn : 0 ≤ n ∧ n ≤ 99) : (enc (unF t f m n) = 0 → needN t f m n < 1) ∧ (enc (unF t f m n) ≠ 0 → 1 ≤ needN t f m n) := by
  have h3 := pOk3_iff.2 ⟨hf, hm, hn.1, hn.2⟩
  have ht := mk_tab hf
  have h4 := ht.h4
  have w4 := ht.w4
  have hp := cnt2_pos t.length (wd t) (unF t f m n)
  rw [needN_yes h3]
  constructor
  · intro h0
    have := (cnt2_zero (q := t.length) (d := wd t) (f := unF t f m n)).2 fun a b ha hb => enc_eq0.1 h0 a b (by omega) (by omega)
    omega
  · intro h0
    refine Classical.byContradiction fun hc => h0 (enc_eq0.2 fun a b _ _ => ?_)
    have e0 : cnt2 t.length (wd t) (unF t f m n) = 0 := by omega
    cases hu : unF t f m n a b
    · rfl
    · have hfa : hF f a b = true := by
        unfold unF at hu
        rw [Bool.and_eq_true] at hu; exact hu.1
      obtain ⟨x1, x2⟩ := mask_out hf hfa
      rw [cnt2_zero.1 e0 a b x1 x2] at hu; cases hu
theorem un_out {t : Tb} {f m : Mk} {n : Int} (hf : mkOk t f = true) : ∀ a b, unF t f m n a b = true → a < t.length ∧ b < wd t := fun a b hu => by
  unfold unF at hu
  rw [Bool.and_eq_true] at hu
  exact mask_out hf hu.1
theorem bbV_some (i j : Nat) (p : Nat × Nat) : bbV i j (some p) = enc (inSq i j p.1 p.2) := rfl
theorem bbV_none (i j : Nat) : bbV i j none = 0 := rfl
theorem step_end {t : Tb} {f m : Mk} {n : Int} {i j mp bb : Nat} {r : Option Mk} (hm : mkOk t m = true) (hne : 1 ≤ needN t f m n) (hff : fst1 (unF t f m n) (np (wd t) t.length 0) = some (i, j)) (hij : i < t.length ∧ j < wd t) (h4 : i < 4 ∧ j < 4)
    (hmp : enc (hF m) = mp) (hr : stepO t f m n = r) (hbe : bbV i j (bst t m i j (np (wd t) t.length 0)) = bb) : r.isSome = ((bb : Int) != 0) ∧ ∀ x, r = some x → mp ||| bb = enc (hF x) := by
  subst hr hmp hbe
  cases e : bst t m i j (np (wd t) t.length 0) with
  | none =>
    rw [step_not hne hff e, bbV_none]
    exact ⟨by simp, fun x h => by cases h⟩
  | some p =>
    obtain ⟨h1, _⟩ := bst_in e
    obtain ⟨h2, h3⟩ := np_all.1 h1
    rw [step_yes hne hff e, bbV_some]
    refine ⟨?_, fun x h => ?_⟩
    · rw [bne_nat (rect_pos h4.1 h4.2)]; rfl
    · injection h with h
      rw [← h]
      exact sq_enc hm hij.1 hij.2 h2 h3
set_option maxRecDepth 100000 in
set_option maxHeartbeats 2000000 in
theorem stepC : StepC := by
  intro W t v hv f m hf hm n hn r hr w hb hT
  have ht := mk_tab hf
  have hWw := hb.size
  have hTw := hT.below hb
  obtain ⟨g, hg⟩ : ∃ g, enc (unF t f m n) = g := ⟨_, rfl⟩
  have HG := Lib.hid hg
  have HR := Lib.hid hr
  obtain ⟨fp, hfp⟩ : ∃ fp, enc (hF f) = fp := ⟨_, rfl⟩
  obtain ⟨mp, hmp⟩ : ∃ mp, enc (hF m) = mp := ⟨_, rfl⟩
  have hmp16 : mp < 65536 := by rw [← hmp]; exact enc_lt _
  have HU := Lib.hid (show ∀ X, Below w.heap.size w X → Calls Tryd.prog 48 #[demV t.length (wd t) v (enc (hF f)) n, patV (enc (hF m))] X (Back (patV g) X) from fun X h =>
    iUnmet_is X t v (hv.below (hb.trans (h.mono hWw))) f m hf hm n hn g hg X (Below.refl _ _) (hTw.below h))
  rw [hfp, hmp] at HU ⊢
  have HFP := Lib.hid hfp
  have HMP := Lib.hid hmp
  obtain ⟨A, c, rfl, _, _, a3⟩ := hv.below hb
  obtain ⟨q, hq⟩ : ∃ q, t.length = q := ⟨_, rfl⟩
  obtain ⟨d, hd⟩ : ∃ d, wd t = d := ⟨_, rfl⟩
  have HQ := Lib.hid hq
  have HD := Lib.hid hd
  rw [hq, hd] at HU ⊢
  have hq4 : 1 ≤ q ∧ q ≤ 4 := by rw [← hq]; exact ⟨ht.h1, ht.h4⟩
  have hd4 : 1 ≤ d ∧ d ≤ 4 := by rw [← hd]; exact ⟨ht.w1, ht.w4⟩
  have HV := Lib.hid (show IsR w (.slice A q c) t by rw [← hq]; exact ⟨A, c, rfl, by assumption, by assumption, a3⟩)
  have HTW := Lib.hid hTw
  have HTT := Lib.hid ht
  have HMK := Lib.hid hm
  have HB := Lib.hid hb
  have HNN := Lib.hid hn
  have HF := Lib.hid hf
  obtain ⟨wa, hwa, ba, hza, k0, k1⟩ := two_blk w #[.int .i64 q, .int .i64 d, .slice A q c, patV fp, .int .i64 n] #[patV mp] TDm TPt
  have HWa := Lib.hid hwa.symm
  have HBa := Lib.hid ba
  have HK := Lib.hid (show ∀ X, Below wa.heap.size wa X → X.heap[w.heap.size]? = some (.cells #[.int .i64 q, .int .i64 d, .slice A q c, patV fp, .int .i64 n] TDm (0, 0)) ∧ X.heap[w.heap.size + 1]? = some (.cells #[patV mp] TPt (0, 0)) from fun X h =>
    ⟨(h.block _ (by omega)).trans k0, (h.block _ (by omega)).trans k1⟩)
  clear hv hf hm hn hr hb hT ht hTw hg hfp hmp hq hd a3 hwa ba k0 k1
  refine (callsIn_wide (n := 6)).1 ?_
  refine callsIn_of_wp_marks Tryd.func42 rfl trivial ?_ rfl
  simp only [Tryd.ntmps42, List.size_toArray, List.length_cons, List.length_nil, Nat.reduceAdd, Nat.reduceSub, Array.replicate_succ, Array.replicate_zero, List.push_toArray, List.append_toArray, List.nil_append, List.cons_append]
  gi_wp2_with fail
  rw [HWa.out]
  refine ⟨trivial, ?_⟩
  refine (callsIn_wide.2 (HU.out wa HBa.out)).mono ?_
  rintro e w1 ⟨rfl, b1⟩
  by_cases hg0 : g = 0
  · subst hg0
    have HE := Lib.hid (show r = none by rw [← HR.out]; exact step_low ((enc_unmet HF.out HMK.out HNN.out).1 HG.out))
    gi_wp2
    exact ⟨.tuple #[patV 0, .bool false], by simp [results, Tryd.results42, go_sem], 0, by rw [HE.out]; rfl, fun x e => (by rw [HE.out] at e; cases e), HB.out.trans ((HBa.out.trans (b1.mono HBa.out.size)).mono hWw)⟩
  have hg16 : g < 65536 := by rw [← HG.out]; exact enc_lt _
  have hff := fore_first (u := unF t f m n) (q := t.length) (d := wd t) HTT.out.w4 (un_out HF.out) (by rw [HG.out]; exact hg0)
  have hz16 := (ctz_bit hg0 hg16).1
  rw [HG.out] at hff
  have HNE := Lib.hid ((enc_unmet HF.out HMK.out HNN.out).2 (by rw [HG.out]; exact hg0))
  have HFO := Lib.hid (iFore_is g hg0 hg16 w1 (HTW.out.below (HBa.out.trans (b1.mono HBa.out.size))))
  obtain ⟨z, hz⟩ : ∃ z, Lib.ctz 64 g = z := ⟨_, rfl⟩
  rw [hz] at hff hz16 HFO
  clear hz
  obtain ⟨i, hi⟩ : ∃ i, z / 4 = i := ⟨_, rfl⟩
  obtain ⟨j, hj⟩ : ∃ j, z % 4 = j := ⟨_, rfl⟩
  rw [hi, hj] at HFO hff
  have HFF := Lib.hid hff
  have hij4 : i < 4 ∧ j < 4 := by clear hff; omega
  obtain ⟨hi4, hj4⟩ := hij4
  have hij : i < q ∧ j < d := by
    obtain ⟨x, e1, e2, e3, _⟩ := need_fst HNE.out
    rw [hff] at e1
    injection e1 with e1
    subst e1
    rw [← HQ.out, ← HD.out]
    exact ⟨e2, e3⟩
  clear hz16 hi hj hff
  have hgi : ((g : Int) == 0) = false := by rw [beq_eq_false_iff_ne]; omega
  have HB1 := Lib.hid b1
  have hz1 := b1.size
  have HIJ := Lib.hid hij
  have H4 := Lib.hid (And.intro hi4 hj4)
  have HP16 := Lib.hid hmp16
  clear b1 hij hi4 hj4 hg16 hg0 hmp16
  gi_wp2_with fail
  refine ⟨trivial, ?_⟩
  refine (callsIn_wide.2 HFO.out).mono ?_
  rintro e w4 ⟨rfl, b4⟩
  have HB4 := Lib.hid (HB1.out.trans (b4.mono hz1))
  clear b4 hgi
  obtain ⟨W4, hW4, b44, hz44, kc, kb, kl⟩ := three_blk w4 #[.int .i64 i, .int .i64 j] #[.int .u64 0] #[.int .i64 0] TPl TPt TN
  have hw4 := HB4.out.size
  have hx : Below wa.heap.size wa W4 := HB4.out.trans (b44.mono hw4)
  obtain ⟨x0, x1, _, _, _⟩ := blk5 (HK.out _ hx).1
  have HW4 := Lib.hid hW4.symm
  rw [hW4] at x0 x1
  gi_wp2_with fail
  rw [HW4.out]
  clear hW4
  refine ⟨trivial, ?_⟩
  refine (callsIn_wide.2 (iPlaces_any q d W4)).mono ?_
  rintro e w5 ⟨rfl, rfl⟩
  clear x0 x1
  gi_wp2
  obtain ⟨W5, hW5, b5, hz5, kp⟩ := one_blk W4 #[.int .i64 q, .int .i64 d] TG
  rw [← hW5]
  rw [hz44] at kp
  have hlt5 : w4.heap.size + 1 + 1 + 1 < W5.heap.size := by omega
  have hw4' : w.heap.size + 1 < w4.heap.size := by omega
  have kb5 := (b5.block (w4.heap.size + 1) (by omega)).trans kb
  have kl5 := (b5.block (w4.heap.size + 1 + 1) (by omega)).trans kl
  have kc5 := (b5.block w4.heap.size (by omega)).trans kc
  have hx5 : Below wa.heap.size wa W5 := hx.trans (b5.mono hx.size)
  obtain ⟨kd5, kh5⟩ := HK.out W5 hx5
  have HB5 := Lib.hid (HBa.out.trans (hx5.mono HBa.out.size))
  have HTT5 := Lib.hid (show ∀ X, Below w.heap.size w X → TabW X from fun X h => HTW.out.below h)
  clear hW5 b5 hx hx5 kb kl kc b44 hz44 hz5 hw4
  refine' wpIn_rangeFunc_ownG (α := Pc q d) rfl (by omega) (gf := 80) (lb := #[.pointer (some ⟨w4.heap.size + 1 + 1 + 1, 0, none⟩)]) rfl trivial (enters_of Tryd.func80 (by kernel_rfl) rfl)
    (places_stops 5 (by omega) (w4.heap.size + 1 + 1 + 1) q d (by omega) (by omega) W5 (by omega) kp) kB_t (kB_b hlt5) (Below.refl _ _) (fun _ => rfl)
    (fun pre X => ((((Boxed X (w4.heap.size + 1) TPt (patV (bbV i j (bstP t m i j pre))) ∧ Boxed X (w4.heap.size + 1 + 1) TN (.int .i64 (ccV t m i j (bstP t m i j pre))) ∧ W5.heap.size ≤ X.heap.size) ∧ X.heap[w.heap.size]? = some (.cells #[.int .i64 q, .int .i64 d, .slice A q c, patV fp, .int .i64 n] TDm (0, 0))) ∧ X.heap[w.heap.size + 1]? = some (.cells #[patV mp] TPt (0, 0))) ∧ X.heap[w4.heap.size]? = some (.cells #[.int .i64 i, .int .i64 j] TPl (0, 0))) ∧ Below w.heap.size w X)
    (fun _ _ _ => False)
    (OwnFrom.and (OwnFrom.and (OwnFrom.and (OwnFrom.and (fun s X Y row hs hg hr => ⟨boxed_own _ TPt (fun (_ : Unit) => patV (bbV i j (bstP t m i j s))) () X Y row hs.1 hg (fun r e => (hr r e).2), boxed_own _ TN (fun (_ : Unit) => Value.int .i64 (ccV t m i j (bstP t m i j s))) () X Y row hs.2.1 hg (fun r e => (hr r e).2), Nat.le_trans hs.2.2 hg.size⟩) cells_from) cells_from) cells_from) (ownFrom_below (Nat.le_refl _) (by have := HB5.out.size; omega)))
    (fun _ _ _ _ _ hs _ _ => hs)
    ⟨⟨⟨⟨⟨kb5, kl5, Nat.le_refl _⟩, kd5⟩, kh5⟩, kc5⟩, HB5.out⟩
    _ ?assign ?body ?done ?stop
  case assign =>
    intro l x X K hK
    gi_wp2
    exact hK
  case body =>
    rintro l pre ⟨⟨k, hk⟩, ⟨s, hs⟩⟩ X ⟨⟨⟨⟨⟨hbb, hcc, hzX5⟩, hkd⟩, hkh⟩, hkc⟩, hbX⟩ hlen
    obtain ⟨y0, y1, _, _⟩ := blk2 hkc
    have hqk : k < t.length := by rw [HQ.out]; exact hk
    have hds : s < wd t := by rw [HD.out]; exact hs
    by_cases hki : k = i
    · have hke : ((k : Int) == (i : Int)) = true := by rw [beq_iff_eq]; omega
      have HSM := Lib.hid (show bstP t m i j (pre ++ [((⟨k, hk⟩, ⟨s, hs⟩) : Pc q d)]) = bstP t m i j pre by rw [bstP_snoc]; exact bst_no (good_no (.inl hki)))
      clear hki hqk hds hlen
      gi_wp2
      exact ⟨KeepsFrom.refl _ _, rfl, ⟨⟨⟨by rw [HSM.out]; exact ⟨hbb, hcc, hzX5⟩, hkd⟩, hkh⟩, hkc⟩, hbX⟩
    have hke : ((k : Int) == (i : Int)) = false := by rw [beq_eq_false_iff_ne]; omega
    by_cases hsj : s = j
    · have hse : ((s : Int) == (j : Int)) = true := by rw [beq_iff_eq]; omega
      have HSM := Lib.hid (show bstP t m i j (pre ++ [((⟨k, hk⟩, ⟨s, hs⟩) : Pc q d)]) = bstP t m i j pre by rw [bstP_snoc]; exact bst_no (good_no (.inr hsj)))
      clear hki hsj hqk hds hlen
      gi_wp2
      exact ⟨KeepsFrom.refl _ _, rfl, ⟨⟨⟨by rw [HSM.out]; exact ⟨hbb, hcc, hzX5⟩, hkd⟩, hkh⟩, hkc⟩, hbX⟩
    have hse : ((s : Int) == (j : Int)) = false := by rw [beq_eq_false_iff_ne]; omega
    obtain ⟨hi4, hj4⟩ := H4.out
    have hij := HIJ.out
    have hk4 : k < 4 := by omega
    have hs4 : s < 4 := by omega
    obtain ⟨z, hz⟩ : ∃ z, enc (inSq i j k s) = z := ⟨_, rfl⟩
    obtain ⟨y, hy⟩ : ∃ y, enc (newB m i j k s) = y := ⟨_, rfl⟩
    have hz16 : z < 65536 := by rw [← hz]; exact enc_lt _
    have hy16 : y < 65536 := by rw [← hy]; exact enc_lt _
    have hbits : bits .andNot .u64 (z : Int) (mp : Int) = (y : Int) := by
      rw [less_int hz16 HP16.out, ← hz, ← HMP.out, new_enc, hy]
    have HRC := Lib.hid (iRect_is i j k s hi4 hj4 hk4 hs4 z hz X)
    have HGD := Lib.hid (show goodR m i j (k, s) = decide (y ≠ 0) by rw [good_at hi4 hj4 hk4 hs4 hki hsj, hy])
    have HIN := Lib.hid (show ∀ x : PB y, x.1.val / 4 < q ∧ x.1.val % 4 < d by rw [← hy]; exact new_in hij.1 hij.2 hk hs hd4.2)
    obtain ⟨gc, hgc⟩ : ∃ gc, rc t m i j (k, s) = gc := ⟨_, rfl⟩
    have HCO := Lib.hid (show sumP t (allP y) = gc by rw [← hy, new_cost hi4 hj4 hk4 hs4 hki hsj, hgc])
    have HGC := Lib.hid hgc
    have HZ := Lib.hid hz
    obtain ⟨bb, hbe⟩ : ∃ bb, bbV i j (bstP t m i j pre) = bb := ⟨_, rfl⟩
    obtain ⟨cc, hce⟩ : ∃ cc, ccV t m i j (bstP t m i j pre) = cc := ⟨_, rfl⟩
    rw [hbe] at hbb
    rw [hce] at hcc
    have HBE := Lib.hid hbe
    have HCE := Lib.hid hce
    have HBB := Lib.hid hbb
    have HCC := Lib.hid hcc
    have HKD := Lib.hid hkd
    have HKH := Lib.hid hkh
    have HKC := Lib.hid hkc
    have HBX := Lib.hid hbX
    have HBT := Lib.hid hbits
    have HY16 := Lib.hid hy16
    have hzX := hbX.size
    have hXB := hbb.lt
    have hXC := hcc.lt
    have hXP : w4.heap.size + 1 + 1 + 1 < W5.heap.size := hlt5
    clear hz hy hz16 hy16 hbits hgc hbe hce hbb hcc hkd hkh hkc hbX hki hsj hqk hds hlen hi4 hj4 hij hk4 hs4
    gi_wp2_with fail
    refine ⟨trivial, ?_⟩
    refine (callsIn_wide.2 HRC.out).mono ?_
    rintro e X1 ⟨rfl, h1⟩
    have HB1X := Lib.hid h1
    have HBX1 := Lib.hid (HBX.out.trans (h1.mono hzX))
    have hwl : w.heap.size + 1 < X.heap.size := by omega
    obtain ⟨d0, d1, d2, d3, d4⟩ := blk5 ((h1.block _ (by omega)).trans HKD.out)
    have e0 := cell_of_row _ _ 0 _ _ _ ((h1.block _ hwl).trans HKH.out)
    have hbits := HBT.out
    have HPC := Lib.hid (iPCost_is X1 t _ (HV.out.below HBX1.out) q d HQ.out (fun a ha => by rw [tab_lens (tab_iff.2 HTT.out) (by rw [HQ.out]; exact ha), HD.out]) (fun a b ha hb => by
      have := cell_bd HTT.out (i := a) (j := b) (by rw [HQ.out]; exact ha) (by rw [HD.out]; exact hb)
      exact this) y HY16.out HIN.out (by omega) gc HCO.out X1 (Below.refl _ _) (HTT5.out X1 HBX1.out))
    clear h1 y0 y1 hke hse
    gi_wp2_with fail
    refine ⟨trivial, ?_⟩
    refine (callsIn_wide.2 HPC.out).mono ?_
    rintro e X2 ⟨rfl, h2⟩
    have h12 : Below X.heap.size X X2 := HB1X.out.trans (h2.mono HB1X.out.size)
    have HX12 := Lib.hid h12
    have HBX2 := Lib.hid (HBX.out.trans (h12.mono hzX))
    have HKS := Lib.hid (keepsF h12 W5.heap.size)
    have hB2 : Boxed X2 (w4.heap.size + 1) TPt (patV bb) := (h12.block _ hXB).trans HBB.out
    have hC2 : Boxed X2 (w4.heap.size + 1 + 1) TN (.int .i64 cc) := (h12.block _ hXC).trans HCC.out
    have HI := Lib.hid (show X2.heap[w.heap.size]? = some (.cells #[.int .i64 q, .int .i64 d, .slice A q c, patV fp, .int .i64 n] TDm (0, 0)) ∧ X2.heap[w.heap.size + 1]? = some (.cells #[patV mp] TPt (0, 0)) ∧ X2.heap[w4.heap.size]? = some (.cells #[.int .i64 i, .int .i64 j] TPl (0, 0)) from
      ⟨(h12.block _ (by omega)).trans HKD.out, (h12.block _ hwl).trans HKH.out, (h12.block _ (by omega)).trans HKC.out⟩)
    have c0 := hB2.cell
    have f0 := hB2.frozen
    have c1 := hC2.cell
    have f1 := hC2.frozen
    have HB2 := Lib.hid hB2
    have HC2 := Lib.hid hC2
    have SAME := Lib.hid (fun (hsame : bstP t m i j (pre ++ [((⟨k, hk⟩, ⟨s, hs⟩) : Pc q d)]) = bstP t m i j pre) => show (Boxed X2 (w4.heap.size + 1) TPt (patV (bbV i j (bstP t m i j (pre ++ [((⟨k, hk⟩, ⟨s, hs⟩) : Pc q d)])))) ∧ Boxed X2 (w4.heap.size + 1 + 1) TN (.int .i64 (ccV t m i j (bstP t m i j (pre ++ [((⟨k, hk⟩, ⟨s, hs⟩) : Pc q d)]))))) by
      rw [hsame, HBE.out, HCE.out]; exact ⟨HB2.out, HC2.out⟩)
    have hKB : KB (w4.heap.size + 1 + 1 + 1) X X2 := h12.block _ (Nat.lt_of_lt_of_le hXP hzX5)
    have hz52 : W5.heap.size ≤ X2.heap.size := Nat.le_trans hzX5 h12.size
    have HYE := Lib.hid (show ∃ Y, Y = (X2.setCell ⟨w4.heap.size + 1, 0, none⟩ (patV z)).setCell ⟨w4.heap.size + 1 + 1, 0, none⟩ (.int .i64 gc) from ⟨_, rfl⟩)
    have hne1 : w4.heap.size + 1 ≠ w4.heap.size + 1 + 1 := by omega
    have STO := Lib.hid (fun (hnew : bstP t m i j (pre ++ [((⟨k, hk⟩, ⟨s, hs⟩) : Pc q d)]) = some (k, s)) (Y : World) (hY : Y = (X2.setCell ⟨w4.heap.size + 1, 0, none⟩ (patV z)).setCell ⟨w4.heap.size + 1 + 1, 0, none⟩ (.int .i64 gc)) =>
      show KeepsFrom W5.heap.size X Y ∧ KB (w4.heap.size + 1 + 1 + 1) X Y ∧ ((((Boxed Y (w4.heap.size + 1) TPt (patV (bbV i j (bstP t m i j (pre ++ [((⟨k, hk⟩, ⟨s, hs⟩) : Pc q d)])))) ∧ Boxed Y (w4.heap.size + 1 + 1) TN (.int .i64 (ccV t m i j (bstP t m i j (pre ++ [((⟨k, hk⟩, ⟨s, hs⟩) : Pc q d)])))) ∧ W5.heap.size ≤ Y.heap.size) ∧ Y.heap[w.heap.size]? = some (.cells #[.int .i64 q, .int .i64 d, .slice A q c, patV fp, .int .i64 n] TDm (0, 0))) ∧ Y.heap[w.heap.size + 1]? = some (.cells #[patV mp] TPt (0, 0))) ∧ Y.heap[w4.heap.size]? = some (.cells #[.int .i64 i, .int .i64 j] TPl (0, 0))) ∧ Below w.heap.size w Y by
      have hk2 : ∀ b, b ≠ w4.heap.size + 1 → b ≠ w4.heap.size + 1 + 1 → Y.heap[b]? = X2.heap[b]? := fun b h1 h2 => by
        rw [hY]
        exact (Below.heap_setCell _ ⟨w4.heap.size + 1 + 1, 0, none⟩ _ b h2).trans (Below.heap_setCell X2 ⟨w4.heap.size + 1, 0, none⟩ _ b h1)
      have hbz : bbV i j (some (k, s)) = z := HZ.out
      have hcz : ccV t m i j (some (k, s)) = gc := HGC.out
      rw [hnew, hbz, hcz]
      refine ⟨?_, (hk2 _ (by omega) (by omega)).trans hKB, ⟨⟨⟨⟨?_, ?_, ?_⟩, ?_⟩, ?_⟩, ?_⟩, ?_⟩
      · rw [hY]; exact HKS.out.trans (((KeepsOthers.setCell X2 _ _).trans (KeepsOthers.setCell _ _ _)).from _)
      · rw [hY]; exact (Below.heap_setCell _ ⟨w4.heap.size + 1 + 1, 0, none⟩ _ (w4.heap.size + 1) hne1).trans (HB2.out.set _)
      · rw [hY]; exact (show Boxed (X2.setCell ⟨w4.heap.size + 1, 0, none⟩ (patV z)) (w4.heap.size + 1 + 1) TN (.int .i64 cc) from (Below.heap_setCell X2 ⟨w4.heap.size + 1, 0, none⟩ _ (w4.heap.size + 1 + 1) (Ne.symm hne1)).trans HC2.out).set _
      · rw [hY]; simpa [World.setCell] using hz52
      · exact (hk2 _ (by omega) (by omega)).trans HI.out.1
      · exact (hk2 _ (by omega) (by omega)).trans HI.out.2.1
      · exact (hk2 _ (by omega) (by omega)).trans HI.out.2.2
      · rw [hY]; exact (HBX2.out.setCell (p := ⟨w4.heap.size + 1, 0, none⟩) (by show w.heap.size ≤ w4.heap.size + 1; omega) _).setCell (p := ⟨w4.heap.size + 1 + 1, 0, none⟩) (by show w.heap.size ≤ w4.heap.size + 1 + 1; omega) _)
    have HKB := Lib.hid hKB
    have HY := Lib.hid hz52
    clear h2 h12 hB2 hC2 d0 d1 d2 d3 d4 e0 hbits hKB hz52 HYE hXP hXB hXC hwl hzX hzX5
    by_cases hy0 : y = 0
    · have hyb : ((y : Int) != 0) = false := by simp; omega
      have HS := Lib.hid (SAME.out (by rw [bstP_snoc]; exact bst_no (by show goodR m i j (k, s) = false; rw [HGD.out, hy0]; rfl)))
      clear hy0
      gi_wp2
      exact ⟨HKS.out, HKB.out, ⟨⟨⟨⟨HS.out.1, HS.out.2, HY.out⟩, HI.out.1⟩, HI.out.2.1⟩, HI.out.2.2⟩, HBX2.out⟩
    have hyb : ((y : Int) != 0) = true := by simp; omega
    have HG1 := Lib.hid (show goodR m i j (k, s) = true by rw [HGD.out]; simp [hy0])
    clear hy0
    by_cases hb0 : bb = 0
    · have hbz : ((bb : Int) == 0) = true := by simp; omega
      have HN := Lib.hid (show bstP t m i j (pre ++ [((⟨k, hk⟩, ⟨s, hs⟩) : Pc q d)]) = some (k, s) by
        rw [bstP_snoc]
        refine bst_one HG1.out ?_
        cases e : bst t m i j (pre.map pcN) with
        | none => rfl
        | some p =>
          have h := HBE.out
          rw [bstP, e] at h
          exact absurd (h.trans hb0) (rect_pos H4.out.1 H4.out.2))
      clear hb0
      gi_wp2
      exact STO.out HN.out _ rfl
    have hbz : ((bb : Int) == 0) = false := by simp; omega
    obtain ⟨p, hp⟩ : ∃ p, bst t m i j (pre.map pcN) = some p := by
      cases e : bst t m i j (pre.map pcN) with
      | none =>
        have h := HBE.out
        rw [bstP, e] at h
        exact absurd h.symm hb0
      | some p => exact ⟨p, rfl⟩
    have HCP := Lib.hid (show rc t m i j p = cc by have h := HCE.out; rw [bstP, hp] at h; exact h)
    have HP := Lib.hid hp
    clear hb0 hp
    by_cases hlt : gc < cc
    · have HN := Lib.hid (show bstP t m i j (pre ++ [((⟨k, hk⟩, ⟨s, hs⟩) : Pc q d)]) = some (k, s) by
        rw [bstP_snoc]
        exact bst_new HG1.out HP.out (by show rc t m i j (k, s) < rc t m i j p; rw [HGC.out, HCP.out]; exact hlt))
      gi_wp2
      exact STO.out HN.out _ rfl
    · have HS := Lib.hid (SAME.out (by rw [bstP_snoc, bst_old HP.out (by show ¬ rc t m i j (k, s) < rc t m i j p; rw [HGC.out, HCP.out]; exact hlt), bstP, HP.out]))
      have hdl : decide (gc < cc) = false := decide_eq_false hlt
      clear hlt
      gi_wp2
      exact ⟨HKS.out, HKB.out, ⟨⟨⟨⟨HS.out.1, HS.out.2, HY.out⟩, HI.out.1⟩, HI.out.2.1⟩, HI.out.2.2⟩, HBX2.out⟩
  case done =>
    rintro D ys X hD rfl ⟨⟨⟨⟨⟨hbb, hcc, _⟩, hkd⟩, hkh⟩, hkc⟩, hbX⟩ hK
    have e0 := cell_of_row _ _ 0 _ _ _ hkh
    have e1 := hbb.cell
    have HK2 := Lib.hid hK
    have HBX := Lib.hid hbX
    obtain ⟨bb, hbe⟩ : ∃ bb, bbV i j (bstP t m i j (plc q d)) = bb := ⟨_, rfl⟩
    rw [hbe] at e1
    have HBE := Lib.hid hbe
    have hbb16 : bb < 65536 := by rw [← hbe]; exact bbV_lt _ _ _
    have hbe2 : bbV i j (bst t m i j (np (wd t) t.length 0)) = bb := by
      have e1 : bstP t m i j (plc q d) = bst t m i j (np (wd t) t.length 0) := by
        rw [HD.out, HQ.out, ← plc_np]
      rw [← e1]; exact hbe
    have HRS := Lib.hid (step_end HMK.out HNE.out HFF.out (by rw [HQ.out, HD.out]; exact HIJ.out) H4.out HMP.out HR.out hbe2)
    clear hbe2
    obtain ⟨y, hy⟩ : ∃ y, mp ||| bb = y := ⟨_, rfl⟩
    have HOR := Lib.hid (show bits .or .u64 (mp : Int) (bb : Int) = (y : Int) by rw [or_int HP16.out hbb16, hy])
    have HRES := Lib.hid (show r.isSome = ((bb : Int) != 0) ∧ ∀ x, r = some x → y = enc (hF x) from ⟨HRS.out.1, fun x h => hy.symm.trans (HRS.out.2 x h)⟩)
    have HYE := Lib.hid hy
    have hor := HOR.out
    clear hK hbX hbe hbb16 hy hbb hcc hkd hkh hkc
    gi_wp2
    have hmx : Tryd.prog.follows .mixedOrders = true := by kernel_rfl
    gi_big_quiet_th_o (fail)
    clear hor
    have HBY := Lib.hid (below_draws HBX.out nq)
    have HKY := Lib.hid (show (X.drewN nq).heap[D]? = some (.deferred (some [])) from HK2.out)
    have hwD : w.heap.size ≤ D := by have := HB5.out.size; omega
    clear e0 e1 hmx
    gi_wp2
    refine ⟨by simp, .inl ⟨_, _, rfl, run_takeDeferred HKY.out, ?_⟩⟩
    exact ⟨.tuple #[patV y, .bool ((bb : Int) != 0)], by simp [results, Tryd.results42, go_sem], y, by rw [HRES.out.1], HRES.out.2, HB.out.trans (Below.mono (HBY.out.trans (belowK_b (w := w) (Nat.le_refl _) _ D _ _ hwD HKY.out rfl rfl)) hWw)⟩
  case stop =>
    rintro D c pre X hD _ h _
    exact h.elim
end Go.Proofs.YtobgceebolmfcaaDoor

namespace Go.Proofs.YtobgceebolmfcaaDoor
open Go.RowKit Go.Shelf
theorem iStep_is (W : World) (t : Tb) (v : Value) (hv : IsR W v t) (f : Mk) (u : Value) (hu : IsM W u f) (m : Mk) (u2 : Value) (hu2 : IsM W u2 m) (n : Int) (r : Option Mk) (hr : stepO t f m n = r) (w : World) (hb : Below W.heap.size W w) (hT : TabW W) :
    Calls Tryd.prog 14 #[v, u, u2, .int .i64 n] w (OutMT (r.getD []) r.isSome w) := iPStep_of stepC W t v hv f u hu m u2 hu2 n r hr w hb hT
theorem need_zero_of {t : Tb} {f m : Mk} {n : Int} (hf : mkOk t f = true) (hm : mkOk t m = true) (hn : 0 ≤ n ∧ n ≤ 99) (h : enc (unF t f m n) = 0) : needN t f m n = 0 := by
  have h1 := (enc_unmet hf hm hn).1 h
  have h2 := needN_ok.2 (pOk3_iff.2 ⟨hf, hm, hn.1, hn.2⟩)
  omega
set_option maxRecDepth 100000 in
set_option maxHeartbeats 2000000 in
theorem iGrow_is (W : World) (t : Tb) (v : Value) (hv : IsR W v t) (f : Mk) (u : Value) (hu : IsM W u f) (n : Int) (r : Option Mk) (hr : growO t f n = r) (w : World) (hb : Below W.heap.size W w) (hT : TabW W) :
    Calls Tryd.prog 19 #[v, u, .int .i64 n] w (OutMT (r.getD []) r.isSome w) := by
  have hvw := hv.below hb
  have HU := Lib.hid (hu.below hb)
  have HT := Lib.hid (hT.below hb)
  obtain ⟨A, c, rfl, _, _, _⟩ := id hvw
  obtain ⟨q, hq⟩ : ∃ q, t.length = q := ⟨_, rfl⟩
  obtain ⟨d, hd⟩ : ∃ d, wd t = d := ⟨_, rfl⟩
  have HQ := Lib.hid hq
  have HD := Lib.hid hd
  rw [hq] at hvw ⊢
  have HV := Lib.hid hvw
  have HR := Lib.hid hr
  clear hv hu hb hT hr hq hd hvw
  go_enter Tryd.func19, Tryd.ntmps19
  go_wp2_with fail
  refine (iDem_is w t _ HV.out f _ HU.out n w (Below.refl _ _)).mono ?_
  rintro e w1 ⟨b1, ⟨h1, a, b, A', k', c', f', n', rfl⟩ | ⟨h1, rfl⟩⟩
  · obtain ⟨w2, hw2, b2, hz2, k2⟩ := one_blk w1 #[.int .i64 a, .int .i64 b, .slice A' k' c', .int .u64 f', .int .i64 n'] TDm
    have HE := Lib.hid (show r = none by rw [← HR.out]; exact grow_low (by rw [needN_no (by rw [ok3_dem, h1]; rfl)]; omega))
    have hF2 := b1.trans (b2.mono b1.size)
    have HN := Lib.hid (show MineB (w2.alloc (.cells #[] TBS)) w.heap.size (w1.heap.size + 1 + 1) (.slice (some ⟨w1.heap.size + 1, 0, none⟩) 0 0) [] from by have := mineB_new (w := w2) hF2.size; rw [hz2] at this; exact this)
    have HF := Lib.hid (hF2.alloc hF2.size (.cells #[] TBS))
    have HW2 := Lib.hid hw2.symm
    clear b1 b2 hw2 h1 k2 hF2 hz2
    go_wp2
    rw [HW2.out]
    refine bodyPost_ret (results_tmp2 rfl _ _ _) rfl ?_
    rw [HE.out]
    exact ⟨_, rfl, HN.out.up, HF.out⟩
  obtain ⟨hf, hn0, hn9⟩ := demOk_iff.1 h1
  have ht := mk_tab hf
  have ht4 := ht.h4
  have hw4 := ht.w4
  rw [HQ.out] at ht4
  rw [HD.out] at hw4
  have HFK := Lib.hid hf
  have HNN := Lib.hid (And.intro hn0 hn9)
  have h3 := pOk3_iff.2 ⟨hf, hf, hn0, hn9⟩
  have hnd := needN_ok.2 h3
  have HGR0 := Lib.hid (show growF t f n 17 f = r by rw [← HR.out, grow_go hnd])
  have HMS0 := Lib.hid (show miss t f < 17 by have := miss_le hf; omega)
  obtain ⟨w2, hw2, b2, hz2, k2⟩ := one_blk w1 #[.int .i64 t.length, .int .i64 (wd t), .slice A q c, patV (enc (hF f)), .int .i64 n] TDm
  have HB2 := Lib.hid (b1.trans (b2.mono b1.size))
  have HW2 := Lib.hid hw2.symm
  obtain ⟨fp, hfp⟩ : ∃ fp, enc (hF f) = fp := ⟨_, rfl⟩
  rw [HQ.out, HD.out, hfp] at HW2 k2 ⊢
  have HFP := Lib.hid hfp
  have hlt : w1.heap.size < w2.heap.size := by omega
  have HX := Lib.hid (show ∀ X, Below w2.heap.size w2 X → X.cell? ⟨w1.heap.size, 0, none⟩ = some (.int .i64 q) ∧ X.cell? ⟨w1.heap.size, 1, none⟩ = some (.int .i64 d) ∧ X.cell? ⟨w1.heap.size, 2, none⟩ = some (.slice A q c) ∧ X.cell? ⟨w1.heap.size, 3, none⟩ = some (patV fp) ∧ X.cell? ⟨w1.heap.size, 4, none⟩ = some (.int .i64 n) from fun X h =>
    blk5 ((h.block _ hlt).trans k2))
  have HTX := Lib.hid (show ∀ X, Below w2.heap.size w2 X → Below w.heap.size w X from fun X h => HB2.out.trans (h.mono HB2.out.size))
  have HUN := Lib.hid (show ∀ (X : World) (cur : Mk) (g : Nat), Below w2.heap.size w2 X → mkOk t cur = true → enc (unF t f cur n) = g → Calls Tryd.prog 48 #[demV q d (.slice A q c) fp n, patV (enc (hF cur))] X (Back (patV g) X) from fun X cur g hX hc hg => by
    have := iUnmet_is X t _ (HV.out.below (HTX.out X hX)) f cur hf hc n ⟨hn0, hn9⟩ g hg X (Below.refl _ _) (HT.out.below (HTX.out X hX))
    rw [HQ.out, HD.out, hfp] at this
    exact this)
  have HSP := Lib.hid (show ∀ (X : World) (cur : Mk) (r2 : Option Mk), Below w2.heap.size w2 X → mkOk t cur = true → stepO t f cur n = r2 → Calls Tryd.prog 42 #[demV q d (.slice A q c) fp n, patV (enc (hF cur))] X (OutStp r2 X) from fun X cur r2 hX hc hr2 => by
    have := stepC X t _ (HV.out.below (HTX.out X hX)) f cur hf hc n ⟨hn0, hn9⟩ r2 hr2 X (Below.refl _ _) (HT.out.below (HTX.out X hX))
    rw [HQ.out, HD.out, hfp] at this
    exact this)
  obtain ⟨x0, x1, x2, x3, x4⟩ := HX.out w2 (Below.refl _ _)
  rw [← HW2.out] at x0 x1 x2 x3 x4
  clear b1 b2 hw2 h1 hf ht k2 h3 hnd hfp hn0 hn9 hz2
  go_wp2
  rw [HW2.out]
  clear x0 x1 x2 x3 x4
  go_loopg [10] 17 (fun k s wr => ∃ (cur : Mk) (z : Nat), s = patV z ∧ z = enc (hF cur) ∧ mkOk t cur = true ∧ growF t f n k cur = r ∧ miss t cur < k ∧ Below w2.heap.size w2 wr)
  case atStart => exact ⟨f, fp, rfl, HFP.out.symm, HFK.out, HGR0.out, HMS0.out, Below.refl _ _⟩
  case round =>
    obtain ⟨cur, z, rfl, hz, hck, hgr, hms, hbr⟩ := hrel
    have HZ := Lib.hid hz
    have HCK := Lib.hid hck
    have HGR := Lib.hid hgr
    have HBR := Lib.hid hbr
    obtain ⟨x0, x1, x2, x3, x4⟩ := HX.out wr hbr
    obtain ⟨g, hg⟩ : ∃ g, enc (unF t f cur n) = g := ⟨_, rfl⟩
    have HG := Lib.hid hg
    have HC := Lib.hid (show Calls Tryd.prog 48 #[demV q d (.slice A q c) fp n, patV z] wr (Back (patV g) wr) by rw [hz]; exact HUN.out wr cur g hbr hck hg)
    have hzr := hbr.size
    have hms17 : miss t cur < 17 + 1 := by have := miss_le hck; omega
    clear hz hck hgr hbr hg
    go_wp2_with fail
    refine HC.out.mono ?_
    rintro e w3 ⟨rfl, b3⟩
    have HB3 := Lib.hid (HBR.out.trans (b3.mono hzr))
    clear b3 x0 x1 x2 x3 x4
    obtain ⟨x0, x1, x2, x3, x4⟩ := HX.out w3 HB3.out
    by_cases hg0 : g = 0
    · have hgb : ((g : Int) != 0) = false := by simp; omega
      have HE := Lib.hid (show r = some cur by rw [← HGR.out]; exact growF_done (need_zero_of HFK.out HCK.out HNN.out (by rw [HG.out]; exact hg0)) (by omega))
      obtain ⟨hz16, hzi, hzm⟩ := mask_key HCK.out HQ.out HD.out HZ.out
      have HP := Lib.hid (iPMask_is q d ht4 hw4 z hz16 hzi cur hzm w3 (HT.out.below (HTX.out _ HB3.out)))
      clear hz16 hzi hzm hg0 hms17
      go_wp2_with fail
      refine HP.out.mono ?_
      rintro e w4 ⟨v4, rfl, ho4, h4⟩
      have hb3 := HTX.out _ HB3.out
      have HO4 := Lib.hid (ho4.lowerM hb3.size)
      have HF := Lib.hid (hb3.trans (h4.mono hb3.size))
      clear ho4 h4 x0 x1 x2 x3 x4 hb3
      go_wp2
      refine bodyPost_ret (results_tmp2 rfl _ _ _) rfl ?_
      rw [HE.out]
      exact ⟨v4, rfl, HO4.out, HF.out⟩
    · have hgb : ((g : Int) != 0) = true := by simp; omega
      obtain ⟨r2, hr2⟩ : ∃ r2, stepO t f cur n = r2 := ⟨_, rfl⟩
      have HR2 := Lib.hid hr2
      have HNE := Lib.hid (show needN t f cur n ≠ 0 by
        have := (enc_unmet HFK.out HCK.out HNN.out).2 (by rw [HG.out]; exact hg0)
        omega)
      have HS := Lib.hid (show Calls Tryd.prog 42 #[demV q d (.slice A q c) fp n, patV z] w3 (OutStp r2 w3) by rw [HZ.out]; exact HSP.out w3 cur r2 HB3.out HCK.out hr2)
      clear hg0 hr2
      go_wp2_with fail
      refine HS.out.mono ?_
      rintro e w4 ⟨z4, rfl, hz4, b4⟩
      have HB4 := Lib.hid (HB3.out.trans (b4.mono HB3.out.size))
      have HZ4 := Lib.hid hz4
      clear b4 hz4 x0 x1 x2 x3 x4
      cases r2 with
      | none =>
        have HE := Lib.hid (show r = none by rw [← HGR.out]; exact growF_fail HNE.out HR2.out)
        have hb4 := HTX.out _ HB4.out
        have HN := Lib.hid (mineB_new (w := w4) hb4.size)
        have HF := Lib.hid (hb4.alloc hb4.size (.cells #[] TBS))
        clear hb4 hms17
        simp only [Option.isSome]
        go_wp2
        refine bodyPost_ret (results_tmp2 rfl _ _ _) rfl ?_
        rw [HE.out]
        exact ⟨_, rfl, HN.out.up, HF.out⟩
      | some m' =>
        have HMK := Lib.hid (step_ok HR2.out).2.1
        have HGN := Lib.hid (show growF t f n (gk - 1) m' = r by
          rw [← HGR.out]
          obtain ⟨g', rfl⟩ : ∃ g', gk = g' + 1 := ⟨gk - 1, by omega⟩
          rw [growF_step HNE.out HR2.out]; rfl)
        have hml := miss_lt HR2.out
        simp only [Option.isSome]
        go_wp2
        go_roundg (gk - 1)
        case measure => omega
        case rel => exact ⟨m', z4, rfl, HZ4.out m' rfl, HMK.out, HGN.out, by omega, HB4.out⟩
end Go.Proofs.YtobgceebolmfcaaDoor
