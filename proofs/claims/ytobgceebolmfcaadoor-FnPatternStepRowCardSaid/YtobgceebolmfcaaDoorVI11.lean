/- Contracts of the program: rectangles. -/
import Derived.Test.YtobgceebolmfcaaDoorVIB
import Derived.Test.YtobgceebolmfcaaDoorRQ
import Derived.Deep.RegionHeld3
namespace Go.Proofs.YtobgceebolmfcaaDoor
open Go.RowKit
theorem or_rect {i j k l : Nat} (hi : i < 4) (hj : j < 4) (hk : k < 4) (hl : l < 4) : 2 ^ (4 * i + j) ||| 2 ^ (4 * i + l) ||| 2 ^ (4 * k + j) ||| 2 ^ (4 * k + l) = enc (inSq i j k l) := by
  rw [bit_enc hi hj, bit_enc hi hl, bit_enc hk hj, bit_enc hk hl, or_enc, or_enc, or_enc]
  refine enc_ext fun a b _ _ => ?_
  unfold inSq
  generalize decide (a = i) = x1
  generalize decide (a = k) = x2
  generalize decide (b = j) = x3
  generalize decide (b = l) = x4
  revert x1 x2 x3 x4
  decide
set_option maxRecDepth 100000 in
set_option maxHeartbeats 4000000 in
theorem iRect_is (i j k l : Nat) (hi : i < 4) (hj : j < 4) (hk : k < 4) (hl : l < 4) (z : Nat) (hz : enc (inSq i j k l) = z) (w : World) :
    Calls Tryd.prog 69 #[plV i j, plV k l] w fun e w' => e = .returned (patV z) ∧ Below w.heap.size w w' := by
  obtain ⟨W5, hW5, b5, hz5, k4, k5⟩ := two_blk w #[.int .i64 i, .int .i64 j] #[.int .i64 k, .int .i64 l] TPl TPl
  obtain ⟨p0, p1, _, _⟩ := blk2 k4
  obtain ⟨q0, q1, _, _⟩ := blk2 k5
  have HCE := Lib.hid (show ∀ X, Below W5.heap.size W5 X → Below W5.heap.size W5 X ∧ (X.cell? ⟨w.heap.size, 0, none⟩ = some (.int .i64 i) ∧ X.cell? ⟨w.heap.size, 1, none⟩ = some (.int .i64 j)) ∧ X.cell? ⟨w.heap.size + 1, 0, none⟩ = some (.int .i64 k) ∧ X.cell? ⟨w.heap.size + 1, 1, none⟩ = some (.int .i64 l) from fun X h =>
    ⟨h, ⟨(h.cell (p := ⟨w.heap.size, 0, none⟩) (by show w.heap.size < W5.heap.size; omega)).trans p0, (h.cell (p := ⟨w.heap.size, 1, none⟩) (by show w.heap.size < W5.heap.size; omega)).trans p1⟩, (h.cell (p := ⟨w.heap.size + 1, 0, none⟩) (by show w.heap.size + 1 < W5.heap.size; omega)).trans q0, (h.cell (p := ⟨w.heap.size + 1, 1, none⟩) (by show w.heap.size + 1 < W5.heap.size; omega)).trans q1⟩)
  have HW5 := Lib.hid hW5.symm
  have HB5 := Lib.hid b5
  have HZ5 := Lib.hid hz5
  obtain ⟨z1, h1⟩ : ∃ z, 2 ^ (4 * i + j) = z := ⟨_, rfl⟩
  obtain ⟨z2, h2⟩ : ∃ z, 2 ^ (4 * i + l) = z := ⟨_, rfl⟩
  obtain ⟨z3, h3⟩ : ∃ z, 2 ^ (4 * k + j) = z := ⟨_, rfl⟩
  obtain ⟨z4, h4⟩ : ∃ z, 2 ^ (4 * k + l) = z := ⟨_, rfl⟩
  have hzz := (or_rect hi hj hk hl).trans hz
  rw [h1, h2, h3, h4] at hzz
  have l1 : z1 < 65536 := by rw [← h1]; exact bit_lt (by omega)
  have l2 : z2 < 65536 := by rw [← h2]; exact bit_lt (by omega)
  have l3 : z3 < 65536 := by rw [← h3]; exact bit_lt (by omega)
  have l4 : z4 < 65536 := by rw [← h4]; exact bit_lt (by omega)
  obtain ⟨y1, hy1⟩ : ∃ y, z1 ||| z2 = y := ⟨_, rfl⟩
  obtain ⟨y2, hy2⟩ : ∃ y, y1 ||| z3 = y := ⟨_, rfl⟩
  have m1 : y1 < 65536 := by rw [← hy1]; exact or_lt l1 l2
  have m2 : y2 < 65536 := by rw [← hy2]; exact or_lt m1 l3
  rw [hy1, hy2] at hzz
  have o1 := or_int l1 l2
  have o2 := or_int m1 l3
  have o3 := or_int m2 l4
  rw [hy1] at o1
  rw [hy2] at o2
  rw [hzz] at o3
  have H1 := Lib.hid h1
  have H2 := Lib.hid h2
  have H3 := Lib.hid h3
  have H4 := Lib.hid h4
  have B1 := Lib.hid (show ∀ X, Calls Tryd.prog 76 #[.agg #[.int .i64 i, .int .i64 j]] X (fun e w' => e = .returned (patV z1) ∧ Below X.heap.size X w') from fun X => iBit_as i j hi hj z1 H1.out X)
  have B2 := Lib.hid (show ∀ X, Calls Tryd.prog 76 #[.agg #[.int .i64 i, .int .i64 l]] X (fun e w' => e = .returned (patV z2) ∧ Below X.heap.size X w') from fun X => iBit_as i l hi hl z2 H2.out X)
  have B3 := Lib.hid (show ∀ X, Calls Tryd.prog 76 #[.agg #[.int .i64 k, .int .i64 j]] X (fun e w' => e = .returned (patV z3) ∧ Below X.heap.size X w') from fun X => iBit_as k j hk hj z3 H3.out X)
  have B4 := Lib.hid (show ∀ X, Calls Tryd.prog 76 #[.agg #[.int .i64 k, .int .i64 l]] X (fun e w' => e = .returned (patV z4) ∧ Below X.heap.size X w') from fun X => iBit_as k l hk hl z4 H4.out X)
  have O1 := Lib.hid o1
  have O2 := Lib.hid o2
  have O3 := Lib.hid o3
  clear hW5 b5 k4 k5 p0 p1 q0 q1 hz h1 h2 h3 h4 hzz l1 l2 l3 l4 hy1 hy2 m1 m2 o1 o2 o3 hz5
  go_enter Tryd.func69, Tryd.ntmps69
  go_wp2_with fail
  rw [HW5.out]
  have bd : Below W5.heap.size W5 W5.drew := (Below.refl _ _).drew
  have ba : ∀ o, Below W5.heap.size W5 ((W5.alloc o).drew) := fun o => ((Below.refl _ _).alloc (Nat.le_refl _) o).drew
  have bb : ∀ o o', Below W5.heap.size W5 (((W5.alloc o).alloc o').drew) := fun o o' => (((Below.refl _ _).alloc (Nat.le_refl _) o).alloc (by simp) o').drew
  go_region_held3 (fun X : World => Below W5.heap.size W5 X ∧ (X.cell? ⟨w.heap.size, 0, none⟩ = some (.int .i64 i) ∧ X.cell? ⟨w.heap.size, 1, none⟩ = some (.int .i64 j)) ∧ X.cell? ⟨w.heap.size + 1, 0, none⟩ = some (.int .i64 k) ∧ X.cell? ⟨w.heap.size + 1, 1, none⟩ = some (.int .i64 l))
    (first | exact HCE.out _ bd | exact HCE.out _ (ba _) | exact HCE.out _ (bb _ _))
    (fail)
  · obtain ⟨W7, hW7, b7, hz7, k6, k7⟩ := two_blk W5 #[.int .i64 i, .int .i64 l] #[.int .i64 k, .int .i64 j] TPl TPl
    obtain ⟨Y, hY⟩ : ∃ Y, Y = W7.drew := ⟨_, rfl⟩
    have hbY : Below W5.heap.size W5 Y := by rw [hY]; exact b7.drew
    have k6' : Y.heap[W5.heap.size]? = W7.heap[W5.heap.size]? := by rw [hY]; rfl
    have k7' : Y.heap[W5.heap.size + 1]? = W7.heap[W5.heap.size + 1]? := by rw [hY]; rfl
    rw [k6] at k6'
    rw [k7] at k7'
    obtain ⟨r0, r1, _, _⟩ := blk2 k6'
    obtain ⟨s0, s1, _, _⟩ := blk2 k7'
    obtain ⟨_, ⟨p0, p1⟩, q0, q1⟩ := HCE.out _ hbY
    have HYE := Lib.hid (show ((W5.alloc (Obj.cells #[.int .i64 i, .int .i64 l] TPl)).alloc (Obj.cells #[.int .i64 k, .int .i64 j] TPl)).drew = Y by rw [hY, hW7])
    have L0 := Later.cell1 p0
    have L1 := Later.cell1 p1
    have L2 := Later.cell1 q0
    have L3 := Later.cell1 q1
    have L4 := Later.cell1 r0
    have L5 := Later.cell1 r1
    have L6 := Later.cell1 s0
    have L7 := Later.cell1 s1
    have HBY := Lib.hid hbY
    have o1 := O1.out
    have o2 := O2.out
    have o3 := O3.out
    clear hY hW7 b7 hz7 k6 k7 k6' k7' r0 r1 s0 s1 p0 p1 q0 q1 hbY ba bb bd
    rw [HYE.out]
    go_wp2_with fail
    refine region_quiet_later (by kernel_rfl) (by kernel_rfl) ?_
    repeat (go_big_quiet_step (first
      | (go_at_call 76
         first
         | (with_reducible exact Later.back (v := patV z1) (B1.out _) fun _ _ h => ⟨h.1, below_step (Later.h _) h.2⟩)
         | (with_reducible exact Later.back (v := patV z2) (B2.out _) fun _ _ h => ⟨h.1, below_step (Later.h _) h.2⟩)
         | (with_reducible exact Later.back (v := patV z3) (B3.out _) fun _ _ h => ⟨h.1, below_step (Later.h _) h.2⟩)
         | (with_reducible exact Later.back (v := patV z4) (B4.out _) fun _ _ h => ⟨h.1, below_step (Later.h _) h.2⟩))))
    refine wpQuiet_nil ?_
    rintro _ ⟨L, rfl⟩
    have HF := Lib.hid (HB5.out.trans ((HBY.out.trans (L.h.mono HBY.out.size)).mono HB5.out.size))
    clear L0 L1 L2 L3 L4 L5 L6 L7
    go_wp2
    go_ret
    exact ⟨rfl, HF.out⟩
  · obtain ⟨W7, hW7, b7, hz7, k6, k7⟩ := two_blk W5 #[.int .i64 k, .int .i64 j] #[.int .i64 i, .int .i64 l] TPl TPl
    obtain ⟨Y, hY⟩ : ∃ Y, Y = W7.drew := ⟨_, rfl⟩
    have hbY : Below W5.heap.size W5 Y := by rw [hY]; exact b7.drew
    have k6' : Y.heap[W5.heap.size]? = W7.heap[W5.heap.size]? := by rw [hY]; rfl
    have k7' : Y.heap[W5.heap.size + 1]? = W7.heap[W5.heap.size + 1]? := by rw [hY]; rfl
    rw [k6] at k6'
    rw [k7] at k7'
    obtain ⟨r0, r1, _, _⟩ := blk2 k6'
    obtain ⟨s0, s1, _, _⟩ := blk2 k7'
    obtain ⟨_, ⟨p0, p1⟩, q0, q1⟩ := HCE.out _ hbY
    have HYE := Lib.hid (show ((W5.alloc (Obj.cells #[.int .i64 k, .int .i64 j] TPl)).alloc (Obj.cells #[.int .i64 i, .int .i64 l] TPl)).drew = Y by rw [hY, hW7])
    have L0 := Later.cell1 p0
    have L1 := Later.cell1 p1
    have L2 := Later.cell1 q0
    have L3 := Later.cell1 q1
    have L4 := Later.cell1 r0
    have L5 := Later.cell1 r1
    have L6 := Later.cell1 s0
    have L7 := Later.cell1 s1
    have HBY := Lib.hid hbY
    have o1 := O1.out
    have o2 := O2.out
    have o3 := O3.out
    clear hY hW7 b7 hz7 k6 k7 k6' k7' r0 r1 s0 s1 p0 p1 q0 q1 hbY ba bb bd
    rw [HYE.out]
    go_wp2_with fail
    refine region_quiet_later (by kernel_rfl) (by kernel_rfl) ?_
    repeat (go_big_quiet_step (first
      | (go_at_call 76
         first
         | (with_reducible exact Later.back (v := patV z1) (B1.out _) fun _ _ h => ⟨h.1, below_step (Later.h _) h.2⟩)
         | (with_reducible exact Later.back (v := patV z2) (B2.out _) fun _ _ h => ⟨h.1, below_step (Later.h _) h.2⟩)
         | (with_reducible exact Later.back (v := patV z3) (B3.out _) fun _ _ h => ⟨h.1, below_step (Later.h _) h.2⟩)
         | (with_reducible exact Later.back (v := patV z4) (B4.out _) fun _ _ h => ⟨h.1, below_step (Later.h _) h.2⟩))))
    refine wpQuiet_nil ?_
    rintro _ ⟨L, rfl⟩
    have HF := Lib.hid (HB5.out.trans ((HBY.out.trans (L.h.mono HBY.out.size)).mono HB5.out.size))
    clear L0 L1 L2 L3 L4 L5 L6 L7
    go_wp2
    go_ret
    exact ⟨rfl, HF.out⟩
end Go.Proofs.YtobgceebolmfcaaDoor
