/- Contributions: the draws of the laws. -/
import Derived.Test.YtfaffpfjgipifaaRD1
namespace Go.Proofs.Ytfaffpfjgipifaa
open Go.RowKit
def DrawP (w : World) (e : Ending) (w' : World) : Prop := ∃ v l, e = .returned v ∧ IsI w' v l ∧ PB l ∧ Below w.heap.size w w'
def DrawPN (w : World) (e : Ending) (w' : World) : Prop := ∃ v l, ∃ n : Int, e = .returned (.tuple #[v, .int .i64 n]) ∧ IsI w' v l ∧ PB l ∧ (-1 ≤ n ∧ n ≤ 101) ∧ Below w.heap.size w w'
def DrawPNP (w : World) (e : Ending) (w' : World) : Prop := ∃ v l, ∃ n pc : Int, e = .returned (.tuple #[v, .int .i64 n, .int .i64 pc]) ∧ IsI w' v l ∧ PB l ∧ (0 ≤ n ∧ n ≤ 21) ∧ (-1 ≤ pc ∧ pc ≤ 101) ∧ Below w.heap.size w w'
theorem Own1.isI {w : World} {B : Nat} {v : Value} {l : List Int} (h : Own1 TN w B v (icells l)) : IsI w v l := h.inI.is
theorem own_pick {w w' : World} {R B : Nat} {v : Value} {l : List Int} (hR : R < B) (h : Own1 TN w B v (icells l)) (hg : w.grownBy w' (some R)) : Own1 TN w' B v (icells l) :=
  h.kept hg fun k e => by have := (h.ob k e).1; intro e2; injection e2 with e2; omega
def PcDrawn (R q : Nat) (w : World) (e : Ending) (w' : World) : Prop := ∃ n : Int, e = .returned (.int .i64 n) ∧ (-1 ≤ n ∧ n ≤ 101) ∧ RdN w' R q ∧ w.grownBy w' (some R)
set_option maxHeartbeats 1000000 in
theorem pc_any (R q : Nat) (hq : q + 100 < 1000000) (w : World) (hr : RdN w R q) :
    Calls Try.prog 27 #[.pointer (some ⟨R, 0, none⟩)] w (PcDrawn R (q + 2) w) := by
  have hR := hr.lt
  go_enter Try.func27, Try.ntmps27
  go_wp2_with fail
  refine (pick_any 20 (by omega) (by omega) R q (by omega) _ hr).mono ?_
  rintro e w1 ⟨a, rfl, a0, a1, hr1, hg1⟩
  have HR1 := Lib.hid hr1
  have HG1 := Lib.hid hg1
  have hz1 : R < w1.heap.size := hr1.lt
  clear hr hr1 hg1
  by_cases ha : a = 0
  · subst ha
    clear a0 a1
    go_wp2_with fail
    refine (pick_any 4 (by omega) (by omega) R (q + 1) (by omega) _ (HR1.out.alloc _)).mono ?_
    rintro e w2 ⟨b, rfl, b0, b1, hr2, hg2⟩
    obtain ⟨y, rfl⟩ : ∃ y : Nat, b = y := ⟨b.toNat, by omega⟩
    obtain ⟨z, cz, hz⟩ := four_cell (new_block hg2 hz1) y (by omega)
    have HZ := Lib.hid (show -1 ≤ z ∧ z ≤ 101 by rcases hz with rfl | rfl | rfl | rfl <;> omega)
    have HR2 := Lib.hid hr2
    have HG2 := Lib.hid (grown_trans (grown_alloc HG1.out _) hg2)
    clear hz hr2 hg2
    go_wp2
    go_ret
    exact ⟨z, rfl, HZ.out, HR2.out, HG2.out⟩
  · have ha' : (a == 0) = false := by simpa using ha
    go_wp2_with fail
    refine (pick_any 21 (by omega) (by omega) R (q + 1) (by omega) _ HR1.out).mono ?_
    rintro e w2 ⟨b, rfl, b0, b1, hr2, hg2⟩
    have HR2 := Lib.hid hr2
    have HG2 := Lib.hid (grown_trans HG1.out hg2)
    clear hr2 hg2
    go_wp2
    go_ret
    exact ⟨5 * b, rfl, by omega, HR2.out, HG2.out⟩
set_option maxHeartbeats 1000000 in
theorem dPartsGuess_any (A : Option Addr) (n c : Nat) (hnc : n ≤ c) (hn : n ≤ maxLen) (w : World) (hb : Bytes w w.heap.size A n) :
    Calls Try.prog 16 #[.slice A n c] w (DrawPN w) := by
  go_enter Try.func16, Try.ntmps16
  go_wp2_with fail
  refine (l6Open_any A n c hnc hn _ hb).mono ?_
  rintro e w1 ⟨rfl, ⟨n', c', hr⟩, hb1⟩
  have hr1 : RdN w1 w.heap.size 0 := ⟨_, _, _, _, hr, Nat.le_refl _⟩
  clear hr hb
  have hR := hr1.lt
  have HB1 := Lib.hid hb1; clear hb1
  go_wp2_with fail
  refine (parts_any w.heap.size 0 (by omega) _ hr1).mono ?_
  rintro e w2 ⟨v, l, rfl, ho2, hl, hr2, hg2⟩
  have HO2 := Lib.hid ho2
  have HL := Lib.hid hl
  have HB2 := Lib.hid (HB1.out.trans (grown_old hg2 (Nat.le_refl _) (by omega)))
  have HR2 := Lib.hid hr2
  have hz2 : w.heap.size < w2.heap.size := hr2.lt
  have hz12 := hg2.size
  clear ho2 hg2 hl hr2 hr1
  go_wp2_with fail
  refine (pc_any w.heap.size _ (by omega) _ HR2.out).mono ?_
  rintro e w3 ⟨pc, rfl, hpc, hr3, hg3⟩
  have HO3 := Lib.hid (own_pick hR HO2.out hg3)
  have HB3 := Lib.hid (HB2.out.trans (grown_old hg3 (Nat.le_refl _) (by omega)))
  have HPC := Lib.hid hpc
  clear hg3 hr3 hpc
  go_wp2
  go_ret2
  exact ⟨v, l, _, rfl, HO3.out.isI, HL.out, HPC.out, HB3.out⟩
theorem dPartsSpare_any (A : Option Addr) (n c : Nat) (hnc : n ≤ c) (hn : n ≤ maxLen) (w : World) (hb : Bytes w w.heap.size A n) :
    Calls Try.prog 20 #[.slice A n c] w (DrawPN w) := by
  go_enter Try.func20, Try.ntmps20
  go_wp2_with fail
  refine (dPartsGuess_any A n c hnc hn _ hb).mono ?_
  rintro e w2 ⟨v, l, x, rfl, h1, h2, h3, h4⟩
  have H1 := Lib.hid h1
  have H2 := Lib.hid h2
  have H3 := Lib.hid h3
  have H4 := Lib.hid h4
  clear h1 h2 h3 h4
  go_wp2
  go_ret2
  exact ⟨v, l, _, rfl, H1.out, H2.out, H3.out, H4.out⟩
set_option maxHeartbeats 1000000 in
theorem dPartsLead_any (A : Option Addr) (n c : Nat) (hnc : n ≤ c) (hn : n ≤ maxLen) (w : World) (hb : Bytes w w.heap.size A n) :
    Calls Try.prog 13 #[.slice A n c] w (DrawPNP w) := by
  go_enter Try.func13, Try.ntmps13
  go_wp2_with fail
  refine (l6Open_any A n c hnc hn _ hb).mono ?_
  rintro e w1 ⟨rfl, ⟨n', c', hr⟩, hb1⟩
  have hr1 : RdN w1 w.heap.size 0 := ⟨_, _, _, _, hr, Nat.le_refl _⟩
  clear hr hb
  have hR := hr1.lt
  have HB1 := Lib.hid hb1; clear hb1
  go_wp2_with fail
  refine (parts_any w.heap.size 0 (by omega) _ hr1).mono ?_
  rintro e w2 ⟨v, l, rfl, ho2, hl, hr2, hg2⟩
  have HO2 := Lib.hid ho2
  have HL := Lib.hid hl
  have HB2 := Lib.hid (HB1.out.trans (grown_old hg2 (Nat.le_refl _) (by omega)))
  have HR2 := Lib.hid hr2
  have hz2 : w.heap.size < w2.heap.size := hr2.lt
  have hz12 := hg2.size
  clear ho2 hg2 hl hr2 hr1
  go_wp2_with fail
  refine (pick_any 3 (by omega) (by omega) w.heap.size _ (by omega) _ HR2.out).mono ?_
  rintro e w3 ⟨x, rfl, x0, x1, hr3, hg3⟩
  have HO3 := Lib.hid (own_pick hR HO2.out hg3)
  have HB3 := Lib.hid (HB2.out.trans (grown_old hg3 (Nat.le_refl _) (by omega)))
  have HR3 := Lib.hid hr3
  have hz3 : w.heap.size < w3.heap.size := hr3.lt
  clear hg3 hr3
  go_wp2_with fail
  refine (pick_any 20 (by omega) (by omega) w.heap.size _ (by omega) _ HR3.out).mono ?_
  rintro e w4 ⟨y, rfl, y0, y1, hr4, hg4⟩
  have HO4 := Lib.hid (own_pick hR HO3.out hg4)
  have HB4 := Lib.hid (HB3.out.trans (grown_old hg4 (Nat.le_refl _) (by omega)))
  have HR4 := Lib.hid hr4
  have hz4 : w.heap.size < w4.heap.size := hr4.lt
  clear hg4 hr4
  by_cases hy : y = 0
  · subst hy
    clear y0 y1
    go_wp2_with fail
    refine (pick_any 2 (by omega) (by omega) w.heap.size _ (by omega) _ (HR4.out.alloc _)).mono ?_
    rintro e w5 ⟨b, rfl, b0, b1, hr5, hg5⟩
    obtain ⟨z0, rfl⟩ : ∃ z0 : Nat, b = z0 := ⟨b.toNat, by omega⟩
    obtain ⟨z, cz, hz⟩ := two_cell (new_block hg5 hz4) z0 (by omega)
    have HZ := Lib.hid (show 0 ≤ z ∧ z ≤ 21 by rcases hz with rfl | rfl <;> omega)
    have HO5 := Lib.hid (own_pick hR (HO4.out.alloc _) hg5)
    have HB5 := Lib.hid ((HB4.out.alloc (by omega) _).trans (grown_old hg5 (Nat.le_refl _) (by simp; omega)))
    have HR5 := Lib.hid hr5
    clear hz hr5 hg5
    go_wp2_with fail
    refine (pc_any w.heap.size _ (by omega) _ HR5.out).mono ?_
    rintro e w6 ⟨pc, rfl, hpc, hr6, hg6⟩
    have hz5 : w.heap.size < w5.heap.size := HR5.out.lt
    have HO6 := Lib.hid (own_pick hR HO5.out hg6)
    have HB6 := Lib.hid (HB5.out.trans (grown_old hg6 (Nat.le_refl _) (by omega)))
    have HPC := Lib.hid hpc
    clear hg6 hr6 hpc
    go_wp2
    go_ret3
    exact ⟨v, l, _, _, rfl, HO6.out.isI, HL.out, HZ.out, HPC.out, HB6.out⟩
  · have hy' : (y == 0) = false := by simpa using hy
    go_wp2_with fail
    refine (pc_any w.heap.size _ (by omega) _ HR4.out).mono ?_
    rintro e w5 ⟨pc, rfl, hpc, hr5, hg5⟩
    have HO5 := Lib.hid (own_pick hR HO4.out hg5)
    have HB5 := Lib.hid (HB4.out.trans (grown_old hg5 (Nat.le_refl _) (by omega)))
    have HPC := Lib.hid hpc
    clear hg5 hr5 hpc
    go_wp2
    go_ret3
    exact ⟨v, l, _, _, rfl, HO5.out.isI, HL.out, by omega, HPC.out, HB5.out⟩
end Go.Proofs.Ytfaffpfjgipifaa
