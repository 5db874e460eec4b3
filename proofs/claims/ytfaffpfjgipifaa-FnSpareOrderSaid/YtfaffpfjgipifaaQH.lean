/- Contributions: a heap in memory, and its methods. -/
import Derived.Test.YtfaffpfjgipifaaQ1
namespace Go.Proofs.Ytfaffpfjgipifaa
open Go.RowKit
abbrev TH : TypeId := 57
abbrev TPH : TypeId := 46
/-- The pointer's block p holds the slice v, which is the list a. -/
def HpV (w : World) (B T p : Nat) (v : Value) (a : List Int) : Prop := w.heap[p]? = some (.cells #[v] TH (0, 0)) ∧ B ≤ p ∧ Own1 TN w B v (icells a) ∧ v.ownBlock ≠ some p ∧ p < T ∧ (∀ k, v.ownBlock = some k → k < T) ∧ T ≤ w.heap.size
abbrev pt (p : Nat) : Value := .pointer (some ⟨p, 0, none⟩)
section
variable {w w' : World} {B T p : Nat} {v : Value} {a : List Int}
theorem HpV.cell (h : HpV w B T p v a) : w.cell? ⟨p, 0, none⟩ = some v ∧ w.frozen? ⟨p, 0, none⟩ = false := ⟨cell_of_row w p 0 _ _ _ h.1, frozen_of_row w p 0 _ _ h.1⟩
theorem HpV.lt (h : HpV w B T p v a) : p < w.heap.size := by
  rcases Nat.lt_or_ge p w.heap.size with hlt | hge
  · exact hlt
  · have := h.1; rw [Array.getElem?_eq_none hge] at this; cases this
theorem wth_set {w1 : World} (h : Within w w1 B T) {g : Nat} (h1 : B ≤ g) (h2 : g < T) (o : Nat) (x : Value) : Within w (w1.setCell ⟨g, o, none⟩ x) B T :=
  ⟨h.1, h.2.1, h.2.2.1, Nat.le_trans h.2.2.2.1 (by simp), fun k hk hd => (Below.heap_setCell w1 ⟨g, o, none⟩ x k (by show k ≠ g; omega)).trans (h.2.2.2.2 k hk hd)⟩
theorem wth_draw {w1 : World} (h : Within w w1 B T) (q : Nat) : Within w (w1.drewN q) B T := h
theorem wth_trans {w1 w2 : World} (h : Within w w1 B T) (k : Within w1 w2 B T) : Within w w2 B T :=
  ⟨k.1.trans h.1, k.2.1.trans h.2.1, k.2.2.1.trans h.2.2.1, Nat.le_trans h.2.2.2.1 k.2.2.2.1, fun i hi hd => (k.2.2.2.2 i (Nat.lt_of_lt_of_le hi h.2.2.2.1) hd).trans (h.2.2.2.2 i hi hd)⟩
theorem wth_below {w1 : World} (h : Within w w1 B T) (hB : B ≤ w.heap.size) : Below B w w1 := ⟨h.1, h.2.1, h.2.2.1, h.2.2.2.1, fun k hk => h.2.2.2.2 k (by omega) (.inl hk)⟩
theorem HpV.draws (h : HpV w B T p v a) (q : Nat) : HpV (w.drewN q) B T p v a := h
theorem meth_less (h : HpV w B T p v a) : Sem.run Try.prog (method (186) TPH (pt p) "Less") w = .ok (64, v) w := by
  have e : Sem.run Try.prog (method (186) TPH (pt p) "Less") w = Sem.run Try.prog (do let v ← load ⟨p, 0, none⟩; pure (64, v)) w := by kernel_rfl
  rw [e, Sem.run_bind, run_load, h.cell.1]; rfl
theorem meth_swap (h : HpV w B T p v a) : Sem.run Try.prog (method (186) TPH (pt p) "Swap") w = .ok (67, v) w := by
  have e : Sem.run Try.prog (method (186) TPH (pt p) "Swap") w = Sem.run Try.prog (do let v ← load ⟨p, 0, none⟩; pure (67, v)) w := by kernel_rfl
  rw [e, Sem.run_bind, run_load, h.cell.1]; rfl
theorem meth_len (h : HpV w B T p v a) : Sem.run Try.prog (method (186) TPH (pt p) "Len") w = .ok (39, v) w := by
  have e : Sem.run Try.prog (method (186) TPH (pt p) "Len") w = Sem.run Try.prog (do let v ← load ⟨p, 0, none⟩; pure (39, v)) w := by kernel_rfl
  rw [e, Sem.run_bind, run_load, h.cell.1]; rfl
theorem meth_push (p : Nat) (w : World) : Sem.run Try.prog (method (186) TPH (pt p) "Push") w = .ok (66, pt p) w := by kernel_rfl
theorem meth_pop (p : Nat) (w : World) : Sem.run Try.prog (method (186) TPH (pt p) "Pop") w = .ok (65, pt p) w := by kernel_rfl
theorem len_any (A : Option Addr) (n c : Nat) (w : World) : Calls Try.prog 39 #[.slice A n c] w fun e w' => e = .returned (.int .i64 n) ∧ w = w' := by
  go_enter Try.func39, Try.ntmps39
  go_wp2
  go_ret
  exact ⟨rfl, rfl⟩
theorem HpV.form (h : HpV w B T p v a) (h0 : 0 < a.length) : ∃ g c, v = .slice (some ⟨g, 0, none⟩) a.length c ∧ g < w.heap.size ∧ g ≠ p ∧ ∀ k, k < a.length → w.cell? ⟨g, k, none⟩ = some (.int .i64 (at0 a k)) ∧ w.frozen? ⟨g, k, none⟩ = false := by
  obtain ⟨_, _, h3, h4, _⟩ := h
  rcases h3.2 with ⟨hv, e⟩ | ⟨g, cap, cur, rfl, hg, hh, hnc, hc, hsz, ht⟩
  · rw [icells_len] at e; omega
  · refine ⟨g, cap, by rw [icells_len], (Array.getElem?_eq_some_iff.1 hh).1, fun e => h4 (by rw [e]; rfl), fun k hk => ?_⟩
    have := Own1.cellAt (g := g) (n := (icells a).length) (c := cap) h3 k (by rw [icells_len]; exact hk)
    rw [icells_get hk] at this; exact this
theorem less_any (h : HpV w B T p v a) (i j : Nat) (hi : i < a.length) (hj : j < a.length) (hl : a.length ≤ 1000) (g : Bool) (hg : decide (at0 a j < at0 a i) = g) :
    Calls Try.prog 64 #[v, .int .i64 i, .int .i64 j] w (QR (.bool g) w) := by
  subst hg
  obtain ⟨gb, c, hv, _, _, hc⟩ := h.form (by omega)
  have c1 := (hc i hi).1
  have c2 := (hc j hj).1
  obtain ⟨n, hn⟩ : ∃ n, n = a.length := ⟨_, rfl⟩
  rw [← hn] at hv hi hj hl
  subst hv
  clear hc h hn
  generalize at0 a i = x at *
  generalize at0 a j = y at *
  go_enter Try.func64, Try.ntmps64
  go_wp2
  go_quiet (fail)
  go_wp2
  go_ret
  exact ⟨rfl, nq, rfl⟩
theorem HpV.swapped (h : HpV w B T p v a) (i j : Nat) {g c : Nat} (hv : v = .slice (some ⟨g, 0, none⟩) a.length c) (hgp : g ≠ p) (q : Nat) :
    HpV (((w.setCell ⟨g, i, none⟩ (.int .i64 (at0 a j))).setCell ⟨g, j, none⟩ (.int .i64 (at0 a i))).drewN q) B T p v (swp a i j) := by
  obtain ⟨h1, h2, h3, h4, h6, h7, h8⟩ := h
  subst hv
  refine ⟨?_, h2, ?_, h4, h6, h7, by show T ≤ ((w.setCell ⟨g, i, none⟩ (.int .i64 (at0 a j))).setCell ⟨g, j, none⟩ (.int .i64 (at0 a i))).heap.size; simpa using h8⟩
  · have k1 := Below.heap_setCell w ⟨g, i, none⟩ (.int .i64 (at0 a j)) p (by show p ≠ g; omega)
    have k2 := Below.heap_setCell (w.setCell ⟨g, i, none⟩ (.int .i64 (at0 a j))) ⟨g, j, none⟩ (.int .i64 (at0 a i)) p (by show p ≠ g; omega)
    exact k2.trans (k1.trans h1)
  · have h5 := (Own1.setAt h3 i (.int .i64 (at0 a j))).setAt j (.int .i64 (at0 a i))
    have e : ((icells a).set i (.int .i64 (at0 a j))).set j (.int .i64 (at0 a i)) = icells (swp a i j) := by simp [icells, swp, List.map_set]
    rw [e] at h5; exact h5
/-- What a swap leaves. -/
def Swapped (B T p : Nat) (v : Value) (b : List Int) (w : World) (e : Ending) (w' : World) : Prop := e = .returned (.tuple #[]) ∧ HpV w' B T p v b ∧ Within w w' B T
theorem HpV.block (h : HpV w B T p v a) {g c : Nat} (hv : v = .slice (some ⟨g, 0, none⟩) a.length c) : B ≤ g ∧ g < T := by subst hv; exact ⟨(h.2.2.1.ob g rfl).1, h.2.2.2.2.2.1 g rfl⟩
theorem swap_any (h : HpV w B T p v a) (i j : Nat) (hi : i < a.length) (hj : j < a.length) (hl : a.length ≤ 1000) :
    Calls Try.prog 67 #[v, .int .i64 i, .int .i64 j] w (Swapped B T p v (swp a i j) w) := by
  obtain ⟨gb, c, hv, _, hgp, hc⟩ := h.form (by omega)
  have hB := h.block hv
  have HS := fun q => Lib.hid (h.swapped i j hv hgp q)
  obtain ⟨ci, fi⟩ := hc i hi
  obtain ⟨cj, fj⟩ := hc j hj
  have HB : ∀ x y q, Hid (Within w (((w.setCell ⟨gb, i, none⟩ x).setCell ⟨gb, j, none⟩ y).drewN q) B T) := fun x y q => Lib.hid (wth_draw (wth_set (wth_set (Within.refl _ _ _) hB.1 hB.2 i x) hB.1 hB.2 j y) q)
  obtain ⟨n, hn⟩ : ∃ n, n = a.length := ⟨_, rfl⟩
  rw [← hn] at hv hi hj hl
  obtain ⟨v', hy'⟩ := cell?_setCell_some (w := w) (p := ⟨gb, i, none⟩) (x := .int .i64 (at0 a j)) (q := ⟨gb, j, none⟩) cj
  clear hc h hn
  generalize swp a i j = b at *
  generalize at0 a i = x at *
  generalize at0 a j = y at *
  have HV := Lib.hid hv
  rw [hv]
  clear hv
  go_enter Try.func67, Try.ntmps67
  go_wp2
  go_region
  all_goals (try go_wp2)
  all_goals go_end0
  all_goals exact ⟨rfl, by rw [← HV.out]; exact (HS 1).out, (HB _ _ 1).out⟩
theorem HpV.len_ (h : HpV w B T p v a) : ∃ A c, v = .slice A a.length c ∧ a.length ≤ c ∧ c ≤ maxLen := by
  obtain ⟨A, c, hv, h1, h2, _⟩ := h.2.2.1.form
  rw [icells_len] at hv h1
  exact ⟨A, c, hv, h1, h2⟩
/-- A heap that has been put in order again. -/
def Upd (B T p : Nat) (v : Value) (a : List Int) (P : List Int → Prop) (w : World) (w' : World) : Prop :=
  Within w w' B T ∧ ∃ b, HpV w' B T p v b ∧ b.Perm a ∧ P b
set_option maxHeartbeats 1000000 in
theorem up_any (h : HpV w B T p v a) (j : Nat) (hj : j < a.length) (hl : a.length ≤ 1000) (hu : heapU a j) :
    Calls Try.prog 43 #[.iface TPH (pt p), .int .i64 j] w fun e w' => e = .returned (.tuple #[]) ∧ Upd B T p v a (fun b => heapN b b.length) w w' := by
  obtain ⟨n, hn⟩ : ∃ n, n = a.length := ⟨_, rfl⟩
  have HN := Lib.hid hn
  have HH := Lib.hid h
  have HU := Lib.hid hu
  rw [← hn] at hj hl
  clear hn h hu
  go_enter Try.func43, Try.ntmps43
  go_wp2
  go_loopw [1] (fun vj wr => ∃ (j : Nat) (b : List Int), vj = .int .i64 j ∧ j < n ∧ HpV wr B T p v b ∧ heapU b j ∧ b.Perm a ∧ Within w wr B T) (fun vj _ => (intOf vj).toNat)
  case atStart => exact ⟨j, a, rfl, hj, HH.out, HU.out, List.Perm.refl _, Within.refl _ _ _⟩
  case round =>
    obtain ⟨j2, b, rfl, hj2, hb1, hb2, hb3, hb4⟩ := hrel
    have hbl := hb3.length_eq
    have H1 := Lib.hid hb1
    have H2 := Lib.hid hb2
    have H3 := Lib.hid hb3
    have H4 := Lib.hid hb4
    have HL := Lib.hid hbl
    have mL := meth_less hb1
    have mS : ∀ q, Sem.run Try.prog (method (186) TPH (pt p) "Swap") (wr.drewN q) = .ok (67, v) (wr.drewN q) := fun q => meth_swap (hb1.draws q)
    clear hb1 hb2 hb3 hb4 hbl
    by_cases h0 : j2 = 0
    · subst h0
      go_wp2
      go_end0
      exact ⟨rfl, H4.out, b, H1.out, H3.out, heapU_zero H2.out⟩
    · obtain ⟨i, hi⟩ : ∃ i, i = (j2 - 1) / 2 := ⟨_, rfl⟩
      have hij : i < j2 := by omega
      have hii : ((j2 : Int) - 1) / 2 = (i : Int) := by omega
      have hne : ((i : Int) == (j2 : Int)) = false := by simp; omega
      have h1 : 1 ≤ (j2 : Int) := by omega
      have HI := Lib.hid hi
      have hLess := fun g hg => less_any H1.out j2 i (by rw [HL.out, ← HN.out]; exact hj2) (by rw [HL.out, ← HN.out]; omega) (by rw [HL.out, ← HN.out]; exact hl) g hg
      clear hi
      by_cases hlt : at0 b i < at0 b j2
      · have L := Lib.hid (hLess true (by simpa using hlt))
        clear hLess
        go_wp2_with (first
          | (go_at_call 64; (with_reducible refine L.out.mono ?_); rintro e w' ⟨rfl, q, rfl⟩)
          | (go_at_call 67; (with_reducible refine (swap_any (H1.out.draws q) i j2 (by rw [HL.out, ← HN.out]; omega) (by rw [HL.out, ← HN.out]; exact hj2) (by rw [HL.out, ← HN.out]; exact hl)).mono ?_); rintro e w' ⟨rfl, hs, hbw⟩))
        have HS := Lib.hid hs
        have HB := Lib.hid hbw
        clear hs hbw L mL mS
        go_roundw
        case rel => exact ⟨i, swp b i j2, rfl, by omega, HS.out, by rw [HI.out]; exact heapU_step H2.out (by omega) (by rw [HL.out, ← HN.out]; exact hj2) (by rw [← HI.out]; exact hlt), (swp_perm (by rw [HL.out, ← HN.out]; omega) (by rw [HL.out, ← HN.out]; exact hj2)).trans H3.out, wth_trans H4.out (wth_trans (wth_draw (Within.refl _ _ _) q) HB.out)⟩
        case measure => simp [intOf]; omega
      · have L := Lib.hid (hLess false (by simpa using hlt))
        clear hLess
        go_wp2_with (first
          | (go_at_call 64; (with_reducible refine L.out.mono ?_); rintro e w' ⟨rfl, q, rfl⟩))
        go_end0
        exact ⟨rfl, wth_draw H4.out q, b, H1.out.draws q, H3.out, heapU_stop H2.out (by rw [← HI.out]; omega)⟩
end
end Go.Proofs.Ytfaffpfjgipifaa
