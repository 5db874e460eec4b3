/- Contributions: the rules that tell a sensitive cell. -/
import Derived.Test.YtfaffpfjgipifaaQK
namespace Go.Proofs.Ytfaffpfjgipifaa
open Go.RowKit
section
variable {w w' : World} {B T p : Nat} {v : Value} {a D : List Int}
theorem HpV.below (h : HpV w B T p v a) (hb : Below w.heap.size w w') : HpV w' B T p v a :=
  ⟨(hb.block p h.lt).trans h.1, h.2.1, h.2.2.1.below hb, h.2.2.2.1, h.2.2.2.2.1, h.2.2.2.2.2.1, Nat.le_trans h.2.2.2.2.2.2 hb.size⟩
theorem HS.below (h : HS w B T p D) (hb : Below w.heap.size w w') : HS w' B T p D := by
  obtain ⟨v, a, h1, h2, h3⟩ := h
  exact ⟨v, a, h1.below hb, h2, h3⟩
theorem HS.top (h : HS w B T p D) : T ≤ w.heap.size ∧ B ≤ w.heap.size := by
  obtain ⟨v, a, h1, _⟩ := h
  exact ⟨h1.2.2.2.2.2.2, Nat.le_trans h1.2.1 (Nat.le_of_lt h1.lt)⟩
theorem HS.draws (h : HS w B T p D) (q : Nat) : HS (w.drewN q) B T p D := h
theorem wth_alloc {w1 : World} (h : Within w w1 B T) (o : Obj) : Within w (w1.alloc o) B T :=
  ⟨h.1, h.2.1, h.2.2.1, Nat.le_trans h.2.2.2.1 (by simp), fun k hk hd => (Below.heap_alloc w1 o k (Nat.lt_of_lt_of_le hk h.2.2.2.1)).trans (h.2.2.2.2 k hk hd)⟩
theorem wth_block {w1 : World} (h : Within w w1 B T) {k : Nat} {o : Obj} (hk : T ≤ k) (ho : w.heap[k]? = some o) : w1.heap[k]? = some o :=
  (h.2.2.2.2 k (Array.getElem?_eq_some_iff.1 ho).1 (.inr hk)).trans ho
/-- A verdict or a number, nothing written but where the heap lies. -/
def BackW (B T : Nat) (v : Value) (w : World) (e : Ending) (w' : World) : Prop := e = .returned v ∧ Within w w' B T
theorem guessV_any (n : Int) (g : Bool) (hg : in3 n 0 100 = g) (w : World) : Calls Try.prog 35 #[.agg #[.int .i64 n]] w (Back (.bool g) w) := by
  go_enter Try.func35, Try.ntmps35
  go_wp2_with (go_at_call 41; (with_reducible refine (percent_any n g hg _).mono ?_); rintro e w' ⟨rfl, rfl⟩)
  go_ret
  exact ⟨rfl, (Below.refl _ _).alloc (Nat.le_refl _) _⟩
theorem leadV_any (n pc : Int) (g : Bool) (hg : (in3 n 1 20 && in3 pc 0 100) = g) (w : World) : Calls Try.prog 62 #[.agg #[.int .i64 n, .int .i64 pc]] w (Back (.bool g) w) := by
  by_cases h1 : 1 ≤ n
  · by_cases h2 : n ≤ 20
    · have hg' : in3 pc 0 100 = g := by rw [← hg]; simp [in3, h1, h2]
      go_enter Try.func62, Try.ntmps62
      go_wp2_with (go_at_call 41; (with_reducible refine (percent_any pc g hg' _).mono ?_); rintro e w' ⟨rfl, rfl⟩)
      go_ret
      exact ⟨rfl, (Below.refl _ _).alloc (Nat.le_refl _) _⟩
    · have hg' : g = false := by rw [← hg]; simp [in3]; intro _ h; omega
      subst hg'
      clear hg
      go_enter Try.func62, Try.ntmps62
      go_wp2_with fail
      go_ret
      exact ⟨rfl, (Below.refl _ _).alloc (Nat.le_refl _) _⟩
  · have hg' : g = false := by rw [← hg]; simp [in3]; intro h; omega
    subst hg'
    clear hg
    go_enter Try.func62, Try.ntmps62
    go_wp2_with fail
    go_ret
    exact ⟨rfl, (Below.refl _ _).alloc (Nat.le_refl _) _⟩
theorem mul_bd {a c : Int} {A C : Int} (h1 : 0 ≤ a) (h2 : a ≤ A) (h3 : 0 ≤ c) (h4 : c ≤ C) : 0 ≤ a * c ∧ a * c ≤ A * C :=
  ⟨Int.mul_nonneg h1 h3, Int.mul_le_mul h2 h4 h3 (by omega)⟩
abbrev lackI (D : List Int) (pc : Int) : Int := (D.take 1).sum * pc - 100 * (D.drop 2).sum
set_option maxHeartbeats 2000000 in
theorem lack_any (h : HS w B T p D) (hbd : Bd D) (pc : Int) (hpc : in3 pc 0 100 = true) (z : Int) (hz : lackI D pc = z) :
    Calls Try.prog 36 #[.agg #[.int .i64 pc], pt p] w (BackW B T (.int .i64 z) w) := by
  obtain ⟨p0, p1⟩ := in3_parts.1 hpc
  have hs1 := (hbd.take 1).sum
  have hs3 := (hbd.drop 2).sum
  have HD := Lib.hid hbd
  have HD1 := Lib.hid (hbd.drop 1)
  have HD2 := Lib.hid (show Bd ((D.drop 1).drop 1) by rw [List.drop_drop]; exact hbd.drop 2)
  have HE := Lib.hid (show (D.drop 1).drop 1 = D.drop 2 by rw [List.drop_drop])
  have hT := h.top
  have HH := Lib.hid (h.below ((Below.refl w.heap.size w).alloc (Nat.le_refl _) (.cells #[.int .i64 pc] 44)))
  have HW := Lib.hid (wth_alloc (Within.refl w B T) (.cells #[.int .i64 pc] 44))
  have HBX := Lib.hid (heap_alloc_new w (.cells #[.int .i64 pc] 44))
  have HT := Lib.hid hT.1
  have HZ := Lib.hid hz
  clear h hbd hT hz hpc
  go_enter Try.func36, Try.ntmps36
  go_wp2_with (first
    | (go_at_call 34; (with_reducible refine (take_nat HH.out HD.out 1 1 (by simp)).mono ?_); rintro e w1 ⟨rfl, hw1, hh1⟩
       have HW1 := Lib.hid hw1
       have HH1 := Lib.hid hh1
       clear hw1 hh1)
    | (go_at_call 34; (with_reducible refine (take_nat HH1.out HD1.out 1 1 (by simp)).mono ?_); rintro e w2 ⟨rfl, hw2, hh2⟩
       have HW2 := Lib.hid hw2
       have HH2 := Lib.hid hh2
       clear hw2 hh2))
  obtain ⟨t, ht⟩ : ∃ t, (D.take 1).sum = t := ⟨_, rfl⟩
  obtain ⟨r, hr⟩ : ∃ r, (D.drop 2).sum = r := ⟨_, rfl⟩
  rw [ht] at hs1 ⊢
  rw [hr] at hs3
  have HT1 := Lib.hid ht
  have HR1 := Lib.hid hr
  clear ht hr
  have hm := mul_bd hs1.1 hs1.2 p0 p1
  have hw1' : IntKind.i64.wrap (t * pc) = t * pc := IntWalk.i64_in _ (by omega)
  have hw2' : IntKind.i64.wrap (100 * r) = 100 * r := IntWalk.i64_in _ (by omega)
  have hw3' : IntKind.i64.wrap (t * pc - 100 * r) = t * pc - 100 * r := IntWalk.i64_in _ (by omega)
  have HWW := Lib.hid (wth_trans HW.out (wth_trans HW1.out HW2.out))
  have HF := Lib.hid (fun w' (h : Within w2 w' B T) => (⟨h, cell_of_row w' w.heap.size 0 _ _ _ (wth_block (wth_trans (wth_trans HW1.out HW2.out) h) HT.out HBX.out)⟩ : Within w2 w' B T ∧ w'.cell? ⟨w.heap.size, 0, none⟩ = some (.int .i64 pc)))
  have HW0 := Lib.hid (show Within w2 w2.drew B T from wth_draw (Within.refl _ _ _) 1)
  have HHD := Lib.hid (show HS w2.drew B T p _ from HH2.out)
  have HRW := Lib.hid (show ((D.drop 1).drop 1).sum = r by rw [HE.out]; exact HR1.out)
  have HZZ := Lib.hid (show t * pc - 100 * r = z by rw [← HZ.out, ← HT1.out, ← HR1.out])
  clear hs1 hs3 hm p0 p1
  go_region_held3 (fun w' => Within w2 w' B T ∧ w'.cell? ⟨w.heap.size, 0, none⟩ = some (.int .i64 pc))
    (first | exact HF.out _ (by assumption) | exact HF.out _ HW0.out)
    (first
      | (go_at_call 42; (with_reducible refine (rest_any HHD.out HD2.out).mono ?_); rintro e w3 ⟨rfl, hw3, _⟩; rw [HRW.out]; have hw4 : Within w2 w3 B T := hw3))
  all_goals
    go_wp2
    go_ret
    exact ⟨reti HZZ.out, wth_trans HWW.out (by assumption)⟩
set_option maxHeartbeats 1000000 in
theorem guessH_any (h : HS w B T p D) (hbd : Bd D) (pc : Int) (hpc : in3 pc 0 100 = true) (g : Bool) (hg : decide (0 < lackI D pc) = g) :
    Calls Try.prog 63 #[.agg #[.int .i64 pc], pt p] w (BackW B T (.bool g) w) := by
  obtain ⟨z, hz⟩ : ∃ z, lackI D pc = z := ⟨_, rfl⟩
  rw [hz] at hg
  have HH := Lib.hid (h.below ((Below.refl w.heap.size w).alloc (Nat.le_refl _) (.cells #[.int .i64 pc] 44)))
  have HW := Lib.hid (wth_alloc (Within.refl w B T) (.cells #[.int .i64 pc] 44))
  have HD := Lib.hid hbd
  have HZ := Lib.hid hz
  have HP := Lib.hid hpc
  have HG := Lib.hid hg
  clear h hbd hpc hz hg
  go_enter Try.func63, Try.ntmps63
  go_wp2_with (go_at_call 36; (with_reducible refine (lack_any HH.out HD.out pc HP.out z HZ.out).mono ?_); rintro e w1 ⟨rfl, hw1⟩; have HW1 := Lib.hid hw1; clear hw1)
  go_ret
  exact ⟨retb HG.out, wth_trans HW.out HW1.out⟩
abbrev leadP (D : List Int) (n pc : Int) : Prop := pc * D.sum < (D.take n.toNat).sum * 100
set_option maxHeartbeats 1000000 in
theorem leadH_any (h : HS w B T p D) (hbd : Bd D) (n pc : Int) (hpc : in3 pc 0 100 = true) (g : Bool) (hg : decide (leadP D n pc) = g) :
    Calls Try.prog 61 #[.agg #[.int .i64 n, .int .i64 pc], pt p] w (BackW B T (.bool g) w) := by
  obtain ⟨p0, p1⟩ := in3_parts.1 hpc
  have hs1 := (hbd.take n.toNat).sum
  have hs3 := (hbd.drop n.toNat).sum
  have hs2 := hbd.sum
  have hsum : (D.take n.toNat).sum + (D.drop n.toNat).sum = D.sum := by rw [← List.sum_append, List.take_append_drop]
  have hT := h.top
  have HH := Lib.hid (h.below ((Below.refl w.heap.size w).alloc (Nat.le_refl _) (.cells #[.int .i64 n, .int .i64 pc] 41)))
  have HW := Lib.hid (wth_alloc (Within.refl w B T) (.cells #[.int .i64 n, .int .i64 pc] 41))
  have HBX := Lib.hid (heap_alloc_new w (.cells #[.int .i64 n, .int .i64 pc] 41))
  have HT := Lib.hid hT.1
  have HG := Lib.hid hg
  have HD := Lib.hid hbd
  have HD1 := Lib.hid (hbd.drop n.toNat)
  obtain ⟨t, ht⟩ : ∃ t, (D.take n.toNat).sum = t := ⟨_, rfl⟩
  obtain ⟨r, hr⟩ : ∃ r, (D.drop n.toNat).sum = r := ⟨_, rfl⟩
  obtain ⟨u, hu⟩ : ∃ u, D.sum = u := ⟨_, rfl⟩
  have HGG := Lib.hid (show decide (pc * u < t * 100) = g by rw [← hu, ← ht]; exact hg)
  rw [ht] at hs1 hsum
  rw [hr] at hs3 hsum
  rw [hu] at hs2 hsum
  have HT1 := Lib.hid ht
  have HR1 := Lib.hid hr
  have hm := mul_bd p0 p1 hs2.1 hs2.2
  have hwm2 : IntKind.i64.wrap (pc * u) = pc * u := IntWalk.i64_in _ (by omega)
  have hwm : wrap64 (pc * u) = pc * u := IntWalk.wrap64_in _ (by omega)
  have HSU := Lib.hid hsum
  clear h hbd hT hpc hg ht hr hu hsum hm p0 p1
  go_enter Try.func61, Try.ntmps61
  go_wp2_with (first
    | (go_at_call 34; (with_reducible refine (take_any HH.out HD.out n n.toNat rfl).mono ?_); rintro e w1 ⟨rfl, hw1, hh1⟩
       rw [HT1.out]
       have HW1 := Lib.hid hw1
       have HH1 := Lib.hid hh1
       clear hw1 hh1)
    | (go_at_call 42; (with_reducible refine (rest_any HH1.out HD1.out).mono ?_); rintro e w2 ⟨rfl, hw2, _⟩
       rw [HR1.out]
       have HW2 := Lib.hid hw2
       have c1 : w2.cell? ⟨w.heap.size, 1, none⟩ = some (.int .i64 pc) := cell_of_row w2 w.heap.size 1 _ _ _ (wth_block (wth_trans HW1.out hw2) HT.out HBX.out)
       have hsu := HSU.out
       clear hw2))
  go_ret
  exact ⟨retb HGG.out, wth_trans HW.out (wth_trans HW1.out HW2.out)⟩
def posN (D : List Int) : Nat := (D.filter fun x => decide (0 < x)).length
theorem pos_end {D : List Int} {j : Nat} (hj : j ≤ D.length) (h1 : ∀ x ∈ D.take j, 0 < x) (h2 : ∀ x ∈ D.drop j, x ≤ 0) : posN D = j := by
  unfold posN
  conv => lhs; rw [← List.take_append_drop j D]
  rw [List.filter_append, List.filter_eq_self.2 (fun x hx => by simpa using h1 x hx), List.filter_eq_nil_iff.2 (fun x hx => by have := h2 x hx; simp; omega), List.append_nil, List.length_take]
  omega
def fewB (D : List Int) (n : Int) : Bool := decide (1 ≤ posN D) && decide ((posN D : Int) < n)
theorem take1_at {D : List Int} {j : Nat} (hj : j < D.length) : ((D.drop j).take 1).sum = D.getD j 0 := by
  rw [drop_at hj]; simp
theorem take1_end {D : List Int} {j : Nat} (hj : D.length ≤ j) : ((D.drop j).take 1).sum = 0 := by
  rw [List.drop_eq_nil_of_le hj]; rfl
theorem dn_rest {D : List Int} {j : Nat} (hd : Dn D) (hj : j < D.length) (h : D.getD j 0 ≤ 0) : ∀ x ∈ D.drop j, x ≤ 0 := by
  rw [drop_at hj]
  intro x hx
  rcases List.mem_cons.1 hx with rfl | hx
  · exact h
  · have hd2 : Dn (D.drop j) := hd.sublist (List.drop_sublist _ _)
    rw [drop_at hj] at hd2
    have := (List.pairwise_cons.1 hd2).1 x hx
    omega
end
end Go.Proofs.Ytfaffpfjgipifaa
