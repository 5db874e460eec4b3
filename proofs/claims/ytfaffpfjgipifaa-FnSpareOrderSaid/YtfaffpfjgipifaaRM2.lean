/- Contributions: the model's sorting. -/
import Derived.Test.YtfaffpfjgipifaaRM1
namespace Go.Proofs.Ytfaffpfjgipifaa
open Go.RowKit
def OutI (x : List Int) (w : World) (e : Ending) (w' : World) : Prop := ∃ v, e = .returned v ∧ InI w' w.heap.size w'.heap.size v x ∧ Below w.heap.size w w'
theorem dn_ge {s : List Int} (hd : Dn s) {i : Nat} (hi : i < s.length) {x : Int} (h : x ≤ s.getD i 0) : ∀ y ∈ s.take (i + 1), x ≤ y := by
  intro y hy
  obtain ⟨k, hk, rfl⟩ := List.getElem_of_mem hy
  rw [List.length_take] at hk
  rw [List.getElem_take]
  rw [List.getD_eq_getElem?_getD, List.getElem?_eq_getElem hi] at h
  by_cases e : k = i
  · subst e; exact h
  · have h2 : s[i] ≤ s[k] := List.pairwise_iff_getElem.1 hd k i (by omega) hi (by omega)
    exact Int.le_trans h h2
theorem drop_le {s : List Int} {i : Nat} (hi : i < s.length) {x : Int} (h : ∀ y ∈ s.drop (i + 1), y ≤ x) (h2 : s.getD i 0 ≤ x) : ∀ y ∈ s.drop i, y ≤ x := by
  rw [drop_at hi]; exact List.forall_mem_cons.2 ⟨h2, h⟩
theorem sort_step {l : List Int} {k j : Nat} (hk : k < l.length) {x : Int} (hx : l.getD k 0 = x) (h1 : ∀ y ∈ (ds (l.take k)).take j, x ≤ y) (h2 : ∀ y ∈ (ds (l.take k)).drop j, y ≤ x) :
    (ds (l.take k)).take j ++ x :: (ds (l.take k)).drop j = ds (l.take (k + 1)) := by
  rw [← ds_snoc l k hk x hx]; symm
  rw [show ds (x :: ds (l.take k)) = ds (x :: l.take k) from ds_congr (List.Perm.cons x (ds_perm _))]
  exact ds_ins (List.take_append_drop j _).symm h1 h2
set_option maxRecDepth 100000 in
set_option maxHeartbeats 2000000 in
theorem sSort_any (l : List Int) (v : Value) (w : World) (hv : IsI w v l) (hl : l.length ≤ 100) : Calls Try.prog 37 #[v] w (OutI (ds l) w) := by
  obtain ⟨A, c, rfl, a1, a2, a3⟩ := hv
  have HR := Lib.hid a3
  obtain ⟨q, hq⟩ : ∃ q, q = l.length := ⟨_, rfl⟩
  have HQ := Lib.hid hq
  have hq9 : q ≤ 100 := by omega
  rw [← hq]
  clear a1 a2 a3 hq hl
  go_enter Try.func37, Try.ntmps37
  go_wp2
  go_loopw [3, 4] (fun s i wr => ∃ k : Nat, k ≤ q ∧ i = .int .i64 k ∧ Own1 TN wr w.heap.size s (icells (ds (l.take k))) ∧ Below w.heap.size w wr) (fun _ i _ => q - (intOf i).toNat)
  case atStart => exact ⟨0, Nat.zero_le _, rfl, by rw [List.take_zero, ds_nil]; exact own1_new (Nat.le_refl _), (Below.refl _ _).alloc (Nat.le_refl _) _⟩
  case round =>
    obtain ⟨k, hk, rfl, ho, hb⟩ := hrel
    obtain ⟨w1, rfl⟩ : ∃ w1, w1 = wr := ⟨_, rfl⟩
    have HB := Lib.hid hb
    have hz := hb.size
    by_cases hlt : k < q
    · have hki : (k : Int) < (q : Int) := by omega
      have hkl : k < l.length := by rw [← HQ.out]; exact hlt
      obtain ⟨b, o, hA, hbw, c0⟩ := HR.out.int_ k hkl
      subst hA
      obtain ⟨x, hx⟩ : ∃ x, l.getD k 0 = x := ⟨_, rfl⟩
      rw [hx] at c0
      have c1 : w1.cell? ⟨b, o + k, none⟩ = some (.int .i64 x) := (HB.out.cell (p := ⟨b, o + k, none⟩) hbw).trans c0
      have HSTEP := Lib.hid (fun j => sort_step (j := j) hkl hx)
      obtain ⟨s, hs⟩ : ∃ s, s = ds (l.take k) := ⟨_, rfl⟩
      rw [← hs] at ho HSTEP
      have HDN := Lib.hid (show Dn s by rw [hs]; exact ds_dn _)
      obtain ⟨m, hm⟩ : ∃ m, m = s.length := ⟨_, rfl⟩
      have hm9 : m ≤ 100 := by rw [hm, hs, ds_len, List.length_take]; omega
      have HM := Lib.hid hm
      obtain ⟨A2, c2, hv2, hlc, hcm, hrow, _⟩ := ho.form
      rw [icells_len, ← hm] at hv2 hlc
      subst hv2
      have HO := Lib.hid ho
      have HRW := Lib.hid hrow
      unfold maxLen at hcm
      clear hkl hx c0 hs hm ho hb hrow
      go_wp2
      go_loopw [5] (fun i wr2 => ∃ j n : Nat, j ≤ m ∧ i = .int .i64 j ∧ wr2 = w1.drewN n ∧ ∀ y ∈ s.drop j, y ≤ x) (fun i _ => (intOf i).toNat)
      case atStart => exact ⟨m, 0, Nat.le_refl _, rfl, rfl, by rw [List.drop_eq_nil_of_le (by rw [← HM.out]; omega)]; simp⟩
      case round =>
        obtain ⟨j, n, hj, rfl, hw2, hdr⟩ := hrel
        have HW2 := Lib.hid hw2
        have HDR := Lib.hid hdr
        clear hw2 hdr
        have cx : wr.cell? ⟨b, o + k, none⟩ = some (.int .i64 x) := by rw [HW2.out]; exact c1
        by_cases hmore : ∃ i, j = i + 1 ∧ s.getD i 0 < x
        · obtain ⟨i, rfl, hlx⟩ := hmore
          have him : i < s.length := by rw [← HM.out]; omega
          obtain ⟨b2, o2, hA2, hb2, c3⟩ := HRW.out.int_ i him
          subst hA2
          obtain ⟨y, hy⟩ : ∃ y, s.getD i 0 = y := ⟨_, rfl⟩
          rw [hy] at c3 hlx
          have HY := Lib.hid hy
          have cy : wr.cell? ⟨b2, o2 + i, none⟩ = some (.int .i64 y) := by rw [HW2.out]; exact c3
          have hyx : decide (y < x) = true := by simpa using hlx
          have HLX := Lib.hid hlx
          have h0 : (0 : Int) < (i : Int) + 1 := by omega
          have hd0 : decide ((0 : Int) < (i : Int) + 1) = true := decide_eq_true h0
          have hw5 : IntKind.i64.wrap ((i : Int) + 1 - 1) = (i : Int) := by rw [IntWalk.i64_in _ (by omega)]; simp
          have hw6 : IntKind.i64.wrap (i : Int) = (i : Int) := IntWalk.i64_in _ (by omega)
          have HIM := Lib.hid him
          clear hy c3 hlx c1 him
          go_wp2
          go_quiet (fail)
          go_wp2
          go_roundw
          case rel => exact ⟨i, n + nq, by omega, by go_num, by rw [HW2.out, World.drewN_drewN], drop_le HIM.out HDR.out (by rw [HY.out]; have := HLX.out; omega)⟩
          case measure => simp [intOf]
        · have HTK := Lib.hid (show ∀ y ∈ s.take j, x ≤ y by
            cases j with
            | zero => intro y hy; simp at hy
            | succ i =>
              refine dn_ge HDN.out (by rw [← HM.out]; omega) ?_
              rcases Int.lt_or_le (s.getD i 0) x with h | h
              · exact absurd ⟨i, rfl, h⟩ hmore
              · exact h)
          have HFIN := Lib.hid (HSTEP.out j HTK.out HDR.out)
          obtain ⟨B2, hsl2, hB2⟩ := sliceTailI A2 m c2 j hj hlc
          have r2 := fun n => hB2 (w1.drewN n) w1.heap.size (icells s) (by rw [icells_len, HM.out]) HRW.out
          have r1 := fun n => (show Row (w1.drewN n) w1.heap.size A2 (icells s) from HRW.out).front1 j
          have N1 := Lib.hid (show j = ((icells s).take j).length by rw [List.length_take, icells_len, ← HM.out]; omega)
          have N2 := Lib.hid (show m - j = ((icells s).drop j).length by rw [List.length_drop, icells_len, ← HM.out])
          have one1 := Lib.hid (show ∀ u ∈ (icells s).take j, u.oneCell' = true from fun u hu => icells_one s u (List.mem_of_mem_take hu))
          have one2 := Lib.hid (show ∀ u ∈ (icells s).drop j, u.oneCell' = true from fun u hu => icells_one s u (List.mem_of_mem_drop hu))
          have one3 := Lib.hid (show ∀ u ∈ [Value.int .i64 x], u.oneCell' = true from fun u hu => by simp at hu; subst hu; rfl)
          have R1 := Lib.hid r1
          have R2 := Lib.hid r2
          have hjc : (j : Int) ≤ (c2 : Int) := by omega
          have hjm : (j : Int) ≤ (m : Int) := by omega
          have HC1 := Lib.hid c1
          have hcase : j = 0 ∨ ∃ i, j = i + 1 ∧ x ≤ s.getD i 0 := by
            cases j with
            | zero => exact .inl rfl
            | succ i =>
              refine .inr ⟨i, rfl, ?_⟩
              rcases Int.lt_or_le (s.getD i 0) x with h | h
              · exact absurd ⟨i, rfl, h⟩ hmore
              · exact h
          clear hmore hB2 r1 r2 c1 cx
          have HW9 := Lib.hid (fun a => (show wr.drewN a = w1.drewN (n + a) by rw [HW2.out, World.drewN_drewN]))
          rcases hcase with hj0 | ⟨i, hji, hlx⟩
          · have hd0 : decide (0 < j) = false := by simp; omega
            clear hj0
            go_wp2
            go_quiet (fail)
            have HWW := Lib.hid (show ∃ a, wr = w1.drewN a from ⟨n, HW2.out⟩)
            obtain ⟨w5, hw5⟩ : ∃ w5, w5 = wr.drewN nq := ⟨_, rfl⟩
            rw [← hw5]
            have HW5 := Lib.hid (hw5.trans (HW9.out nq))
            clear hw5
            have HZ5 := Lib.hid (show w5.heap.size = w1.heap.size by rw [HW5.out]; rfl)
            have c5 : w5.cell? ⟨b, o + k, none⟩ = some (.int .i64 x) := by rw [HW5.out]; exact HC1.out
            have HR1 := Lib.hid (show Row w5 w5.heap.size A2 ((icells s).take j) by rw [HZ5.out, HW5.out]; exact R1.out _)
            have HR2 := Lib.hid (show Row w5 w5.heap.size B2 ((icells s).drop j) by rw [HZ5.out, HW5.out]; exact R2.out _)
            have HB5 := Lib.hid (show Below w.heap.size w w5 by rw [HW5.out]; exact below_draws HB.out _)
            have HJC := Lib.hid (show j = (icells (s.take j)).length by rw [icells_len, List.length_take, ← HM.out]; omega)
            have HF8 := Lib.hid (show [] ++ (icells s).take j ++ [Value.int .i64 x] ++ (icells s).drop j = icells (ds (l.take (k + 1))) by rw [← HFIN.out]; simp [icells])
            have HL1 := Lib.hid (show ([] : List Value).length + ((icells s).take j).length ≤ 1000000 by rw [← N1.out]; simp; omega)
            have HL2 := Lib.hid (show ([] ++ (icells s).take j).length + [Value.int .i64 x].length ≤ 1000000 by rw [List.nil_append, ← N1.out]; simp; omega)
            have HL3 := Lib.hid (show ([] ++ (icells s).take j ++ [Value.int .i64 x]).length + ((icells s).drop j).length ≤ 1000000 by rw [List.nil_append, List.length_append, ← N1.out, ← N2.out]; simp; omega)
            clear HW2 HWW HC1 HTK HDR HFIN HSTEP HDN R1 R2
            go_wp2_with (first
              | (at_builtin
                 refine app1 one_I rfl (.tmp 32) (.tmp 35) rfl w5.heap.size (.slice (some ⟨w5.heap.size, 0, none⟩) 0 0) [] rfl (own1_new (Nat.le_refl _)) w5.heap.size _ j c2 ((icells s).take j) N1.out rfl (HR1.out.below ((Below.refl _ _).alloc (Nat.le_refl _) _) (Nat.le_refl _)) one1.out HL1.out (by simp) ?_
                 intro v6 w6 ho6 hg6 _
                 have HB6 := Lib.hid (below_own1 (W := w5) ((Below.refl _ _).alloc (Nat.le_refl _) _) (own1_new (Nat.le_refl _)) hg6)
                 have HO6 := Lib.hid ho6
                 have c6 : w6.cell? ⟨b, o + k, none⟩ = some (.int .i64 x) := (HB6.out.cell (p := ⟨b, o + k, none⟩) (by rw [HZ5.out]; exact Nat.lt_of_lt_of_le hbw hz)).trans c5
                 clear ho6 hg6)
              | (at_builtin
                 refine app1 one_I rfl (.tmp 37) (.tmp 42) rfl w5.heap.size v6 ([] ++ (icells s).take j) rfl (HO6.out.alloc _) (w6.heap.size + 1) (some ⟨w6.heap.size, 0, none⟩) 1 1 [.int .i64 x] rfl rfl (row_lit w6 #[.int .i64 x] TN) one3.out HL2.out (by have := HB6.out.size; simp; omega) ?_
                 intro v7 w7 ho7 hg7 _
                 have HB7 := Lib.hid (below_own1 (HB6.out.alloc HB6.out.size _) (HO6.out.alloc _) hg7)
                 have HO7 := Lib.hid ho7
                 clear ho7 hg7)
              | (at_builtin
                 refine app1 one_I rfl (.tmp 44) (.tmp 47) rfl w5.heap.size v7 ([] ++ (icells s).take j ++ [.int .i64 x]) rfl HO7.out w5.heap.size B2 (m - j) (c2 - j) ((icells s).drop j) N2.out rfl (HR2.out.below HB7.out (Nat.le_refl _)) one2.out HL3.out HB7.out.size ?_
                 intro v8 w8 ho8 hg8 _
                 rw [HF8.out] at ho8
                 have HB8 := Lib.hid (below_own1 HB7.out HO7.out hg8)
                 have HO8 := Lib.hid (ho8.less HB5.out.size)
                 clear ho8 hg8))
            go_roundw
            case rel => exact ⟨k + 1, by omega, by go_num, HO8.out, HB5.out.trans (HB8.out.mono HB5.out.size)⟩
            case measure => simp [intOf]; omega
          · obtain ⟨y, hy⟩ : ∃ y, s.getD i 0 = y := ⟨_, rfl⟩
            rw [hy] at hlx
            obtain ⟨b2, o2, hA2, hb2, c3⟩ := HRW.out.int_ i (by rw [← HM.out]; omega)
            rw [hy] at c3
            have cy : wr.cell? ⟨b2, o2 + i, none⟩ = some (.int .i64 y) := by rw [HW2.out]; exact c3
            have cx : wr.cell? ⟨b, o + k, none⟩ = some (.int .i64 x) := by rw [HW2.out]; exact HC1.out
            subst hA2
            have hyx : decide (y < x) = false := by simp; omega
            have hd0 : decide (0 < j) = true := by simp; omega
            have hwj : IntKind.i64.wrap ((j : Int) - 1) = (i : Int) := by rw [IntWalk.i64_in _ (by omega)]; omega
            have hij : i < m := by omega
            clear hlx hji hy c3
            go_wp2
            go_quiet (fail)
            have HWW := Lib.hid (show ∃ a, wr = w1.drewN a from ⟨n, HW2.out⟩)
            obtain ⟨w5, hw5⟩ : ∃ w5, w5 = wr.drewN nq := ⟨_, rfl⟩
            rw [← hw5]
            have HW5 := Lib.hid (hw5.trans (HW9.out nq))
            clear hw5
            have HZ5 := Lib.hid (show w5.heap.size = w1.heap.size by rw [HW5.out]; rfl)
            have c5 : w5.cell? ⟨b, o + k, none⟩ = some (.int .i64 x) := by rw [HW5.out]; exact HC1.out
            have HR1 := Lib.hid (show Row w5 w5.heap.size (some ⟨b2, o2, none⟩) ((icells s).take j) by rw [HZ5.out, HW5.out]; exact R1.out _)
            have HR2 := Lib.hid (show Row w5 w5.heap.size B2 ((icells s).drop j) by rw [HZ5.out, HW5.out]; exact R2.out _)
            have HB5 := Lib.hid (show Below w.heap.size w w5 by rw [HW5.out]; exact below_draws HB.out _)
            have HJC := Lib.hid (show j = (icells (s.take j)).length by rw [icells_len, List.length_take, ← HM.out]; omega)
            have HF8 := Lib.hid (show [] ++ (icells s).take j ++ [Value.int .i64 x] ++ (icells s).drop j = icells (ds (l.take (k + 1))) by rw [← HFIN.out]; simp [icells])
            have HL1 := Lib.hid (show ([] : List Value).length + ((icells s).take j).length ≤ 1000000 by rw [← N1.out]; simp; omega)
            have HL2 := Lib.hid (show ([] ++ (icells s).take j).length + [Value.int .i64 x].length ≤ 1000000 by rw [List.nil_append, ← N1.out]; simp; omega)
            have HL3 := Lib.hid (show ([] ++ (icells s).take j ++ [Value.int .i64 x]).length + ((icells s).drop j).length ≤ 1000000 by rw [List.nil_append, List.length_append, ← N1.out, ← N2.out]; simp; omega)
            clear HW2 HWW HC1 HTK HDR HFIN HSTEP HDN R1 R2
            go_wp2_with (first
              | (at_builtin
                 refine app1 one_I rfl (.tmp 32) (.tmp 35) rfl w5.heap.size (.slice (some ⟨w5.heap.size, 0, none⟩) 0 0) [] rfl (own1_new (Nat.le_refl _)) w5.heap.size _ j c2 ((icells s).take j) N1.out rfl (HR1.out.below ((Below.refl _ _).alloc (Nat.le_refl _) _) (Nat.le_refl _)) one1.out HL1.out (by simp) ?_
                 intro v6 w6 ho6 hg6 _
                 have HB6 := Lib.hid (below_own1 (W := w5) ((Below.refl _ _).alloc (Nat.le_refl _) _) (own1_new (Nat.le_refl _)) hg6)
                 have HO6 := Lib.hid ho6
                 have c6 : w6.cell? ⟨b, o + k, none⟩ = some (.int .i64 x) := (HB6.out.cell (p := ⟨b, o + k, none⟩) (by rw [HZ5.out]; exact Nat.lt_of_lt_of_le hbw hz)).trans c5
                 clear ho6 hg6)
              | (at_builtin
                 refine app1 one_I rfl (.tmp 37) (.tmp 42) rfl w5.heap.size v6 ([] ++ (icells s).take j) rfl (HO6.out.alloc _) (w6.heap.size + 1) (some ⟨w6.heap.size, 0, none⟩) 1 1 [.int .i64 x] rfl rfl (row_lit w6 #[.int .i64 x] TN) one3.out HL2.out (by have := HB6.out.size; simp; omega) ?_
                 intro v7 w7 ho7 hg7 _
                 have HB7 := Lib.hid (below_own1 (HB6.out.alloc HB6.out.size _) (HO6.out.alloc _) hg7)
                 have HO7 := Lib.hid ho7
                 clear ho7 hg7)
              | (at_builtin
                 refine app1 one_I rfl (.tmp 44) (.tmp 47) rfl w5.heap.size v7 ([] ++ (icells s).take j ++ [.int .i64 x]) rfl HO7.out w5.heap.size B2 (m - j) (c2 - j) ((icells s).drop j) N2.out rfl (HR2.out.below HB7.out (Nat.le_refl _)) one2.out HL3.out HB7.out.size ?_
                 intro v8 w8 ho8 hg8 _
                 rw [HF8.out] at ho8
                 have HB8 := Lib.hid (below_own1 HB7.out HO7.out hg8)
                 have HO8 := Lib.hid (ho8.less HB5.out.size)
                 clear ho8 hg8))
            go_roundw
            case rel => exact ⟨k + 1, by omega, by go_num, HO8.out, HB5.out.trans (HB8.out.mono HB5.out.size)⟩
            case measure => simp [intOf]; omega
    · have hki : ¬ (k : Int) < (q : Int) := by omega
      have HO := Lib.hid ho
      clear ho hb
      go_wp2
      go_ret
      refine ⟨_, rfl, ?_, HB.out⟩
      have := HO.out
      rw [List.take_of_length_le (by rw [← HQ.out]; omega)] at this
      exact ⟨Nat.le_refl _, this, fun k e => (this.ob k e).2⟩
end Go.Proofs.Ytfaffpfjgipifaa
