import Derived.Test.YtoomcnlklkhjaaaT11
namespace Go.Proofs.Ytoomcnlklkhjaaa
open Go.RowKit
/-- A list of people at A, seen from any world in which nothing older than W has turned. -/
theorem many_at (W : World) (l : List Pn) (n : Nat) (hn : n = l.length) (A : Option Addr) (c : Nat) (a j s : Int) (hr : Row W W.heap.size A (pcells l)) (hl : l.length ≤ maxLen) (w : World) (hb : Below W.heap.size W w) :
    Calls Try.prog 14 #[.slice A n c, .int .i64 a, .int .i64 j, .int .i64 s] w fun e w' => e = .returned (.int .i64 (many l a j s)) ∧ Below W.heap.size W w' := by
  subst hn
  exact (many_any l A c a j s w ((hr.below hb (Nat.le_refl _)).more hb.size) hl).mono fun e w' ⟨h1, h2⟩ => ⟨h1, hb.trans (h2.mono hb.size)⟩
theorem pay_at (W : World) (l : List Pn) (n : Nat) (hn : n = l.length) (A : Option Addr) (c : Nat) (a j s : Int) (hr : Row W W.heap.size A (pcells l)) (hl : l.length ≤ maxLen) (w : World) (hb : Below W.heap.size W w) :
    Calls Try.prog 17 #[.slice A n c, .int .i64 a, .int .i64 j, .int .i64 s] w fun e w' => e = .returned (.int .i64 (pay l a j s)) ∧ Below W.heap.size W w' := by
  subst hn
  exact (pay_any l A c a j s w ((hr.below hb (Nat.le_refl _)).more hb.size) hl).mono fun e w' ⟨h1, h2⟩ => ⟨h1, hb.trans (h2.mono hb.size)⟩
theorem sMany_at (W : World) (l : List Pn) (n : Nat) (hn : n = l.length) (A : Option Addr) (c : Nat) (a j s : Int) (hr : Row W W.heap.size A (pcells l)) (hl : l.length ≤ maxLen) (w : World) (hb : Below W.heap.size W w) :
    Calls Try.prog 15 #[.slice A n c, .int .i64 a, .int .i64 j, .int .i64 s] w fun e w' => e = .returned (.int .i64 (many l a j s)) ∧ Below W.heap.size W w' := by
  subst hn
  exact (sMany_any l A c a j s w ((hr.below hb (Nat.le_refl _)).more hb.size) hl).mono fun e w' ⟨h1, h2⟩ => ⟨h1, hb.trans (h2.mono hb.size)⟩
theorem sPay_at (W : World) (l : List Pn) (n : Nat) (hn : n = l.length) (A : Option Addr) (c : Nat) (a j s : Int) (hr : Row W W.heap.size A (pcells l)) (hl : l.length ≤ maxLen) (w : World) (hb : Below W.heap.size W w) :
    Calls Try.prog 18 #[.slice A n c, .int .i64 a, .int .i64 j, .int .i64 s] w fun e w' => e = .returned (.int .i64 (pay l a j s)) ∧ Below W.heap.size W w' := by
  subst hn
  exact (sPay_any l A c a j s w ((hr.below hb (Nat.le_refl _)).more hb.size) hl).mono fun e w' ⟨h1, h2⟩ => ⟨h1, hb.trans (h2.mono hb.size)⟩

theorem many_neg {l : List Pn} {a j s : Int} (h : askOk l a j s = false) : many l a j s = -1 := by simp [many, h]
theorem many_pos {l : List Pn} {a j s : Int} (h : askOk l a j s = true) : many l a j s = cnt l a j s := by simp [many, h]
theorem pay_neg {l : List Pn} {a j s : Int} (h : askOk l a j s = false) : pay l a j s = -1 := by simp [pay, h]
theorem pay_pos {l : List Pn} {a j s : Int} (h : askOk l a j s = true) : pay l a j s = psum l a j s := by simp [pay, h]
theorem cnt_app (x y : List Pn) (a j s : Int) : cnt (x ++ y) a j s = cnt x a j s + cnt y a j s := by simp [cnt]
theorem psum_app (x y : List Pn) (a j s : Int) : psum (x ++ y) a j s = psum x a j s + psum y a j s := by simp [psum]
theorem askOk_part {l l' : List Pn} {a j s : Int} (h : askOk l a j s = true) (hs : ∀ p ∈ l', p ∈ l) (hl : l'.length ≤ l.length) : askOk l' a j s = true := by
  simp only [askOk, okL, Bool.and_eq_true, decide_eq_true_eq, List.all_eq_true] at *
  exact ⟨⟨by omega, fun p hp => h.1.2 p (hs p hp)⟩, h.2⟩
theorem askOk_code {l : List Pn} {a j s a' j' s' : Int} (h : askOk l a j s = true) (h' : ask3 a' j' s' = true) : askOk l a' j' s' = true := by
  simp only [askOk, Bool.and_eq_true] at *
  exact ⟨h.1, h'⟩
theorem cnt_all (l : List Pn) : cnt l (-1) (-1) (-1) = l.length := by
  have e : l.filter (fun p => fit3 p (-1) (-1) (-1)) = l := List.filter_eq_self.2 fun p _ => by simp [fit3, fit1]
  rw [cnt, e]
/-- The row behind a cut at k. -/
theorem Row.cut {w : World} {B : Nat} {A : Option Addr} {l : List Pn} {c k : Nat} (h : Row w B A (pcells l)) (hk : k ≤ l.length) (hc : l.length ≤ c) :
    Row w B (if c = k then A else A.map (·.add (k * 4))) (pcells (l.drop k)) := by
  by_cases hkl : k = l.length
  · left; rw [List.drop_eq_nil_of_le (by omega)]; rfl
  · rcases h with h | ⟨b, o, rfl, hb, hcell⟩
    · have := pcells_length l; rw [h] at this; simp at this; omega
    · right
      rw [if_neg (by omega)]
      refine ⟨b, o + k * 4, by simp [Addr.add_lit], hb, fun j u hu => ?_⟩
      rw [Nat.add_assoc]
      refine hcell (k * 4 + j) u ?_
      rw [← hu]
      have e : pcells (l.drop k) = (pcells l).drop (k * 4) := by
        have h1 : pcells l = pcells (l.take k) ++ pcells (l.drop k) := by simp only [pcells, ← List.flatMap_append, List.take_append_drop]
        rw [h1, List.drop_left' (by rw [pcells_length, List.length_take]; omega)]
      rw [e, List.getElem?_drop]
theorem Row.front {w : World} {B : Nat} {A : Option Addr} {l : List Pn} {k : Nat} (h : Row w B A (pcells l)) : Row w B A (pcells (l.take k)) := by
  rcases h with h | ⟨b, o, rfl, hb, hcell⟩
  · left
    have := pcells_length l; rw [h] at this; simp at this
    have hn : l = [] := List.eq_nil_of_length_eq_zero (by omega)
    rw [hn]; simp [pcells]
  · right
    refine ⟨b, o, rfl, hb, fun j u hu => hcell j u ?_⟩
    have h1 : pcells l = pcells (l.take k) ++ pcells (l.drop k) := by simp only [pcells, ← List.flatMap_append, List.take_append_drop]
    rw [h1, List.getElem?_append_left (List.getElem?_eq_some_iff.1 hu).1]; exact hu
/-- The cut list[k:], its address under one name. -/
theorem slice_tail (B : Option Addr) (n d k : Nat) (hk : k ≤ n) (hn : n ≤ d) : ∃ B2, (∀ w, (Instr.sliceAt TPS (.slice B n d) (some (.int .i64 k)) none none).run Try.prog w = .ok (.slice B2 (n - k) (d - k)) w) ∧
    ∀ W Bd l, l.length = n → Row W Bd B (pcells l) → Row W Bd B2 (pcells (l.drop k)) := by
  refine ⟨if d = k then B else B.map (·.add (k * 4)), fun w => ?_, fun W Bd l hl hr => hr.cut (by omega) (by omega)⟩
  obtain ⟨i0, hi0, _, hz1, _⟩ := info_parts info_P
  have hu : Try.prog.underlying TPS = some (.slice TP) := Try.underlying23
  have he : Try.prog.elem TPS = TP := by simp [Program.elem, hu]
  rw [run_sliceAt_slice w TPS _ _ _ _ (by rw [he]; exact hu), run_slice_l w TPS B n d (by rw [he]; exact hu) .i64 (k : Int) (by omega) (by omega)]
  rw [he]
  simp [sizeOf, typeInfo, hi0, hz1, sliced, Result.andThen]
theorem mod_cut (m n : Nat) : ∃ k : Nat, (m : Int) % ((n : Int) + 1) = k ∧ k ≤ n :=
  ⟨m % (n + 1), by simp, by have := Nat.mod_lt m (show 0 < n + 1 by omega); omega⟩

set_option maxHeartbeats 4000000 in
theorem w_PeopleMany (A : Option Addr) (n c : Nat) (hnc : n ≤ c) (hn : n ≤ maxLen) (A2 : Option Addr) (m c2 : Nat) (_hmc : m ≤ c2) (hm : m ≤ maxLen) (w : World) (hb : Bytes w w.heap.size A n) (_hb2 : Bytes w w.heap.size A2 m) :
    Calls Try.prog 3 #[.slice A n c, .slice A2 m c2] w fun e w' => e = .returned (.bool true) ∧ Below w.heap.size w w' := by
  have hn2 := hn
  have hm2 := hm
  unfold maxLen at hn2 hm2
  by_cases hbig : 1048576 < n
  · go_enter Try.func3, Try.ntmps3
    go_wp2
    go_ret
    exact ⟨rfl, Below.refl _ _⟩
  · by_cases hbig2 : 1048576 < m
    · go_enter Try.func3, Try.ntmps3
      go_wp2
      go_ret
      exact ⟨rfl, Below.refl _ _⟩
    · go_enter Try.func3, Try.ntmps3
      go_wp2_with fail
      refine (drawMany_any A n c hnc hn _ hb).mono ?_
      rintro e W ⟨l, B, d, a, j, s, rfl, hrow, hl, hld, hd, hbd, a0, a1, j0, j1, s0, s1, hbW⟩
      clear hbd
      have hlm : l.length ≤ maxLen := by omega
      go_wp2_with fail
      refine (many_at W l _ rfl B d a j s hrow hlm _ (Below.refl _ _)).mono ?_
      rintro e w1 ⟨rfl, h1⟩
      go_wp2_with fail
      refine (sMany_at W l _ rfl B d a j s hrow hlm _ h1).mono ?_
      rintro e w2 ⟨rfl, h2⟩
      cases hok : askOk l a j s
      · rw [many_neg hok]
        go_wp2
        go_ret
        exact ⟨rfl, hbW.trans (h2.mono hbW.size)⟩
      · rw [many_pos hok]
        have hcb := cnt_bd l a j s
        obtain ⟨k, hk, hkl⟩ := mod_cut m l.length
        have HOK := Lib.hid hok; clear hok
        have HK := Lib.hid hk; clear hk
        go_wp2_with fail
        rw [HK.out]
        have hkd : k ≤ d := by omega
        have hkd2 : (k : Int) ≤ (d : Int) := by omega
        have hkl2 : (k : Int) ≤ (l.length : Int) := by omega
        have q1 := Lib.hid (show k = (l.take k).length by simp; omega)
        have q2 := Lib.hid (show l.length - k = (l.drop k).length by simp)
        have r1 := hrow.front (k := k)
        obtain ⟨B2, hsl, hB2⟩ := slice_tail B l.length d k hkl hld
        have r2 := hB2 W _ l rfl hrow
        clear hB2
        have m1 : (l.take k).length ≤ maxLen := by have := List.length_take_le k l; omega
        have m2 : (l.drop k).length ≤ maxLen := by simp; omega
        have hm1 := many_pos (askOk_part HOK.out (fun p hp => List.mem_of_mem_take hp) (by simp; omega) : askOk (l.take k) a j s = true)
        have hm2 := many_pos (askOk_part HOK.out (fun p hp => List.mem_of_mem_drop hp) (by simp) : askOk (l.drop k) a j s = true)
        have hm3 := many_pos (askOk_code HOK.out (by decide) : askOk l (-1) (-1) (-1) = true)
        rw [cnt_all] at hm3
        have hsum : IntKind.i64.wrap (cnt (l.take k) a j s + cnt (l.drop k) a j s) = cnt l a j s := by
          rw [← cnt_app, List.take_append_drop]; exact IntWalk.i64_in _ (by omega)
        go_region_held3 (fun w' => Below W.heap.size W w') (first | assumption | exact Below.drew h2) (first
          | (go_at_call 14; (with_reducible refine (many_at W (l.take k) k q1.out B d a j s r1 m1 _ ?_).mono ?_); (first | assumption | exact Below.drew h2); rintro e w3 ⟨rfl, h3⟩; rw [hm1])
          | (go_at_call 14; (with_reducible refine (many_at W (l.drop k) (l.length - k) q2.out B2 (d - k) a j s r2 m2 _ ?_).mono ?_); (first | assumption | exact Below.drew h2); rintro e w3 ⟨rfl, h3⟩; rw [hm2])
          | (go_at_call 14; (with_reducible refine (many_at W l l.length rfl B d (-1) (-1) (-1) hrow hlm _ ?_).mono ?_); (first | assumption | exact Below.drew h2); rintro e w3 ⟨rfl, h3⟩; rw [hm3]))
        go_wp2
        go_ret
        exact ⟨rfl, hbW.trans (Below.mono (by assumption) hbW.size)⟩
end Go.Proofs.Ytoomcnlklkhjaaa
