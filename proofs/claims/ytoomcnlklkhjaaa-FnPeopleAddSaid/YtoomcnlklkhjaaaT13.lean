import Derived.Test.YtoomcnlklkhjaaaT12
namespace Go.Proofs.Ytoomcnlklkhjaaa
open Go.RowKit
theorem askOk_okL {l : List Pn} {a j s : Int} (h : askOk l a j s = true) : okL l = true := by simp only [askOk, Bool.and_eq_true] at h; exact h.1
theorem askOk_ask {l : List Pn} {a j s : Int} (h : askOk l a j s = true) : ask1 a 4 = true ∧ ask1 j 4 = true ∧ ask1 s 2 = true := by
  simp only [askOk, ask3, Bool.and_eq_true] at h; exact ⟨h.2.1.1, h.2.1.2, h.2.2⟩
theorem ask1_in {c n : Int} (h0 : -1 ≤ c) (h1 : c < n) : ask1 c n = true := by simp [ask1]; omega
theorem ask3_mk {a j s : Int} (h1 : ask1 a 4 = true) (h2 : ask1 j 4 = true) (h3 : ask1 s 2 = true) : ask3 a j s = true := by simp [ask3, h1, h2, h3]
theorem psum_cnt (l : List Pn) (a j s : Int) (h : l.all okP = true) : psum l a j s ≤ 999 * cnt l a j s := by
  induction l with
  | nil => simp [psum, cnt]
  | cons p l ih =>
    simp only [List.all_cons, Bool.and_eq_true] at h
    have hp := okP_pay h.1
    have hi := ih h.2
    simp only [psum, cnt, List.filter_cons] at *
    split
    · simp only [List.map_cons, List.sum_cons, List.length_cons]; omega
    · omega
def ind (b : Bool) : Int := if b = true then 1 else 0
theorem cnt_cons (p : Pn) (l : List Pn) (a j s : Int) : cnt (p :: l) a j s = ind (fit3 p a j s) + cnt l a j s := by
  simp only [cnt, List.filter_cons, ind]; split
  · simp only [List.length_cons]; omega
  · omega
theorem psum_cons (p : Pn) (l : List Pn) (a j s : Int) : psum (p :: l) a j s = ind (fit3 p a j s) * p.pay + psum l a j s := by
  simp only [psum, List.filter_cons, ind]; split
  · simp only [List.map_cons, List.sum_cons]; omega
  · omega
theorem okP_codes {p : Pn} (h : okP p = true) : (p.area = 0 ∨ p.area = 1 ∨ p.area = 2 ∨ p.area = 3) ∧ (p.job = 0 ∨ p.job = 1 ∨ p.job = 2 ∨ p.job = 3) ∧ (p.sex = 0 ∨ p.sex = 1) := by
  simp [okP, inC] at h; omega
theorem ind_area {p : Pn} (h : okP p = true) (j s : Int) : ind (fit3 p 0 j s) + ind (fit3 p 1 j s) + ind (fit3 p 2 j s) + ind (fit3 p 3 j s) = ind (fit3 p (-1) j s) := by
  obtain ⟨h, _, _⟩ := okP_codes h
  simp only [fit3]
  cases fit1 p.job j <;> cases fit1 p.sex s <;> rcases h with h | h | h | h <;> rw [h] <;> decide
theorem ind_job {p : Pn} (h : okP p = true) (a s : Int) : ind (fit3 p a 0 s) + ind (fit3 p a 1 s) + ind (fit3 p a 2 s) + ind (fit3 p a 3 s) = ind (fit3 p a (-1) s) := by
  obtain ⟨_, h, _⟩ := okP_codes h
  simp only [fit3]
  cases fit1 p.area a <;> cases fit1 p.sex s <;> rcases h with h | h | h | h <;> rw [h] <;> decide
theorem ind_sex {p : Pn} (h : okP p = true) (a j : Int) : ind (fit3 p a j 0) + ind (fit3 p a j 1) = ind (fit3 p a j (-1)) := by
  obtain ⟨_, _, h⟩ := okP_codes h
  simp only [fit3]
  cases fit1 p.area a <;> cases fit1 p.job j <;> rcases h with h | h <;> rw [h] <;> decide
theorem cnt_area (l : List Pn) (j s : Int) (h : l.all okP = true) : cnt l 0 j s + cnt l 1 j s + cnt l 2 j s + cnt l 3 j s = cnt l (-1) j s := by
  induction l with
  | nil => rfl
  | cons p l ih =>
    simp only [List.all_cons, Bool.and_eq_true] at h
    have := ind_area h.1 j s
    have := ih h.2
    simp only [cnt_cons]; omega
theorem cnt_sex (l : List Pn) (a j : Int) (h : l.all okP = true) : cnt l a j 0 + cnt l a j 1 = cnt l a j (-1) := by
  induction l with
  | nil => rfl
  | cons p l ih =>
    simp only [List.all_cons, Bool.and_eq_true] at h
    have := ind_sex h.1 a j
    have := ih h.2
    simp only [cnt_cons]; omega
theorem psum_job (l : List Pn) (a s : Int) (h : l.all okP = true) : psum l a 0 s + psum l a 1 s + psum l a 2 s + psum l a 3 s = psum l a (-1) s := by
  induction l with
  | nil => rfl
  | cons p l ih =>
    simp only [List.all_cons, Bool.and_eq_true] at h
    have h1 := ind_job h.1 a s
    have h2 := ih h.2
    simp only [psum_cons]
    rw [← h1, Int.add_mul, Int.add_mul, Int.add_mul]; omega
def sumA (l : List Pn) (j s : Int) : Nat → Int
  | 0 => 0
  | k + 1 => sumA l j s k + cnt l k j s
def sumJ (l : List Pn) (a s : Int) : Nat → Int
  | 0 => 0
  | k + 1 => sumJ l a s k + psum l a k s
theorem sumA_bd (l : List Pn) (j s : Int) (k : Nat) : 0 ≤ sumA l j s k ∧ sumA l j s k ≤ k * l.length := by
  induction k with
  | zero => simp [sumA]
  | succ k ih =>
    have := cnt_bd l k j s
    have e : ((k + 1 : Nat) : Int) * l.length = k * l.length + l.length := by rw [Int.natCast_add, Int.add_mul]; simp
    simp only [sumA]; rw [e]; omega
theorem sumA4 (l : List Pn) (j s : Int) (h : l.all okP = true) : sumA l j s 4 = cnt l (-1) j s := by
  rw [← cnt_area l j s h]; simp only [sumA]; simp
theorem sumJ4 (l : List Pn) (a s : Int) (h : l.all okP = true) : sumJ l a s 4 = psum l a (-1) s := by
  rw [← psum_job l a s h]; simp only [sumJ]; simp
theorem sumJ_bd (l : List Pn) (a s : Int) (h : l.all okP = true) (k : Nat) (hl : l.length ≤ 40) : 0 ≤ sumJ l a s k ∧ sumJ l a s k ≤ 40000 * k := by
  induction k with
  | zero => simp [sumJ]
  | succ k ih =>
    have := psum_bd l a k s h
    simp only [sumJ]; omega

set_option maxHeartbeats 1000000 in
theorem w_PeoplePay (A : Option Addr) (n c : Nat) (hnc : n ≤ c) (hn : n ≤ maxLen) (A2 : Option Addr) (m c2 : Nat) (_hmc : m ≤ c2) (hm : m ≤ maxLen) (w : World) (hb : Bytes w w.heap.size A n) (_hb2 : Bytes w w.heap.size A2 m) :
    Calls Try.prog 5 #[.slice A n c, .slice A2 m c2] w fun e w' => e = .returned (.bool true) ∧ Below w.heap.size w w' := by
  have hn2 := hn
  have hm2 := hm
  unfold maxLen at hn2 hm2
  have hall : 1048576 < n ∨ (¬ 1048576 < n ∧ 1048576 < m) ∨ ¬ 1048576 < n ∧ ¬ 1048576 < m := by omega
  rcases hall with hbig | ⟨hbig, hbig2⟩ | ⟨hbig, hbig2⟩
  · go_enter Try.func5, Try.ntmps5
    go_wp2
    go_ret
    exact ⟨rfl, Below.refl _ _⟩
  · go_enter Try.func5, Try.ntmps5
    go_wp2
    go_ret
    exact ⟨rfl, Below.refl _ _⟩
  · go_enter Try.func5, Try.ntmps5
    go_wp2_with fail
    refine (drawPay_any A n c hnc hn _ hb).mono ?_
    rintro e W ⟨l, B, d, a, j, s, rfl, hrow, hl, hld, hd, hbd, a0, a1, j0, j1, s0, s1, hbW⟩
    have hlm : l.length ≤ maxLen := by omega
    have HBD := Lib.hid hbd; clear hbd
    have HBW := Lib.hid hbW; clear hbW
    go_wp2_with fail
    refine (pay_at W l _ rfl B d a j s hrow hlm _ (Below.refl _ _)).mono ?_
    rintro e w1 ⟨rfl, h1⟩
    go_wp2_with fail
    refine (sPay_at W l _ rfl B d a j s hrow hlm _ h1).mono ?_
    rintro e w2 ⟨rfl, h2⟩
    clear h1
    cases hok : askOk l a j s
    · rw [pay_neg hok]
      go_wp2
      go_ret
      exact ⟨rfl, HBW.out.trans (h2.mono HBW.out.size)⟩
    · rw [pay_pos hok]
      have hcb := cnt_bd l a j s
      have hps := psum_bd l a j s (okL_all (askOk_okL hok)).2
      have HOK := Lib.hid hok; clear hok
      obtain ⟨k, hk, hkl⟩ := mod_cut m l.length
      have HK := Lib.hid hk; clear hk
      go_wp2_with fail
      rw [HK.out]
      have hkd : k ≤ d := by omega
      have hkd2 : (k : Int) ≤ (d : Int) := by omega
      have hkl2 : (k : Int) ≤ (l.length : Int) := by omega
      have q1 := Lib.hid (show k = (l.take k).length by simp; omega)
      have q2 := Lib.hid (show l.length - k = (l.drop k).length by simp)
      have r1 := hrow.front (k := k)
      obtain ⟨B2, hsl, hB2⟩ := slice_tail B l.length d k hkl hld
      have r2 := hB2 W _ l rfl hrow
      clear hB2
      have m1 : (l.take k).length ≤ maxLen := by have := List.length_take_le k l; omega
      have m2 : (l.drop k).length ≤ maxLen := by simp; omega
      have hm1 := pay_pos (askOk_part HOK.out (fun p hp => List.mem_of_mem_take hp) (by simp; omega) : askOk (l.take k) a j s = true)
      have hm2 := pay_pos (askOk_part HOK.out (fun p hp => List.mem_of_mem_drop hp) (by simp) : askOk (l.drop k) a j s = true)
      have hm3 := many_pos HOK.out
      have hsum : IntKind.i64.wrap (psum (l.take k) a j s + psum (l.drop k) a j s) = psum l a j s := by
        rw [← psum_app, List.take_append_drop]; exact IntWalk.i64_in _ (by omega)
      have hmul : IntKind.i64.wrap (999 * cnt l a j s) = 999 * cnt l a j s := IntWalk.i64_in _ (by omega)
      have hle := psum_cnt l a j s (okL_all (askOk_okL HOK.out)).2
      go_region_held3 (fun w' => Below W.heap.size W w') (first | assumption | exact Below.drew h2) (first
        | (go_at_call 17; (with_reducible refine (pay_at W (l.take k) k q1.out B d a j s r1 m1 _ ?_).mono ?_); (first | assumption | exact Below.drew h2); rintro e w3 ⟨rfl, h3⟩; rw [hm1])
        | (go_at_call 17; (with_reducible refine (pay_at W (l.drop k) (l.length - k) q2.out B2 (d - k) a j s r2 m2 _ ?_).mono ?_); (first | assumption | exact Below.drew h2); rintro e w3 ⟨rfl, h3⟩; rw [hm2])
        | (go_at_call 14; (with_reducible refine (many_at W l l.length rfl B d a j s hrow hlm _ ?_).mono ?_); (first | assumption | exact Below.drew h2); rintro e w3 ⟨rfl, h3⟩; rw [hm3]))
      go_wp2
      go_ret
      exact ⟨retb (by simp; try omega), HBW.out.trans (Below.mono (by assumption) HBW.out.size)⟩

theorem w_PeopleManyAny (A : Option Addr) (n c : Nat) (hnc : n ≤ c) (hn : n ≤ maxLen) (w : World) (hb : Bytes w w.heap.size A n) :
    Calls Try.prog 4 #[.slice A n c] w fun e w' => e = .returned (.bool true) ∧ Below w.heap.size w w' := by
  have hn2 := hn
  unfold maxLen at hn2
  have hall : 1048576 < n ∨ ¬ 1048576 < n := by omega
  rcases hall with hbig | hbig
  · go_enter Try.func4, Try.ntmps4
    go_wp2
    go_ret
    exact ⟨rfl, Below.refl _ _⟩
  · go_enter Try.func4, Try.ntmps4
    go_wp2_with fail
    refine (drawMany_any A n c hnc hn _ hb).mono ?_
    rintro e W ⟨l, B, d, a, j, s, rfl, hrow, hl, hld, hd, hbd, a0, a1, j0, j1, s0, s1, hbW⟩
    have hlm : l.length ≤ maxLen := by omega
    have HBD := Lib.hid hbd; clear hbd
    have HBW := Lib.hid hbW; clear hbW
    go_wp2_with fail
    refine (many_at W l _ rfl B d a j s hrow hlm _ (Below.refl _ _)).mono ?_
    rintro e w1 ⟨rfl, h1⟩
    go_wp2_with fail
    refine (sMany_at W l _ rfl B d a j s hrow hlm _ h1).mono ?_
    rintro e w2 ⟨rfl, h2⟩
    clear h1
    cases hok : askOk l a j s
    · rw [many_neg hok]
      go_wp2
      go_ret
      exact ⟨rfl, HBW.out.trans (h2.mono HBW.out.size)⟩
    · rw [many_pos hok]
      have hcb := cnt_bd l a j s
      have hps := psum_bd l a j s (okL_all (askOk_okL hok)).2
      have HOK := Lib.hid hok; clear hok
      obtain ⟨v1, v2, v3⟩ := askOk_ask HOK.out
      have V1 := Lib.hid v1; have V2 := Lib.hid v2; have V3 := Lib.hid v3
      clear v1 v2 v3
      go_wp2
      go_loopw [9, 10] (fun x i wr => ∃ k : Nat, k ≤ 4 ∧ i = .int .i64 k ∧ x = .int .i64 (sumA l j s k) ∧ Below W.heap.size W wr) (fun _ i _ => 4 - (intOf i).toNat)
      case atStart => exact ⟨0, by omega, rfl, rfl, h2⟩
      case round =>
        obtain ⟨k, hk, rfl, rfl, h3⟩ := hrel
        clear h2
        have hb4 := sumA_bd l j s k
        have hb5 : (k : Int) * l.length ≤ 4 * 10 := Int.mul_le_mul (by omega) (by omega) (by omega) (by omega)
        by_cases hlt : k < 4
        · have hcb2 := cnt_bd l k j s
          go_wp2_with fail
          refine (many_at W l _ rfl B d k j s hrow hlm _ h3).mono ?_
          rintro e w3 ⟨rfl, h4⟩
          rw [many_pos (askOk_code HOK.out (ask3_mk (ask1_in (by omega) (by omega)) V2.out V3.out))]
          go_wp2
          go_roundw
          case rel => exact ⟨k + 1, by omega, by go_num, by simp only [sumA], h4⟩
          case measure => simp [intOf]; omega
        · obtain rfl : k = 4 := by omega
          have hA := sumA4 l j s (okL_all (askOk_okL HOK.out)).2
          have hS := cnt_sex l a j (okL_all (askOk_okL HOK.out)).2
          have x0 := cnt_bd l a j 0
          have x1 := cnt_bd l a j 1
          have HS := Lib.hid hS; clear hS
          rw [hA]; clear hA hb4 hb5
          go_wp2_with fail
          refine (many_at W l _ rfl B d a j 0 hrow hlm _ h3).mono ?_
          rintro e w3 ⟨rfl, h4⟩
          rw [many_pos (askOk_code HOK.out (ask3_mk V1.out V2.out (ask1_in (by omega) (by omega))))]
          go_wp2_with fail
          refine (many_at W l _ rfl B d a j 1 hrow hlm _ h4).mono ?_
          rintro e w4 ⟨rfl, h5⟩
          rw [many_pos (askOk_code HOK.out (ask3_mk V1.out V2.out (ask1_in (by omega) (by omega))))]
          go_wp2_with fail
          refine (many_at W l _ rfl B d (-1) j s hrow hlm _ h5).mono ?_
          rintro e w5 ⟨rfl, h6⟩
          rw [many_pos (askOk_code HOK.out (ask3_mk (ask1_in (by omega) (by omega)) V2.out V3.out))]
          go_wp2_with fail
          refine (many_at W l _ rfl B d a j (-1) hrow hlm _ h6).mono ?_
          rintro e w6 ⟨rfl, h7⟩
          rw [many_pos (askOk_code HOK.out (ask3_mk V1.out V2.out (ask1_in (by omega) (by omega))))]
          rw [HS.out]
          go_wp2
          go_ret
          exact ⟨rfl, HBW.out.trans (h7.mono HBW.out.size)⟩

theorem w_PeoplePayAny (A : Option Addr) (n c : Nat) (hnc : n ≤ c) (hn : n ≤ maxLen) (w : World) (hb : Bytes w w.heap.size A n) :
    Calls Try.prog 6 #[.slice A n c] w fun e w' => e = .returned (.bool true) ∧ Below w.heap.size w w' := by
  have hn2 := hn
  unfold maxLen at hn2
  have hall : 1048576 < n ∨ ¬ 1048576 < n := by omega
  rcases hall with hbig | hbig
  · go_enter Try.func6, Try.ntmps6
    go_wp2
    go_ret
    exact ⟨rfl, Below.refl _ _⟩
  · go_enter Try.func6, Try.ntmps6
    go_wp2_with fail
    refine (drawPay_any A n c hnc hn _ hb).mono ?_
    rintro e W ⟨l, B, d, a, j, s, rfl, hrow, hl, hld, hd, hbd, a0, a1, j0, j1, s0, s1, hbW⟩
    have hlm : l.length ≤ maxLen := by omega
    have HBD := Lib.hid hbd; clear hbd
    have HBW := Lib.hid hbW; clear hbW
    go_wp2_with fail
    refine (pay_at W l _ rfl B d a j s hrow hlm _ (Below.refl _ _)).mono ?_
    rintro e w1 ⟨rfl, h1⟩
    go_wp2_with fail
    refine (sPay_at W l _ rfl B d a j s hrow hlm _ h1).mono ?_
    rintro e w2 ⟨rfl, h2⟩
    clear h1
    cases hok : askOk l a j s
    · rw [pay_neg hok]
      go_wp2
      go_ret
      exact ⟨rfl, HBW.out.trans (h2.mono HBW.out.size)⟩
    · rw [pay_pos hok]
      have hcb := cnt_bd l a j s
      have hps := psum_bd l a j s (okL_all (askOk_okL hok)).2
      have HOK := Lib.hid hok; clear hok
      obtain ⟨v1, v2, v3⟩ := askOk_ask HOK.out
      have V1 := Lib.hid v1; have V2 := Lib.hid v2; have V3 := Lib.hid v3
      have HAL := Lib.hid (okL_all (askOk_okL HOK.out)).2
      clear v1 v2 v3
      go_wp2
      go_loopw [9, 10] (fun x i wr => ∃ k : Nat, k ≤ 4 ∧ i = .int .i64 k ∧ x = .int .i64 (sumJ l a s k) ∧ Below W.heap.size W wr) (fun _ i _ => 4 - (intOf i).toNat)
      case atStart => exact ⟨0, by omega, rfl, rfl, h2⟩
      case round =>
        obtain ⟨k, hk, rfl, rfl, h3⟩ := hrel
        clear h2
        have hb4 := sumJ_bd l a s HAL.out k (by omega)
        by_cases hlt : k < 4
        · have hcb2 := psum_bd l a k s HAL.out
          go_wp2_with fail
          refine (pay_at W l _ rfl B d a k s hrow hlm _ h3).mono ?_
          rintro e w3 ⟨rfl, h4⟩
          rw [pay_pos (askOk_code HOK.out (ask3_mk V1.out (ask1_in (by omega) (by omega)) V3.out))]
          go_wp2
          go_roundw
          case rel => exact ⟨k + 1, by omega, by go_num, by simp only [sumJ], h4⟩
          case measure => simp [intOf]; omega
        · obtain rfl : k = 4 := by omega
          have hA := sumJ4 l a s HAL.out
          rw [hA]; clear hA hb4
          go_wp2_with fail
          refine (pay_at W l _ rfl B d a (-1) s hrow hlm _ h3).mono ?_
          rintro e w3 ⟨rfl, h4⟩
          rw [pay_pos (askOk_code HOK.out (ask3_mk V1.out (ask1_in (by omega) (by omega)) V3.out))]
          go_wp2
          go_ret
          exact ⟨retb (by simp), HBW.out.trans (h4.mono HBW.out.size)⟩

end Go.Proofs.Ytoomcnlklkhjaaa
