import Derived.Test.YtoomcnlklkhjaaaT13
namespace Go.Proofs.Ytoomcnlklkhjaaa
open Go.RowKit
theorem band_next (x : Int) (h0 : 0 ≤ x) (h1 : x < 999) : band (x + 1) = band x ∨ band (x + 1) = band x + 1 := by
  unfold band; rw [if_pos (by omega), if_pos (by omega)]; omega
theorem w_PeopleBandRises (A : Option Addr) (n c : Nat) (hnc : n ≤ c) (hn : n ≤ maxLen) (w : World) (hb : Bytes w w.heap.size A n) :
    Calls Try.prog 9 #[.slice A n c] w fun e w' => e = .returned (.bool true) ∧ Below w.heap.size w w' := by
  have hn2 := hn
  unfold maxLen at hn2
  by_cases hbig : 1048576 < n
  · go_enter Try.func9, Try.ntmps9
    go_wp2
    go_ret
    exact ⟨rfl, Below.refl _ _⟩
  · go_enter Try.func9, Try.ntmps9
    go_wp2_with fail
    refine (drawBand_any A n c hnc hn _ hb).mono ?_
    rintro e w1 ⟨x, rfl, x0, x1, hb1⟩
    go_wp2_with fail
    refine (band_any x _).mono ?_
    rintro e w' ⟨rfl, rfl⟩
    go_wp2_with fail
    refine (sBand_any x _).mono ?_
    rintro e w' ⟨rfl, rfl⟩
    rcases band_cases x with ⟨h0, h1, h2, h3, h4, h5⟩ | ⟨_, h1⟩
    · by_cases h9 : x = 999
      · subst h9
        have e1 : band (999 + 1) = -1 := by decide
        go_wp2_with fail
        refine (band_any _ _).mono ?_
        rintro e w' ⟨rfl, rfl⟩
        generalize band 999 = y at *
        go_wp2
        go_ret
        exact ⟨rfl, hb1⟩
      · have hne : (x == 999) = false := by simp; omega
        have hnx := band_next x h0 (by omega)
        go_wp2_with fail
        refine (band_any _ _).mono ?_
        rintro e w' ⟨rfl, rfl⟩
        rcases hnx with hnx | hnx
        · rw [hnx]; clear hnx
          generalize band x = y at *
          go_wp2
          go_ret
          exact ⟨rfl, hb1⟩
        · rw [hnx]; clear hnx
          generalize band x = y at *
          have hne2 : (y + 1 == y) = false := by simp; omega
          go_wp2
          go_ret
          exact ⟨rfl, hb1⟩
    · rw [h1]
      clear h1
      go_wp2
      go_ret
      exact ⟨rfl, hb1⟩
def bsum (l : List Pn) : Int := (l.map fun p => 100 * band p.pay).sum
theorem bsum_take (l : List Pn) (k : Nat) (hk : k < l.length) : bsum (l.take (k + 1)) = bsum (l.take k) + 100 * band l[k].pay := by
  rw [List.take_succ_eq_append_getElem hk]; simp only [bsum, List.map_append, List.sum_append]; simp
theorem bsum_bd (l : List Pn) (h : l.all okP = true) : 0 ≤ bsum l ∧ bsum l ≤ psum l (-1) (-1) (-1) ∧ psum l (-1) (-1) (-1) ≤ bsum l + 99 * l.length := by
  induction l with
  | nil => simp [bsum, psum]
  | cons p l ih =>
    simp only [List.all_cons, Bool.and_eq_true] at h
    have hp := okP_pay h.1
    have hi := ih h.2
    have hf : ind (fit3 p (-1) (-1) (-1)) = 1 := by simp [ind, fit3, fit1]
    rcases band_cases p.pay with hbnd | hbnd
    · rw [psum_cons, hf]
      simp only [bsum, List.map_cons, List.sum_cons, List.length_cons] at *
      omega
    · omega
theorem psum_le_all (l : List Pn) (a j s : Int) (h : l.all okP = true) : psum l a j s ≤ psum l (-1) (-1) (-1) := by
  induction l with
  | nil => simp [psum]
  | cons p l ih =>
    simp only [List.all_cons, Bool.and_eq_true] at h
    have hp := okP_pay h.1
    have hi := ih h.2
    have hf : ind (fit3 p (-1) (-1) (-1)) = 1 := by simp [ind, fit3, fit1]
    rw [psum_cons, psum_cons, hf]
    have : ind (fit3 p a j s) = 0 ∨ ind (fit3 p a j s) = 1 := by unfold ind; split <;> simp
    rcases this with h0 | h0 <;> rw [h0] <;> omega
theorem w_PeoplePayBands (A : Option Addr) (n c : Nat) (hnc : n ≤ c) (hn : n ≤ maxLen) (w : World) (hb : Bytes w w.heap.size A n) :
    Calls Try.prog 10 #[.slice A n c] w fun e w' => e = .returned (.bool true) ∧ Below w.heap.size w w' := by
  have hn2 := hn
  unfold maxLen at hn2
  have hall : 1048576 < n ∨ ¬ 1048576 < n := by omega
  rcases hall with hbig | hbig
  · go_enter Try.func10, Try.ntmps10
    go_wp2
    go_ret
    exact ⟨rfl, Below.refl _ _⟩
  · go_enter Try.func10, Try.ntmps10
    go_wp2_with fail
    refine (drawPay_any A n c hnc hn _ hb).mono ?_
    rintro e W ⟨l, B, d, a, j, s, rfl, hrow, hl, hld, hd, hbd, a0, a1, j0, j1, s0, s1, hbW⟩
    have hlm : l.length ≤ maxLen := by omega
    have HBD := Lib.hid hbd; clear hbd
    have HBW := Lib.hid hbW; clear hbW
    go_wp2_with fail
    refine (pay_at W l _ rfl B d a j s hrow hlm _ (Below.refl _ _)).mono ?_
    rintro e w1 ⟨rfl, h1⟩
    go_wp2_with fail
    refine (sPay_at W l _ rfl B d a j s hrow hlm _ h1).mono ?_
    rintro e w2 ⟨rfl, h2⟩
    clear h1
    cases hok : askOk l a j s
    · rw [pay_neg hok]
      go_wp2
      go_ret
      exact ⟨rfl, HBW.out.trans (h2.mono HBW.out.size)⟩
    · rw [pay_pos hok]
      have hcb := cnt_bd l a j s
      have hps := psum_bd l a j s (okL_all (askOk_okL hok)).2
      have HOK := Lib.hid hok; clear hok
      have hal := (okL_all (askOk_okL HOK.out)).2
      have HAL := Lib.hid hal
      have hB := bsum_bd l hal
      have hP := psum_le_all l a j s hal
      have hPB := psum_bd l (-1) (-1) (-1) hal
      clear hal
      go_wp2
      go_loopw [9, 10] (fun x i wr => ∃ k : Nat, k ≤ l.length ∧ i = .int .i64 k ∧ x = .int .i64 (bsum (l.take k)) ∧ Below W.heap.size W wr) (fun _ i _ => l.length - (intOf i).toNat)
      case atStart => exact ⟨0, by omega, rfl, rfl, h2⟩
      case round =>
        obtain ⟨k, hk, rfl, rfl, h3⟩ := hrel
        clear h2
        have hb4 := bsum_bd (l.take k) (all_take HAL.out k)
        have hb5 := psum_bd (l.take k) (-1) (-1) (-1) (all_take HAL.out k)
        have htl : (l.take k).length ≤ k := List.length_take_le _ _
        by_cases hlt : k < l.length
        · have hpb := okP_pay (p := l[k]) (List.all_eq_true.1 HAL.out l[k] (List.getElem_mem hlt))
          obtain ⟨b, o, rfl, hbw, c0, c1, c2, c3⟩ := (hrow.below h3 (Nat.le_refl _)).at_ k hlt
          have HT := Lib.hid (bsum_take l k hlt)
          have hbc : 0 ≤ band l[k].pay ∧ band l[k].pay ≤ 9 := by rcases band_cases l[k].pay with h | h <;> omega
          go_wp2_with fail
          refine (band_any _ _).mono ?_
          rintro e w3 ⟨rfl, rfl⟩
          go_wp2
          go_roundw
          case rel => exact ⟨k + 1, by omega, by go_num, by rw [HT.out], h3⟩
          case measure => simp [intOf]; omega
        · obtain rfl : k = l.length := by omega
          have htk : l.take l.length = l := List.take_length
          rw [htk] at *
          clear htl hb4 hb5 htk
          go_wp2_with fail
          refine (pay_at W l _ rfl B d (-1) (-1) (-1) hrow hlm _ h3).mono ?_
          rintro e w3 ⟨rfl, h4⟩
          rw [pay_pos (askOk_code HOK.out (by decide))]
          by_cases h0 : 0 < l.length
          · have hne : ((l.length : Int) == 0) = false := by rw [beq_eq_false_iff_ne]; omega
            go_wp2
            go_ret
            exact ⟨rfl, HBW.out.trans (h4.mono HBW.out.size)⟩
          · obtain rfl : l = [] := List.eq_nil_of_length_eq_zero (by show l.length = 0; omega)
            go_wp2
            go_ret
            exact ⟨retb (by simp; try omega), HBW.out.trans (h4.mono HBW.out.size)⟩

end Go.Proofs.Ytoomcnlklkhjaaa
