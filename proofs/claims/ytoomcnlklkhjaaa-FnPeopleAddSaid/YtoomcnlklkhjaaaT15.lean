import Derived.Test.YtoomcnlklkhjaaaT13
import Derived.Test.YtoomcnlklkhjaaaApp
namespace Go.Proofs.Ytoomcnlklkhjaaa
open Go.RowKit
theorem askOk_app {x y : List Pn} {a j s : Int} (hx : okL x = true) (hy : okL y = true) (h3 : ask3 a j s = true) (hl : x.length + y.length ≤ 40) : askOk (x ++ y) a j s = true := by
  simp only [askOk, okL, Bool.and_eq_true, decide_eq_true_eq, List.all_append, List.length_append] at *
  exact ⟨⟨hl, hx.2, hy.2⟩, h3⟩
theorem okL_part {l l' : List Pn} (h : okL l = true) (hs : ∀ p ∈ l', p ∈ l) (hl : l'.length ≤ l.length) : okL l' = true := by
  simp only [okL, Bool.and_eq_true, decide_eq_true_eq, List.all_eq_true] at *
  exact ⟨by omega, fun p hp => h.2 p (hs p hp)⟩
theorem askOk_a3 {l : List Pn} {a j s : Int} (h : askOk l a j s = true) : ask3 a j s = true := by simp only [askOk, Bool.and_eq_true] at h; exact h.2
theorem w_PeopleTwice (A : Option Addr) (n c : Nat) (hnc : n ≤ c) (hn : n ≤ maxLen) (w : World) (hb : Bytes w w.heap.size A n) :
    Calls Try.prog 12 #[.slice A n c] w fun e w' => e = .returned (.bool true) ∧ Below w.heap.size w w' := by
  have hn2 := hn
  unfold maxLen at hn2
  have hall : 1048576 < n ∨ ¬ 1048576 < n := by omega
  rcases hall with hbig | hbig
  · go_enter Try.func12, Try.ntmps12
    go_wp2
    go_ret
    exact ⟨rfl, Below.refl _ _⟩
  · go_enter Try.func12, Try.ntmps12
    go_wp2_with fail
    refine (drawMany_any A n c hnc hn _ hb).mono ?_
    rintro e W ⟨l, B, d, a, j, s, rfl, hrow, hl, hld, hd, hbd, a0, a1, j0, j1, s0, s1, hbW⟩
    have hlm : l.length ≤ maxLen := by omega
    have HBD := Lib.hid hbd; clear hbd
    have HBW := Lib.hid hbW; clear hbW
    go_wp2_with fail
    refine (many_at W l _ rfl B d a j s hrow hlm _ (Below.refl _ _)).mono ?_
    rintro e w1 ⟨rfl, h1⟩
    go_wp2_with fail
    refine (sMany_at W l _ rfl B d a j s hrow hlm _ h1).mono ?_
    rintro e w2 ⟨rfl, h2⟩
    clear h1
    cases hok : askOk l a j s
    · rw [many_neg hok]
      go_wp2
      go_ret
      exact ⟨rfl, HBW.out.trans (h2.mono HBW.out.size)⟩
    · rw [many_pos hok]
      have hcb := cnt_bd l a j s
      have hps := psum_bd l a j s (okL_all (askOk_okL hok)).2
      have HOK := Lib.hid hok; clear hok
      have h3 := askOk_a3 HOK.out
      have hL := askOk_okL HOK.out
      have HK2 := Lib.hid (askOk_app hL hL h3 (by omega) : askOk (l ++ l) a j s = true)
      have HP := Lib.hid (pay_pos HOK.out)
      clear h3 hL
      go_wp2_with (first
        | (at_builtin
           refine app_people rfl (.tmp 40) (.tmp 41) rfl W.heap.size (.slice (some ⟨w2.heap.size, 0, none⟩) 0 0) [] rfl (own_new W w2 h2) W.heap.size B l.length d l rfl rfl ((hrow.below h2 (Nat.le_refl _)).below ((Below.refl _ _).alloc (Nat.le_refl _) _) h2.size) (by simp; omega) (by simp; have := h2.size; omega) ?_
           intro v3 w3 ho3 hg3
           have hb3 : Below W.heap.size W w3 := below_own (h2.alloc h2.size _) (own_new W w2 h2) hg3
           obtain ⟨A3, c3, rfl, hc3, hc3', hr3, hA3⟩ := ho3.form)
        | (at_builtin
           refine app_people rfl (.tmp 42) (.tmp 43) rfl W.heap.size _ ([] ++ l) rfl ho3 W.heap.size B l.length d l rfl rfl (hrow.below hb3 (Nat.le_refl _)) (by simp; omega) hb3.size ?_
           intro v4 w4 ho4 hg4
           have hb4 : Below W.heap.size W w4 := below_own hb3 ho3 hg4
           obtain ⟨A4, c4, rfl, hc4, hc4', hr4, hA4⟩ := ho4.form
           clear ho3 hg3 ho4 hg4 hr3 hA3 hA4 hb3 h2))
      have r4 : Row w4 w4.heap.size A4 (pcells (l ++ l)) := by simpa using hr4
      have ml : (l ++ l).length ≤ maxLen := by simp only [maxLen]; simp; omega
      clear hr4
      go_wp2_with fail
      refine (many_at w4 (l ++ l) _ (by simp) A4 c4 a j s r4 ml _ (Below.refl _ _)).mono ?_
      rintro e w5 ⟨rfl, h5⟩
      rw [many_pos HK2.out, cnt_app]
      go_wp2_with fail
      refine (pay_at w4 (l ++ l) _ (by simp) A4 c4 a j s r4 ml _ h5).mono ?_
      rintro e w6 ⟨rfl, h6⟩
      rw [pay_pos HK2.out, psum_app]
      go_wp2_with fail
      refine (pay_at W l _ rfl B d a j s hrow hlm _ (hb4.trans (h6.mono hb4.size))).mono ?_
      rintro e w7 ⟨rfl, h7⟩
      rw [HP.out]
      go_wp2
      go_ret
      exact ⟨retb (by simp; try omega), HBW.out.trans (h7.mono HBW.out.size)⟩

set_option maxHeartbeats 4000000 in
theorem w_PeopleOrder (A : Option Addr) (n c : Nat) (hnc : n ≤ c) (hn : n ≤ maxLen) (A2 : Option Addr) (m c2 : Nat) (_hmc : m ≤ c2) (hm : m ≤ maxLen) (w : World) (hb : Bytes w w.heap.size A n) (_hb2 : Bytes w w.heap.size A2 m) :
    Calls Try.prog 8 #[.slice A n c, .slice A2 m c2] w fun e w' => e = .returned (.bool true) ∧ Below w.heap.size w w' := by
  have hn2 := hn
  have hm2 := hm
  unfold maxLen at hn2 hm2
  have hall : 1048576 < n ∨ (¬ 1048576 < n ∧ 1048576 < m) ∨ ¬ 1048576 < n ∧ ¬ 1048576 < m := by omega
  rcases hall with hbig | ⟨hbig, hbig2⟩ | ⟨hbig, hbig2⟩
  · go_enter Try.func8, Try.ntmps8
    go_wp2
    go_ret
    exact ⟨rfl, Below.refl _ _⟩
  · go_enter Try.func8, Try.ntmps8
    go_wp2
    go_ret
    exact ⟨rfl, Below.refl _ _⟩
  · go_enter Try.func8, Try.ntmps8
    go_wp2_with fail
    refine (drawMany_any A n c hnc hn _ hb).mono ?_
    rintro e W ⟨l, B, d, a, j, s, rfl, hrow, hl, hld, hd, hbd, a0, a1, j0, j1, s0, s1, hbW⟩
    have hlm : l.length ≤ maxLen := by omega
    have HBD := Lib.hid hbd; clear hbd
    have HBW := Lib.hid hbW; clear hbW
    go_wp2_with fail
    refine (many_at W l _ rfl B d a j s hrow hlm _ (Below.refl _ _)).mono ?_
    rintro e w1 ⟨rfl, h1⟩
    go_wp2_with fail
    refine (sMany_at W l _ rfl B d a j s hrow hlm _ h1).mono ?_
    rintro e w2 ⟨rfl, h2⟩
    clear h1
    cases hok : askOk l a j s
    · rw [many_neg hok]
      go_wp2
      go_ret
      exact ⟨rfl, HBW.out.trans (h2.mono HBW.out.size)⟩
    · rw [many_pos hok]
      have hcb := cnt_bd l a j s
      have hps := psum_bd l a j s (okL_all (askOk_okL hok)).2
      have HOK := Lib.hid hok; clear hok
      obtain ⟨k, hk, hkl⟩ := mod_cut m l.length
      have HK := Lib.hid hk; clear hk
      go_wp2_with fail
      rw [HK.out]
      have hkd : k ≤ d := by omega
      have hkd2 : (k : Int) ≤ (d : Int) := by omega
      have hkl2 : (k : Int) ≤ (l.length : Int) := by omega
      have r1 := hrow.front (k := k)
      obtain ⟨B2, hsl, hB2⟩ := slice_tail B l.length d k hkl hld
      have r2 := hB2 W _ l rfl hrow
      clear hB2
      have n1 : k = (l.take k).length := by simp; omega
      have n2 : l.length - k = (l.drop k).length := by simp
      have N1 := Lib.hid n1; have N2 := Lib.hid n2; clear n1 n2
      have o0 : Own ((w2.alloc (.cells #[] TP)).drew) W.heap.size (.slice (some ⟨w2.heap.size, 0, none⟩) 0 0) [] := own_new W w2 h2
      have b0 : Below W.heap.size W ((w2.alloc (.cells #[] TP)).drew) := (h2.alloc h2.size _).drew
      go_region_law (first
        | (refine step_people rfl (.tmp 54) (.tmp 57) rfl W.heap.size (.slice (some ⟨w2.heap.size, 0, none⟩) 0 0) [] rfl o0 W.heap.size B2 (l.length - k) (d - k) (l.drop k) N2.out rfl (r2.below b0 (Nat.le_refl _)) (by simp; omega) b0.size ?_
           intro v3 w3 ho3 hg3
           have hb3 : Below W.heap.size W w3 := below_own b0 o0 hg3
           obtain ⟨A3, c3, rfl, hc3, hc3', hr3, hA3⟩ := ho3.form)
        | (refine step_people rfl (.tmp 58) (.tmp 61) rfl W.heap.size (.slice A3 ([] ++ l.drop k).length c3) ([] ++ l.drop k) (by simp [Act.eval]) ho3 W.heap.size B k d (l.take k) N1.out rfl (r1.below hb3 (Nat.le_refl _)) (by simp; omega) hb3.size ?_
           intro v4 w4 ho4 hg4
           have hb4 : Below W.heap.size W w4 := below_own hb3 ho3 hg4
           obtain ⟨A4, c4, rfl, hc4, hc4', hr4, hA4⟩ := ho4.form
           clear ho3 hg3 ho4 hg4 hr3 hA3 hA4 hb3))
      have hA1 := askOk_a3 HOK.out
      have okA := okL_part (askOk_okL HOK.out) (l' := l.drop k) (fun p hp => List.mem_of_mem_drop hp) (by simp)
      have okB := okL_part (askOk_okL HOK.out) (l' := l.take k) (fun p hp => List.mem_of_mem_take hp) (by simp; omega)
      have HY := Lib.hid (askOk_app okA okB hA1 (by simp; omega) : askOk (l.drop k ++ l.take k) a j s = true)
      have HC := Lib.hid (show cnt (l.drop k ++ l.take k) a j s = cnt l a j s by rw [cnt_app, Int.add_comm, ← cnt_app, List.take_append_drop])
      have HS := Lib.hid (show psum (l.drop k ++ l.take k) a j s = psum l a j s by rw [psum_app, Int.add_comm, ← psum_app, List.take_append_drop])
      have HP := Lib.hid (pay_pos HOK.out)
      clear okA okB hA1
      have r4 : Row w4 w4.heap.size A4 (pcells (l.drop k ++ l.take k)) := by simpa using hr4
      have ml : (l.drop k ++ l.take k).length ≤ maxLen := by simp only [maxLen]; simp; omega
      have hyl : l.length = (l.drop k ++ l.take k).length := by simp; omega
      have HYL := Lib.hid hyl; clear hyl hr4
      go_wp2_with fail
      refine (many_at w4 (l.drop k ++ l.take k) _ HYL.out A4 c4 a j s r4 ml _ (Below.refl _ _)).mono ?_
      rintro e w5 ⟨rfl, h5⟩
      rw [many_pos HY.out, HC.out]
      go_wp2_with fail
      refine (pay_at w4 (l.drop k ++ l.take k) _ HYL.out A4 c4 a j s r4 ml _ h5).mono ?_
      rintro e w6 ⟨rfl, h6⟩
      rw [pay_pos HY.out, HS.out]
      go_wp2_with fail
      refine (pay_at W l _ rfl B d a j s hrow hlm _ (hb4.trans (h6.mono hb4.size))).mono ?_
      rintro e w7 ⟨rfl, h7⟩
      rw [HP.out]
      go_wp2
      go_ret
      exact ⟨retb (by simp), HBW.out.trans (h7.mono HBW.out.size)⟩
end Go.Proofs.Ytoomcnlklkhjaaa
