import Derived.Test.YtcfcimfhpbjjnaaS5
namespace Go.Proofs.Ytcfcimfhpbjjnaa
open Go.RowKit
theorem app_people_w {ops : Array Oper} {rest : List Oper} {o : Oper} {a : Act} {w : World} {Q : Exit → Act → World → Prop} (hw : Region.wanted o (yielded ops a.tmps) = true) (s x : Operand)
    (ho : o.op = .call { callee := .builtin .append, args := #[s, x], argTypes := #[TPS, TPS] }) (base : Nat) (v : Value) (l : List Pn) (hs : a.eval s = v) (hown : Own w base v l)
    (Bd : Nat) (B : Option Addr) (m d : Nat) (l2 : List Pn) (hm : m = l2.length) (hx : a.eval x = .slice B m d) (hr : Row w Bd B (pcells l2)) (hlen : l.length + l2.length ≤ 1000000) (hbase : base ≤ w.heap.size)
    (h : ∀ v' w', Own w' base v' (l ++ l2) → w.grownBy w' v.ownBlock → wpList Try.prog ops Q rest (a.put o.dst v') w') : wpList Try.prog ops Q (o :: rest) a w :=
  BigFrame.wpList_want hw fun _ hK => wp_append_people s x ho base v l hs hown Bd B m d l2 hm hx hr hlen hbase fun v' w' h2 h3 => hK _ _ (h v' w' h2 h3)
/-- People somewhere in new memory. -/
def DrawnV (w : World) (e : Ending) (w' : World) : Prop :=
  ∃ l A c, e = .returned (.slice A l.length c) ∧ Row w' w'.heap.size A (pcells l) ∧ l.length ≤ 41 ∧ l.length ≤ c ∧ c ≤ maxLen ∧ Below w.heap.size w w'
theorem drawV_end {w w3 : World} {v : Value} {l : List Pn} (hb : Below w.heap.size w w3) (ho : Own w3 w.heap.size v l) (hl : l.length ≤ 41) : DrawnV w (.returned v) w3 := by
  obtain ⟨A, c, rfl, h1, h2, _, _⟩ := ho.form
  exact ⟨l, A, c, rfl, ho.row, hl, h1, h2, hb⟩
set_option maxHeartbeats 4000000 in
theorem drawValid_any (A : Option Addr) (n c : Nat) (hnc : n ≤ c) (hn : n ≤ maxLen) (w : World) (hb : Bytes w w.heap.size A n) :
    Calls Try.prog 17 #[.slice A n c] w (DrawnV w) := by
  go_enter Try.func17, Try.ntmps17
  go_wp2_with fail
  refine (l6Open_any A n c hnc hn _ hb).mono ?_
  rintro e w1 ⟨rfl, ⟨n', c', hr⟩, hb1⟩
  have hr1 : RdN w1 w.heap.size 0 := ⟨_, _, _, _, hr, Nat.le_refl _⟩
  clear hr hb
  have hR := hr1.lt
  have HB1 := Lib.hid hb1; clear hb1
  go_wp2_with fail
  refine (people_any 6 (by omega) w.heap.size 0 (by omega) _ hr1).mono ?_
  rintro e w2 ⟨l, v, rfl, ho2, hl, hbd, hr2, hg2⟩
  clear hbd
  have hb2 : Below w.heap.size w w2 := HB1.out.trans (grown_old hg2 (Nat.le_refl _) (by omega))
  have HB2 := Lib.hid hb2; clear hb2 HB1
  obtain ⟨A2, c2, rfl, hc1, hc2, _, _⟩ := ho2.form
  have HO := Lib.hid ho2
  clear ho2 hg2 hr1
  have hR2 := hr2.lt
  obtain ⟨q, hq, hr2⟩ : ∃ q, q < 1000 ∧ RdN w2 w.heap.size q := ⟨_, by omega, hr2⟩
  by_cases h3 : 3 < l.length
  · have h3' : (3 : Int) < (l.length : Int) := by omega
    go_wp2_with fail
    refine (pick_any 10 (by omega) (by omega) w.heap.size q (by omega) _ hr2).mono ?_
    rintro e w3 ⟨x, rfl, x0, x1, hr3, hg3⟩
    have HB3 := Lib.hid (show Below w.heap.size w w3 from HB2.out.trans (grown_old hg3 (Nat.le_refl _) HB2.out.size))
    have HO3 := Lib.hid ((HO.out.kept hg3 hR).less (show w.heap.size ≤ w1.heap.size by omega))
    clear hg3 hr3 hr2 HO HB2 hR2 hR
    by_cases hx : x = 0
    · subst hx
      go_wp2
      go_loopg [4] (41 - l.length) (fun n v wr => ∃ m v', v' = v ∧ m.length + n = 41 ∧ 3 < m.length ∧ Own wr w.heap.size v' m ∧ Below w.heap.size w wr)
      case atStart => exact ⟨l, _, rfl, by omega, h3, HO3.out, HB3.out⟩
      case round =>
        obtain ⟨m, v, rfl, hm, hm3, ho, hb⟩ := hrel
        have HM := Lib.hid hm; clear hm
        have HO := Lib.hid ho
        have HB := Lib.hid hb
        have hz := hb.size
        obtain ⟨A4, c4, rfl, hd1, hd2, hrow, _⟩ := ho.form
        clear ho hb HO3 HB3
        by_cases hlt : m.length ≤ 40
        · have hlt' : (m.length : Int) ≤ 40 := by omega
          have h1m : 1 < m.length := by omega
          have h1m' : (1 : Int) < (m.length : Int) := by omega
          obtain ⟨b, o, rfl, _, f0, f1, f2, f3⟩ := hrow.at_ 1 h1m
          rw [Nat.one_mul] at f0 f1 f2 f3
          clear hrow
          go_wp2_with (at_builtin
                       refine app_people rfl (.tmp 20) (.tmp 24) rfl w.heap.size (.slice (some ⟨b, o, none⟩) m.length c4) m rfl (HO.out.alloc _) (wr.heap.size + 1) (some ⟨wr.heap.size, 0, none⟩) 1 1 [m[1]] rfl rfl (row_new _ _ _) (by simp; omega) (by simp; omega) ?_
                       intro v2 w2 ho2 hg2
                       have hb2 : Below w.heap.size w w2 := below_own (HB.out.alloc hz _) (HO.out.alloc _) hg2
                       have HO2 := Lib.hid ho2
                       clear ho2 hg2 f0 f1 f2 f3)
          go_roundg (41 - (m.length + 1))
          case measure => have := HM.out; omega
          case rel => exact ⟨m ++ [m[1]], v2, rfl, by simp; omega, by simp; omega, HO2.out, hb2⟩
        · have hlt' : ¬ (m.length : Int) ≤ 40 := by omega
          go_wp2
          go_ret
          exact drawV_end HB.out HO.out (by have := HM.out; omega)
    · have hx' : (x == 0) = false := by rw [beq_eq_false_iff_ne]; exact hx
      go_wp2
      go_ret
      exact drawV_end HB3.out HO3.out (by omega)
  · have h3' : ¬ (3 : Int) < (l.length : Int) := by omega
    go_wp2
    go_ret
    exact drawV_end HB2.out (HO.out.less (show w.heap.size ≤ w1.heap.size by omega)) (by omega)
theorem valid_at (l : List Pn) (n : Nat) (hn : n = l.length) (A : Option Addr) (c : Nat) (w : World) (hr : Row w w.heap.size A (pcells l)) (hl : l.length ≤ maxLen) (t : Bool) (ht : okL l = t) :
    Calls Try.prog 18 #[.slice A n c] w fun e w' => e = .returned (.bool t) ∧ Below w.heap.size w w' := by
  subst hn ht; exact valid_any l A c w hr hl
theorem okL_part {l l' : List Pn} (h : okL l = true) (hs : ∀ p ∈ l', p ∈ l) (hl : l'.length ≤ l.length) : okL l' = true := by
  simp only [okL, Bool.and_eq_true, decide_eq_true_eq, List.all_eq_true] at *
  exact ⟨by omega, fun p hp => h.2 p (hs p hp)⟩
theorem okL_twice {l : List Pn} (h : okL l = true) : okL (l ++ l) = decide (2 * (l.length : Int) ≤ 40) := by
  have h2 := (okL_all h).2
  have h3 : (l.length + l.length ≤ 40) ↔ (2 * (l.length : Int) ≤ 40) := by omega
  simp only [okL, List.all_append, h2, List.length_append, Bool.and_true, h3]
set_option maxHeartbeats 4000000 in
theorem w_People (A : Option Addr) (n c : Nat) (hnc : n ≤ c) (hn : n ≤ maxLen) (A2 : Option Addr) (m c2 : Nat) (_hmc : m ≤ c2) (hm : m ≤ maxLen) (w : World) (hb : Bytes w w.heap.size A n) (_hb2 : Bytes w w.heap.size A2 m) :
    Calls Try.prog 4 #[.slice A n c, .slice A2 m c2] w fun e w' => e = .returned (.bool true) ∧ Below w.heap.size w w' := by
  have hn2 := hn
  have hm2 := hm
  unfold maxLen at hn2 hm2
  by_cases hbig : 1048576 < n
  · go_enter Try.func4, Try.ntmps4
    go_wp2
    go_ret
    exact ⟨rfl, Below.refl _ _⟩
  · by_cases hbig2 : 1048576 < m
    · go_enter Try.func4, Try.ntmps4
      go_wp2
      go_ret
      exact ⟨rfl, Below.refl _ _⟩
    · go_enter Try.func4, Try.ntmps4
      go_wp2_with fail
      refine (drawValid_any A n c hnc hn _ hb).mono ?_
      rintro e W ⟨l, B, d, rfl, hrow, hl, hld, hd, hbW⟩
      have hlm : l.length ≤ maxLen := by omega
      have HBW := Lib.hid hbW; clear hbW hb _hb2
      go_wp2_with fail
      refine (valid_any l B d _ hrow hlm).mono ?_
      rintro e w1 ⟨rfl, hb1⟩
      go_wp2_with fail
      refine (sValid_any l B d _ (hrow.moved hb1) hlm).mono ?_
      rintro e w2 ⟨rfl, hb2⟩
      have hrow2 := (hrow.moved hb1).moved hb2
      have HB2 := Lib.hid (bth HBW.out (bth hb1 hb2))
      clear hrow hb1 hb2 HBW
      cases hok : okL l
      · go_wp2
        go_ret
        exact ⟨rfl, HB2.out⟩
      · obtain ⟨k, hk, hkl⟩ := mod_cut m l.length
        have hl40 := (okL_all hok).1
        have okA := Lib.hid (okL_part hok (l' := l.take k) (fun p hp => List.mem_of_mem_take hp) (by simp; omega))
        have okB := Lib.hid (okL_part hok (l' := l.drop k) (fun p hp => List.mem_of_mem_drop hp) (by simp))
        have HT := Lib.hid (okL_twice hok); clear hok
        have hkd : k ≤ d := by omega
        have hkd2 : (k : Int) ≤ (d : Int) := by omega
        have hkl2 : (k : Int) ≤ (l.length : Int) := by omega
        have q1 := Lib.hid (show k = (l.take k).length by simp; omega)
        have q2 := Lib.hid (show l.length - k = (l.drop k).length by simp)
        have r1 := hrow2.front (k := k)
        obtain ⟨B2, hsl, hB2⟩ := slice_tail B l.length d k hkl hld
        have r2 := hB2 w2 _ l rfl hrow2
        clear hB2
        have m1 : (l.take k).length ≤ maxLen := by have := List.length_take_le k l; omega
        have m2 : (l.drop k).length ≤ maxLen := by simp; omega
        go_wp2_with fail
        rw [hk]
        clear hk
        refine (valid_at (l.take k) k q1.out B d _ r1 m1 true okA.out).mono ?_
        rintro e w3 ⟨rfl, hb3⟩
        go_wp2_with fail
        refine (valid_at (l.drop k) (l.length - k) q2.out B2 (d - k) _ (r2.moved hb3) m2 true okB.out).mono ?_
        rintro e w4 ⟨rfl, hb4⟩
        have hrow4 := (hrow2.moved hb3).moved hb4
        have HB4 := Lib.hid (bth HB2.out (bth hb3 hb4))
        clear hb3 hb4 r1 r2 hrow2 HB2 hsl
        go_wp2_with (first
          | (at_builtin
             refine app_people_w rfl (.tmp 50) (.tmp 51) rfl w4.heap.size (.slice (some ⟨w4.heap.size, 0, none⟩) 0 0) [] rfl (own_new w4 w4 (Below.refl _ _)) w4.heap.size B l.length d l rfl rfl (hrow4.below ((Below.refl _ _).alloc (Nat.le_refl _) _) (Nat.le_refl _)) (by simp; omega) (by simp) ?_
             intro v5 w5 ho5 hg5
             have hb5 : Below w4.heap.size w4 w5 := below_own ((Below.refl _ _).alloc (Nat.le_refl _) _) (own_new w4 w4 (Below.refl _ _)) hg5)
          | (at_builtin
             refine app_people_w rfl (.tmp 52) (.tmp 53) rfl w4.heap.size v5 ([] ++ l) rfl ho5 w4.heap.size B l.length d l rfl rfl (hrow4.below hb5 (Nat.le_refl _)) (by simp; omega) hb5.size ?_
             intro v6 w6 ho6 hg6
             have hb6 : Below w4.heap.size w4 w6 := below_own hb5 ho5 hg6
             obtain ⟨A6, c6, rfl, _, _, hr6, _⟩ := ho6.form
             clear ho5 hg5 ho6 hg6 hb5))
        have ml : ([] ++ l ++ l).length ≤ maxLen := by simp only [maxLen]; simp; omega
        refine (valid_at ([] ++ l ++ l) _ (by simp) A6 c6 _ hr6 ml _ HT.out).mono ?_
        rintro e w7 ⟨rfl, hb7⟩
        go_wp2
        go_ret
        exact ⟨retb (by simp), bth HB4.out (hb6.trans (hb7.mono hb6.size))⟩
end Go.Proofs.Ytcfcimfhpbjjnaa
