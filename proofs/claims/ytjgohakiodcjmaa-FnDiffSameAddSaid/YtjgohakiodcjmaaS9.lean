import Derived.Test.YtjgohakiodcjmaaS5
set_option maxRecDepth 100000
namespace Go.Proofs.Ytjgohakiodcjmaa
open Go.RowKit
theorem app_people_w {ops : Array Oper} {rest : List Oper} {o : Oper} {a : Act} {w : World} {Q : Exit → Act → World → Prop} (hw : Region.wanted o (yielded ops a.tmps) = true) (s x : Operand)
    (ho : o.op = .call { callee := .builtin .append, args := #[s, x], argTypes := #[TPS, TPS] }) (base : Nat) (v : Value) (l : List Pn) (hs : a.eval s = v) (hown : Own w base v l)
    (Bd : Nat) (B : Option Addr) (m d : Nat) (l2 : List Pn) (hm : m = l2.length) (hx : a.eval x = .slice B m d) (hr : Row w Bd B (pcells l2)) (hlen : l.length + l2.length ≤ 1000000) (hbase : base ≤ w.heap.size)
    (h : ∀ v' w', Own w' base v' (l ++ l2) → w.grownBy w' v.ownBlock → wpList Try.prog ops Q rest (a.put o.dst v') w') : wpList Try.prog ops Q (o :: rest) a w :=
  BigFrame.wpList_want hw fun _ hK => wp_append_people s x ho base v l hs hown Bd B m d l2 hm hx hr hlen hbase fun v' w' h2 h3 => hK _ _ (h v' w' h2 h3)
/-- People somewhere in new memory. -/
def DrawnV (w : World) (e : Ending) (w' : World) : Prop :=
  ∃ l A c, e = .returned (.slice A l.length c) ∧ Row w' w'.heap.size A (pcells l) ∧ l.length ≤ 41 ∧ l.length ≤ c ∧ c ≤ maxLen ∧ Below w.heap.size w w'
theorem drawV_end {w w3 : World} {v : Value} {l : List Pn} (hb : Below w.heap.size w w3) (ho : Own w3 w.heap.size v l) (hl : l.length ≤ 41) : DrawnV w (.returned v) w3 := by
  obtain ⟨A, c, rfl, h1, h2, _, _⟩ := ho.form
  exact ⟨l, A, c, rfl, ho.row, hl, h1, h2, hb⟩
set_option maxHeartbeats 4000000 in
theorem drawValid_any (A : Option Addr) (n c : Nat) (hnc : n ≤ c) (hn : n ≤ maxLen) (w : World) (hb : Bytes w w.heap.size A n) :
    Calls Try.prog 29 #[.slice A n c] w (DrawnV w) := by
  go_enter Try.func29, Try.ntmps29
  go_wp2_with fail
  refine (l6Open_any A n c hnc hn _ hb).mono ?_
  rintro e w1 ⟨rfl, ⟨n', c', hr⟩, hb1⟩
  have hr1 : RdN w1 w.heap.size 0 := ⟨_, _, _, _, hr, Nat.le_refl _⟩
  clear hr hb
  have hR := hr1.lt
  have HB1 := Lib.hid hb1; clear hb1
  go_wp2_with fail
  refine (people_any 6 (by omega) w.heap.size 0 (by omega) _ hr1).mono ?_
  rintro e w2 ⟨l, v, rfl, ho2, hl, hbd, hr2, hg2⟩
  clear hbd
  have hb2 : Below w.heap.size w w2 := HB1.out.trans (grown_old hg2 (Nat.le_refl _) (by omega))
  have HB2 := Lib.hid hb2; clear hb2 HB1
  obtain ⟨A2, c2, rfl, hc1, hc2, _, _⟩ := ho2.form
  have HO := Lib.hid ho2
  clear ho2 hg2 hr1
  have hR2 := hr2.lt
  obtain ⟨q, hq, hr2⟩ : ∃ q, q < 1000 ∧ RdN w2 w.heap.size q := ⟨_, by omega, hr2⟩
  by_cases h3 : 3 < l.length
  · have h3' : (3 : Int) < (l.length : Int) := by omega
    go_wp2_with fail
    refine (pick_any 10 (by omega) (by omega) w.heap.size q (by omega) _ hr2).mono ?_
    rintro e w3 ⟨x, rfl, x0, x1, hr3, hg3⟩
    have HB3 := Lib.hid (show Below w.heap.size w w3 from HB2.out.trans (grown_old hg3 (Nat.le_refl _) HB2.out.size))
    have HO3 := Lib.hid ((HO.out.kept hg3 hR).less (show w.heap.size ≤ w1.heap.size by omega))
    clear hg3 hr3 hr2 HO HB2 hR2 hR
    by_cases hx : x = 0
    · subst hx
      go_wp2
      go_loopg [4] (41 - l.length) (fun n v wr => ∃ m v', v' = v ∧ m.length + n = 41 ∧ 3 < m.length ∧ Own wr w.heap.size v' m ∧ Below w.heap.size w wr)
      case atStart => exact ⟨l, _, rfl, by omega, h3, HO3.out, HB3.out⟩
      case round =>
        obtain ⟨m, v, rfl, hm, hm3, ho, hb⟩ := hrel
        have HM := Lib.hid hm; clear hm
        have HO := Lib.hid ho
        have HB := Lib.hid hb
        have hz := hb.size
        obtain ⟨A4, c4, rfl, hd1, hd2, hrow, _⟩ := ho.form
        clear ho hb HO3 HB3
        by_cases hlt : m.length ≤ 40
        · have hlt' : (m.length : Int) ≤ 40 := by omega
          have h1m : 1 < m.length := by omega
          have h1m' : (1 : Int) < (m.length : Int) := by omega
          obtain ⟨b, o, rfl, _, f0, f1, f2, f3⟩ := hrow.at_ 1 h1m
          rw [Nat.one_mul] at f0 f1 f2 f3
          clear hrow
          go_wp2_with (at_builtin
                       refine app_people rfl (.tmp 20) (.tmp 24) rfl w.heap.size (.slice (some ⟨b, o, none⟩) m.length c4) m rfl (HO.out.alloc _) (wr.heap.size + 1) (some ⟨wr.heap.size, 0, none⟩) 1 1 [m[1]] rfl rfl (row_new _ _ _) (by simp; omega) (by simp; omega) ?_
                       intro v2 w2 ho2 hg2
                       have hb2 : Below w.heap.size w w2 := below_own (HB.out.alloc hz _) (HO.out.alloc _) hg2
                       have HO2 := Lib.hid ho2
                       clear ho2 hg2 f0 f1 f2 f3)
          go_roundg (41 - (m.length + 1))
          case measure => have := HM.out; omega
          case rel => exact ⟨m ++ [m[1]], v2, rfl, by simp; omega, by simp; omega, HO2.out, hb2⟩
        · have hlt' : ¬ (m.length : Int) ≤ 40 := by omega
          go_wp2
          go_ret
          exact drawV_end HB.out HO.out (by have := HM.out; omega)
    · have hx' : (x == 0) = false := by rw [beq_eq_false_iff_ne]; exact hx
      go_wp2
      go_ret
      exact drawV_end HB3.out HO3.out (by omega)
  · have h3' : ¬ (3 : Int) < (l.length : Int) := by omega
    go_wp2
    go_ret
    exact drawV_end HB2.out (HO.out.less (show w.heap.size ≤ w1.heap.size by omega)) (by omega)
theorem valid_at (l : List Pn) (n : Nat) (hn : n = l.length) (A : Option Addr) (c : Nat) (w : World) (hr : Row w w.heap.size A (pcells l)) (hl : l.length ≤ maxLen) (t : Bool) (ht : okL l = t) :
    Calls Try.prog 30 #[.slice A n c] w fun e w' => e = .returned (.bool t) ∧ Below w.heap.size w w' := by
  subst hn ht; exact valid_any l A c w hr hl
theorem okL_part {l l' : List Pn} (h : okL l = true) (hs : ∀ p ∈ l', p ∈ l) (hl : l'.length ≤ l.length) : okL l' = true := by
  simp only [okL, Bool.and_eq_true, decide_eq_true_eq, List.all_eq_true] at *
  exact ⟨by omega, fun p hp => h.2 p (hs p hp)⟩
theorem okL_twice {l : List Pn} (h : okL l = true) : okL (l ++ l) = decide (2 * (l.length : Int) ≤ 40) := by
  have h2 := (okL_all h).2
  have h3 : (l.length + l.length ≤ 40) ↔ (2 * (l.length : Int) ≤ 40) := by omega
  simp only [okL, List.all_append, h2, List.length_append, Bool.and_true, h3]
end Go.Proofs.Ytjgohakiodcjmaa
