import Derived.Test.YtjgohakiodcjmaaS1
set_option maxRecDepth 100000
namespace Go.Proofs.Ytjgohakiodcjmaa
open Go.RowKit
/-- A list that is the caller's own, and whether it was told. -/
def Outed (m : List Pn) (t : Bool) (w : World) (e : Ending) (w' : World) : Prop := ∃ v, e = .returned (.tuple #[v, .bool t]) ∧ Own w' w.heap.size v m ∧ Below w.heap.size w w'
def less1 (l : List Pn) (k : Nat) : List Pn := l.take k ++ l.drop (k + 1)
theorem without_yes (l : List Pn) (A : Option Addr) (c k : Nat) (hk : k < l.length) (w : World) (hr : Row w w.heap.size A (pcells l)) (hok : okL l = true) :
    Calls Try.prog 19 #[.slice A l.length c, .int .i64 k] w (Outed (less1 l k) true w) := by
  have hl40 := (okL_all hok).1
  have hm : l.length ≤ maxLen := by simp only [maxLen]; omega
  have hki : (k : Int) < (l.length : Int) := by omega
  go_enter Try.func19, Try.ntmps19
  go_wp2_with fail
  refine (valid_any l A c _ hr hm).mono ?_
  rintro e w1 ⟨rfl, h1⟩
  rw [hok]
  go_wp2_with fail
  refine (link_any l A c _ ((hr.below h1 (Nat.le_refl _)).more h1.size) hl40).mono ?_
  rintro e w2 ⟨rfl, ⟨q, y, hn, hc⟩, h2⟩
  have hz1 := h1.size
  have H12 := Lib.hid (h1.trans (h2.mono hz1))
  have HN := Lib.hid hn
  have HC := Lib.hid hc
  have hh2 := hn.lt
  clear h1 h2 hn hc hr hok
  generalize w1.heap.size = h at *
  go_wp2
  go_loopw [7, 26] (fun v i wr => ∃ j : Nat, ∃ m q x, j ≤ k ∧ i = .int .i64 j ∧ v = .pointer (some ⟨m, 0, none⟩) ∧ w2 = wr ∧ Path TL w2 h (l.take j) m ∧ Nd TL w2 m q x ∧ Chain TL w2 (m + 1) x (l.drop j)) (fun _ i _ => k - (intOf i).toNat)
  case atStart => exact ⟨0, h, q, y, Nat.zero_le _, rfl, rfl, rfl, rfl, HN.out, HC.out⟩
  case round =>
    obtain ⟨j, m, q, x, hj, rfl, rfl, rfl, hp, hn, hc⟩ := hrel
    have hjl : j < l.length := by omega
    rw [List.drop_eq_getElem_cons hjl] at hc
    obtain ⟨b, x', hbm, rfl, hnb, hc⟩ := hc
    obtain ⟨u', rfl⟩ := hc.ptr
    obtain ⟨_, _, _, _, n4, n5⟩ := hn.cells
    have HP := Lib.hid hp
    have HM := Lib.hid hn
    have HB := Lib.hid hnb
    have HD := Lib.hid hc
    have hpm := hp.le
    clear HN HC hp hn hnb hc
    by_cases hlt : j < k
    · go_wp2
      go_roundw
      case rel =>
        refine ⟨j + 1, b, l[j], _, by omega, by go_num, by first | rfl | trivial, by first | rfl | trivial, ?_, HB.out, HD.out⟩
        rw [List.take_succ_eq_append_getElem hjl]
        exact HP.out.snoc (by omega) HM.out HB.out
      case measure => simp [intOf]; omega
    · obtain rfl : j = k := by omega
      go_wp2_with fail
      refine (cut_any m b q l[j] u' _ HM.out HB.out).mono ?_
      rintro e w' ⟨rfl, rfl⟩
      have hc3 : Chain TL (w2.setCell ⟨m, 4, none⟩ (.pointer u')) (m + 1) (.pointer u') (l.drop (j + 1)) :=
        (HD.out.keep (w' := w2.setCell ⟨m, 4, none⟩ (.pointer u')) fun b' hb' _ => Below.heap_setCell w2 ⟨m, 4, none⟩ _ b' (by show b' ≠ m; omega)).less (by omega)
      obtain ⟨q', y', hn', hc'⟩ := (HP.out.set_ (.pointer u')).chain (HM.out.set_ (.pointer u')) hc3
      have H3 := Lib.hid (H12.out.setCell (p := ⟨m, 4, none⟩) (show w.heap.size ≤ m by omega) (.pointer u'))
      clear hc3 HP HM HB HD
      go_wp2_with fail
      refine (unlink_any _ (by simp; omega) h q' y' _ hn' hc').mono ?_
      rintro e w4 ⟨v, rfl, ho4, h4⟩
      have H4 := Lib.hid (show Below w.heap.size w w4 from H3.out.trans (h4.mono H3.out.size))
      have HO := Lib.hid (ho4.less H3.out.size)
      clear ho4 h4 hn' hc'
      go_wp2
      go_ret2
      exact ⟨v, rfl, HO.out, H4.out⟩
theorem without_no (l : List Pn) (A : Option Addr) (c : Nat) (k : Int) (w : World) (hr : Row w w.heap.size A (pcells l)) (hl : l.length ≤ maxLen) (h : okL l = false ∨ k < 0 ∨ (l.length : Int) ≤ k) :
    Calls Try.prog 19 #[.slice A l.length c, .int .i64 k] w (Outed [] false w) := by
  have h3 : okL l = false ∨ (okL l = true ∧ k < 0) ∨ (okL l = true ∧ ¬ k < 0 ∧ (l.length : Int) ≤ k) := by
    cases hok : okL l
    · exact .inl rfl
    · right
      rcases h with h | h | h
      · rw [hok] at h; cases h
      · exact .inl ⟨rfl, h⟩
      · exact .inr ⟨rfl, by omega, h⟩
  have hl2 := hl
  unfold maxLen at hl2
  clear h
  go_enter Try.func19, Try.ntmps19
  go_wp2_with fail
  refine (valid_any l A c _ hr hl).mono ?_
  rintro e w1 ⟨rfl, h1⟩
  rcases h3 with hok | ⟨hok, h⟩ | ⟨hok, h, h'⟩
  all_goals
    rw [hok]
    clear hok
    go_wp2
    go_ret2
    exact ⟨_, rfl, own_new w w1 h1, h1.alloc h1.size _⟩
theorem sWithout_no (l : List Pn) (A : Option Addr) (c : Nat) (k : Int) (w : World) (hr : Row w w.heap.size A (pcells l)) (hl : l.length ≤ maxLen) (h : okL l = false ∨ k < 0 ∨ (l.length : Int) ≤ k) :
    Calls Try.prog 20 #[.slice A l.length c, .int .i64 k] w (Outed [] false w) := by
  have hl2 := hl
  unfold maxLen at hl2
  cases hok : okL l
  · go_enter Try.func20, Try.ntmps20
    go_wp2_with fail
    refine (sValid_any l A c _ hr hl).mono ?_
    rintro e w1 ⟨rfl, h1⟩
    rw [hok]
    go_wp2
    go_ret2
    exact ⟨_, rfl, own_new w w1 h1, h1.alloc h1.size _⟩
  · have h' : in3 k 0 ((l.length : Int) - 1) = false := by
      rw [hok] at h
      simp only [in3, Bool.and_eq_false_iff, decide_eq_false_iff_not]
      rcases h with h | h | h
      · cases h
      · left; omega
      · right; omega
    go_enter Try.func20, Try.ntmps20
    go_wp2_with fail
    refine (sValid_any l A c _ hr hl).mono ?_
    rintro e w1 ⟨rfl, h1⟩
    rw [hok]
    clear h hok
    go_wp2_with fail
    refine (l6In_any k 0 ((l.length : Int) - 1) _).mono ?_
    rintro e w' ⟨rfl, rfl⟩
    rw [h']
    go_wp2
    go_ret2
    exact ⟨_, rfl, own_new w w1 h1, h1.alloc h1.size _⟩
end Go.Proofs.Ytjgohakiodcjmaa
