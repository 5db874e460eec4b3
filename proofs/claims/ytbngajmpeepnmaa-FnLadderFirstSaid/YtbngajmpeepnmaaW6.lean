import Derived.Test.YtbngajmpeepnmaaL10
import Derived.Test.YtbngajmpeepnmaaM1
namespace Go.Proofs.Ytbngajmpeepnmaa
open Go.RowKit
set_option maxHeartbeats 2000000 in
theorem w_LadderFirst (A : Option Addr) (n c : Nat) (hnc : n ≤ c) (hn : n ≤ maxLen) (w : World) (hb : Bytes w w.heap.size A n) :
    Calls Try.prog 3 #[.slice A n c] w fun e w' => e = .returned (.bool true) ∧ Below w.heap.size w w' := by
  have hn2 := hn
  unfold maxLen at hn2
  have hall : 1048576 < n ∨ ¬ 1048576 < n := by omega
  rcases hall with hbig | hbig
  · go_enter Try.func3, Try.ntmps3
    go_wp2
    go_ret
    exact ⟨rfl, Below.refl _ _⟩
  · go_enter Try.func3, Try.ntmps3
    go_wp2_with fail
    refine (drawC_any A n c hnc hn _ hb).mono ?_
    rintro e W ⟨ll, B, d, l, x, rfl, hll, hlen, hld, hd, l0, l1, x0, x1, hbW⟩
    have HBW := Lib.hid hbW; clear hbW hb
    have hlm : ll.length ≤ maxLen := by simp only [maxLen]; omega
    cases hok : codeOk ll l x
    · have hz := Lib.hid (show lcode ll l x = 0 by simp [lcode, hok])
      have HOK := Lib.hid hok; clear hok
      go_wp2_with fail
      refine (iCode_at W ll _ rfl B d hll hlm l x 0 false hz.out HOK.out _ (Below.refl _ _)).mono ?_
      rintro e w1 ⟨rfl, b1⟩
      go_wp2_with fail
      refine (sCode_at W ll _ rfl B d hll hlm l x 0 false hz.out HOK.out _ b1).mono ?_
      rintro e w2 ⟨rfl, b2⟩
      go_wp2
      go_ret
      exact ⟨by first | rfl | exact retb (by simp; omega) | exact retb (by simp), HBW.out.trans (b2.mono HBW.out.size)⟩
    · obtain ⟨f1, f2, f3, f4⟩ := m_first hok
      obtain ⟨_, l0', l1', _, _⟩ := codeOk_in hok
      obtain ⟨q, rfl⟩ := Int.eq_ofNat_of_zero_le l0'
      have hqt : (q : Int).toNat = q := by simp
      rw [hqt] at f1 f2
      obtain ⟨y, hy⟩ : ∃ y, lcode ll q x = y := ⟨_, rfl⟩
      rw [hy] at f2 f4
      have HOK := Lib.hid hok
      have HY := Lib.hid hy
      have F1 := Lib.hid f1
      have F2 := Lib.hid f2
      have hqd : q ≤ d := by omega
      have hqd2 : (q : Int) ≤ (d : Int) := by omega
      have hq3 : (q : Int) ≤ (ll.length : Int) := by omega
      have HQL := Lib.hid (show q = (ll.take q).length by simp; omega)
      have hqm : (ll.take q).length ≤ maxLen := by have := List.length_take_le q ll; omega
      have HLQ := Lib.hid (hll.front q)
      clear hok hy f1 f2 l0' l1' hqt
      go_wp2_with fail
      refine (iCode_at W ll _ rfl B d hll hlm q x y true HY.out HOK.out _ (Below.refl _ _)).mono ?_
      rintro e w1 ⟨rfl, b1⟩
      go_wp2_with fail
      refine (sCode_at W ll _ rfl B d hll hlm q x y true HY.out HOK.out _ b1).mono ?_
      rintro e w2 ⟨rfl, b2⟩
      go_wp2_with fail
      refine (iCode_at W (ll.take q) q HQL.out B d HLQ.out hqm q x y true F2.out F1.out _ b2).mono ?_
      rintro e w3 ⟨rfl, b3⟩
      by_cases h3 : ll.length < 3
      · have h3' : (ll.length : Int) < 3 := by omega
        have KT := Lib.hid (show codeOk (ll ++ [[0, 0, 0, 0]]) q x = true by rw [f3]; simpa using h3)
        have KY := Lib.hid (f4 h3)
        clear f3 f4 h3
        clear hq3
        have b3h := Lib.hid b3
        obtain ⟨hs, hrow, hheads⟩ := LL.heads hll (b3.alloc b3.size (.cells #[] TI)) (some w3.heap.size) (fun k hk => by injection hk with hk; rw [← hk]; exact b3.size)
        have HROW := Lib.hid hrow
        have HHE := Lib.hid hheads
        have HLEN := Lib.hid (show ([] : List (List Int)).length + ll.length ≤ 1000000 by simp; omega)
        have HLEN2 := Lib.hid (show ([] ++ ll : List (List Int)).length + 1 ≤ 1000000 by simp; omega)
        clear hrow hheads
        go_wp2_with (first
          | (at_builtin
             refine appLL rfl (.tmp 67) (.tmp 68) rfl w3.heap.size 0 (.slice (some ⟨w3.heap.size, 0, none⟩) 0 0) [] rfl (ownLL_new (Nat.le_refl _)) W.heap.size B ll.length d hs ll rfl rfl HROW.out HHE.out HLEN.out ((Below.refl w3.heap.size w3).alloc (Nat.le_refl _) _).size ?_
             intro v4 w4 ho4 hg4
             have b4 := below_ownLL (L := 0) (ll := []) ((Below.refl w3.heap.size w3).alloc (Nat.le_refl _) _) (ownLL_new (Nat.le_refl _)) hg4
             have HO4 := Lib.hid ho4
             have HB4 := Lib.hid b4
             have HD4 := Lib.hid ((head_at (w4.alloc (.cells #[.int .i64 0, .int .i64 0, .int .i64 0, .int .i64 0] TN)) w4.heap.size [0, 0, 0, 0] #[.int .i64 0, .int .i64 0, .int .i64 0, .int .i64 0] (heap_alloc_new w4 _) rfl (by simp) 0 v4.ownBlock (Nat.zero_le _) (fun k hk => by have := (ho4.ob k hk).2; omega)).alloc (.cells #[.slice (some ⟨w4.heap.size, 0, none⟩) 4 4] TI))
             clear ho4 hg4 b4)
          | (at_builtin
             refine appLL rfl (.tmp 69) (.tmp 71) rfl w3.heap.size 0 v4 ([] ++ ll) rfl ((HO4.out.alloc _).alloc _) (w4.heap.size + 2) (some ⟨w4.heap.size + 1, 0, none⟩) 1 1 [.slice (some ⟨w4.heap.size, 0, none⟩) 4 4] [[0, 0, 0, 0]] rfl rfl (row_lit' w4 _ _ _) HD4.out HLEN2.out (by have := HB4.out.size; simp; omega) ?_
             intro v5 w5 ho5 hg5
             have b5 := below_ownLL ((HB4.out.alloc HB4.out.size _).alloc (by have := HB4.out.size; simp; omega) _) ((HO4.out.alloc _).alloc _) hg5
             obtain ⟨A5, c5, hv5, _, _, hl5⟩ := ho5.form
             subst hv5
             have HL5 := Lib.hid hl5
             have HB5 := Lib.hid b5
             clear ho5 hg5 hl5 b5))
        have hm5 : ([] ++ ll ++ [[0, 0, 0, 0]]).length ≤ maxLen := by simp only [maxLen]; simp; omega
        refine (iCode_at w5 ([] ++ ll ++ [[0, 0, 0, 0]]) _ (by simp) A5 c5 HL5.out hm5 q x y true (by rw [List.nil_append]; exact KY.out) (by rw [List.nil_append]; exact KT.out) _ (Below.refl _ _)).mono ?_
        rintro e w6 ⟨rfl, b6⟩
        have HB6 := Lib.hid (bth HBW.out (b3h.out.trans ((HB5.out.trans (b6.mono HB5.out.size)).mono b3h.out.size)))
        go_wp2
        go_ret
        exact ⟨by first | rfl | exact retb (by simp; omega) | exact retb (by simp), HB6.out⟩
      · have h3' : ¬ (ll.length : Int) < 3 := by omega
        have KT := Lib.hid (show codeOk (ll ++ [[0, 0, 0, 0]]) q x = false by rw [f3]; simpa using h3)
        have KY := Lib.hid (show lcode (ll ++ [[0, 0, 0, 0]]) q x = 0 by simp [lcode, KT.out])
        clear f3 f4 h3
        clear hq3
        have b3h := Lib.hid b3
        obtain ⟨hs, hrow, hheads⟩ := LL.heads hll (b3.alloc b3.size (.cells #[] TI)) (some w3.heap.size) (fun k hk => by injection hk with hk; rw [← hk]; exact b3.size)
        have HROW := Lib.hid hrow
        have HHE := Lib.hid hheads
        have HLEN := Lib.hid (show ([] : List (List Int)).length + ll.length ≤ 1000000 by simp; omega)
        have HLEN2 := Lib.hid (show ([] ++ ll : List (List Int)).length + 1 ≤ 1000000 by simp; omega)
        clear hrow hheads
        go_wp2_with (first
          | (at_builtin
             refine appLL rfl (.tmp 67) (.tmp 68) rfl w3.heap.size 0 (.slice (some ⟨w3.heap.size, 0, none⟩) 0 0) [] rfl (ownLL_new (Nat.le_refl _)) W.heap.size B ll.length d hs ll rfl rfl HROW.out HHE.out HLEN.out ((Below.refl w3.heap.size w3).alloc (Nat.le_refl _) _).size ?_
             intro v4 w4 ho4 hg4
             have b4 := below_ownLL (L := 0) (ll := []) ((Below.refl w3.heap.size w3).alloc (Nat.le_refl _) _) (ownLL_new (Nat.le_refl _)) hg4
             have HO4 := Lib.hid ho4
             have HB4 := Lib.hid b4
             have HD4 := Lib.hid ((head_at (w4.alloc (.cells #[.int .i64 0, .int .i64 0, .int .i64 0, .int .i64 0] TN)) w4.heap.size [0, 0, 0, 0] #[.int .i64 0, .int .i64 0, .int .i64 0, .int .i64 0] (heap_alloc_new w4 _) rfl (by simp) 0 v4.ownBlock (Nat.zero_le _) (fun k hk => by have := (ho4.ob k hk).2; omega)).alloc (.cells #[.slice (some ⟨w4.heap.size, 0, none⟩) 4 4] TI))
             clear ho4 hg4 b4)
          | (at_builtin
             refine appLL rfl (.tmp 69) (.tmp 71) rfl w3.heap.size 0 v4 ([] ++ ll) rfl ((HO4.out.alloc _).alloc _) (w4.heap.size + 2) (some ⟨w4.heap.size + 1, 0, none⟩) 1 1 [.slice (some ⟨w4.heap.size, 0, none⟩) 4 4] [[0, 0, 0, 0]] rfl rfl (row_lit' w4 _ _ _) HD4.out HLEN2.out (by have := HB4.out.size; simp; omega) ?_
             intro v5 w5 ho5 hg5
             have b5 := below_ownLL ((HB4.out.alloc HB4.out.size _).alloc (by have := HB4.out.size; simp; omega) _) ((HO4.out.alloc _).alloc _) hg5
             obtain ⟨A5, c5, hv5, _, _, hl5⟩ := ho5.form
             subst hv5
             have HL5 := Lib.hid hl5
             have HB5 := Lib.hid b5
             clear ho5 hg5 hl5 b5))
        have hm5 : ([] ++ ll ++ [[0, 0, 0, 0]]).length ≤ maxLen := by simp only [maxLen]; simp; omega
        refine (iCode_at w5 ([] ++ ll ++ [[0, 0, 0, 0]]) _ (by simp) A5 c5 HL5.out hm5 q x 0 false (by rw [List.nil_append]; exact KY.out) (by rw [List.nil_append]; exact KT.out) _ (Below.refl _ _)).mono ?_
        rintro e w6 ⟨rfl, b6⟩
        have HB6 := Lib.hid (bth HBW.out (b3h.out.trans ((HB5.out.trans (b6.mono HB5.out.size)).mono b3h.out.size)))
        go_wp2
        go_ret
        exact ⟨by first | rfl | exact retb (by simp; omega) | exact retb (by simp), HB6.out⟩
end Go.Proofs.Ytbngajmpeepnmaa
