import Derived.Test.YtedmohmedldcgaaL10
import Derived.Test.YtedmohmedldcgaaM2
namespace Go.Proofs.Ytedmohmedldcgaa
open Go.RowKit
/-- A row that lies in what was there, as a header. -/
theorem row_head {W w : World} {A : Option Addr} {x : List Int} {n c : Nat} (hn : n = x.length) (hr : Row W W.heap.size A (icells x)) (h1 : n ≤ c) (h2 : c ≤ maxLen) (hb : Below W.heap.size W w) (no : Option Nat) (hno : ∀ k, no = some k → W.heap.size ≤ k) : Heads w 0 no [.slice A n c] [x] := by
  subst hn
  refine ⟨rfl, fun i hi => ?_⟩
  obtain rfl : i = 0 := by simp at hi; exact hi
  refine ⟨A, c, rfl, h1, h2, ?_⟩
  rcases hr with hr | ⟨b, o, rfl, hlt, hc⟩
  · have := icells_len x; rw [hr] at this; exact .inl (List.eq_nil_of_length_eq_zero this.symm)
  · exact .inr ⟨b, o, rfl, Nat.zero_le _, Nat.lt_of_lt_of_le hlt hb.size, fun e => by have := hno b e.symm; omega, fun j u hu => (hb.cell (p := ⟨b, o + j, none⟩) hlt).trans (hc j u hu)⟩
theorem ownLL_one (w : World) (B : Nat) (hB : B ≤ w.heap.size) (x : List Int) (cs : Array Value) (hcs : cs.toList = icells x) (hm : x.length ≤ 1000) :
    OwnLL ((w.alloc (.cells cs TN)).alloc (.cells #[.slice (some ⟨w.heap.size, 0, none⟩) x.length x.length] TI)) B 0 (.slice (some ⟨w.heap.size + 1, 0, none⟩) 1 1) [x] := by
  have hs : (w.alloc (.cells cs TN)).heap.size = w.heap.size + 1 := by simp
  have h := own1_lit (T := TI) (w := w.alloc (.cells cs TN)) (B := B) #[.slice (some ⟨w.heap.size, 0, none⟩) x.length x.length] (by omega) (by simp)
  rw [hs] at h
  exact ⟨_, h, ((head_at _ w.heap.size x cs (heap_alloc_new w _) hcs hm 0 (some (w.heap.size + 1)) (Nat.zero_le _) (fun k h => by injection h; omega)).alloc _)⟩
set_option maxHeartbeats 2000000 in
theorem w_Ladder (A : Option Addr) (n c : Nat) (hnc : n ≤ c) (hn : n ≤ maxLen) (A2 : Option Addr) (m c2 : Nat) (_hmc : m ≤ c2) (hm : m ≤ maxLen) (w : World) (hb : Bytes w w.heap.size A n) (_hb2 : Bytes w w.heap.size A2 m) :
    Calls Try.prog 3 #[.slice A n c, .slice A2 m c2] w fun e w' => e = .returned (.bool true) ∧ Below w.heap.size w w' := by
  have hn2 := hn
  have hm2 := hm
  unfold maxLen at hn2 hm2
  have hall : 1048576 < n ∨ (¬ 1048576 < n ∧ 1048576 < m) ∨ ¬ 1048576 < n ∧ ¬ 1048576 < m := by omega
  rcases hall with hbig | ⟨hbig, hbig2⟩ | ⟨hbig, hbig2⟩
  · go_enter Try.func3, Try.ntmps3
    go_wp2
    go_ret
    exact ⟨rfl, Below.refl _ _⟩
  · go_enter Try.func3, Try.ntmps3
    go_wp2
    go_ret
    exact ⟨rfl, Below.refl _ _⟩
  · go_enter Try.func3, Try.ntmps3
    go_wp2_with fail
    refine (drawV_any A n c hnc hn _ hb).mono ?_
    rintro e W ⟨ll, B, d, rfl, hll, hlen, hld, hd, hbW⟩
    have HBW := Lib.hid hbW; clear hbW hb
    have hlm : ll.length ≤ maxLen := by simp only [maxLen]; omega
    obtain ⟨N, hN⟩ : ∃ N, N = ll.length := ⟨_, rfl⟩
    rw [← hN] at hlen hld
    rw [← hN]
    have HN := Lib.hid hN; clear hN
    cases hok : ladOk ll
    · have HOK := Lib.hid hok; clear hok
      go_wp2_with fail
      refine (iValid_at W ll N HN.out B d hll hlm false HOK.out _ (Below.refl _ _)).mono ?_
      rintro e w1 ⟨rfl, b1⟩
      go_wp2_with fail
      refine (sValid_at W ll N HN.out B d hll hlm false HOK.out _ b1).mono ?_
      rintro e w2 ⟨rfl, b2⟩
      go_wp2
      go_ret
      exact ⟨by first | rfl | exact retb (by simp; omega) | exact retb (by simp), HBW.out.trans (b2.mono HBW.out.size)⟩
    have HOK := Lib.hid hok; clear hok
    go_wp2_with fail
    refine (iValid_at W ll N HN.out B d hll hlm true HOK.out _ (Below.refl _ _)).mono ?_
    rintro e w1 ⟨rfl, b1⟩
    go_wp2_with fail
    refine (sValid_at W ll N HN.out B d hll hlm true HOK.out _ b1).mono ?_
    rintro e w2 ⟨rfl, b2⟩
    obtain ⟨k, hk, hkl⟩ := (⟨m % (N + 1), by simp, by have := Nat.mod_lt m (show 0 < N + 1 by omega); omega⟩ : ∃ k : Nat, (m : Int) % ((N : Int) + 1) = k ∧ k ≤ N)
    obtain ⟨t1, t2⟩ := m_twice HOK.out
    have HT1 := Lib.hid (t1 k (by rw [← HN.out]; exact hkl))
    have HKN := Lib.hid (show k = (ll.take k).length by simp; rw [← HN.out]; omega)
    have hkm : (ll.take k).length ≤ maxLen := by have := List.length_take_le k ll; simp only [maxLen]; omega
    have HLK := Lib.hid (hll.front k)
    have hkd : k ≤ d := by omega
    have hkd2 : (k : Int) ≤ (d : Int) := by omega
    rw [← HN.out] at t2
    clear t1
    by_cases hN0 : N = 0
    · have hx : lastOf ll = [0, 1, 2, 3] := by rw [lastOf, if_pos (by rw [← HN.out]; exact hN0)]
      rw [hx] at t2
      have HT2 := Lib.hid t2; clear t2 hx
      have hk0 : k = 0 := by omega
      subst hN0
      subst hk0
      have hk' : (m : Int) % 1 = 0 := by omega
      clear hk
      go_wp2_with fail
      obtain ⟨w3, hw3⟩ : ∃ w3, w3 = w2.alloc (.cells #[.int .i64 0, .int .i64 1, .int .i64 2, .int .i64 3] TN) := ⟨_, rfl⟩
      have hr3 : Row w3 w3.heap.size (some ⟨w2.heap.size, 0, none⟩) (icells [0, 1, 2, 3]) := by rw [hw3]; exact (row_lit w2 #[.int .i64 0, .int .i64 1, .int .i64 2, .int .i64 3] TN).more (by simp)
      have b3 : Below W.heap.size W w3 := by rw [hw3]; exact b2.alloc b2.size _
      rw [← hw3]
      clear hw3
      have hxc : 4 ≤ 4 := Nat.le_refl _
      have hxd : 4 ≤ maxLen := by simp [maxLen]
      have HXN := Lib.hid (show 4 = [(0 : Int), 1, 2, 3].length from rfl)
      refine (iValid_at w3 (ll.take 0) 0 HKN.out B d (HLK.out.moved b3) hkm true HT1.out _ (Below.refl _ _)).mono ?_
      rintro e w4 ⟨rfl, b34⟩
      have hz34 := b34.size
      have b4 : Below W.heap.size W w4 := b3.trans (b34.mono b3.size)
      have B34 := Lib.hid b34; clear b34
      have HR3 := Lib.hid hr3; clear hr3
      obtain ⟨hs, hrow, hheads⟩ := LL.heads hll (b4.alloc b4.size (.cells #[] TI)) (some w4.heap.size) (fun k hk => by injection hk with hk; rw [← hk]; exact b4.size)
      have HROW := Lib.hid hrow
      have HHE := Lib.hid hheads
      have HLEN := Lib.hid (show ([] : List (List Int)).length + ll.length ≤ 1000000 by simp; rw [← HN.out]; omega)
      have HLEN2 := Lib.hid (show ([] ++ ll : List (List Int)).length + 1 ≤ 1000000 by simp; rw [← HN.out]; omega)
      clear hrow hheads
      go_wp2_with (first
        | (at_builtin
           refine appLL rfl (.tmp 55) (.tmp 56) rfl w4.heap.size 0 (.slice (some ⟨w4.heap.size, 0, none⟩) 0 0) [] rfl (ownLL_new (Nat.le_refl _)) W.heap.size B 0 d hs ll HN.out rfl HROW.out HHE.out HLEN.out ((Below.refl w4.heap.size w4).alloc (Nat.le_refl _) _).size ?_
           intro v5 w5 ho5 hg5
           have b5 := below_ownLL (L := 0) (ll := []) ((Below.refl w4.heap.size w4).alloc (Nat.le_refl _) _) (ownLL_new (Nat.le_refl _)) hg5
           have HO5 := Lib.hid ho5
           have B5 := Lib.hid b5
           have HD5 := Lib.hid (row_head (w := w5.alloc (.cells #[.slice (some ⟨w2.heap.size, 0, none⟩) 4 4] TI)) rfl HR3.out hxc hxd (B34.out.trans ((b5.alloc b5.size _).mono hz34)) v5.ownBlock (fun k hk => by have := (ho5.ob k hk).1; omega))
           clear ho5 hg5 b5)
        | (at_builtin
           refine appLL rfl (.tmp 57) (.tmp 59) rfl w4.heap.size 0 v5 ([] ++ ll) rfl (HO5.out.alloc _) (w5.heap.size + 1) (some ⟨w5.heap.size, 0, none⟩) 1 1 [.slice (some ⟨w2.heap.size, 0, none⟩) 4 4] [[0, 1, 2, 3]] rfl rfl (row_lit w5 _ _) HD5.out HLEN2.out (by have := B5.out.size; simp; omega) ?_
           intro v6 w6 ho6 hg6
           have b6 := below_ownLL (B5.out.alloc B5.out.size _) (HO5.out.alloc _) hg6
           obtain ⟨A6, c6, rfl, _, _, hl6⟩ := ho6.form
           have HL6 := Lib.hid hl6
           have B6 := Lib.hid b6
           clear ho6 hg6 b6 hl6))
      have hm6 : ([] ++ ll ++ [[0, 1, 2, 3]]).length ≤ maxLen := by simp only [maxLen]; simp; rw [← HN.out]; omega
      refine (iValid_at w6 ([] ++ ll ++ [[0, 1, 2, 3]]) _ (by simp) A6 c6 HL6.out hm6 true (by rw [List.nil_append]; exact HT2.out) _ (Below.refl _ _)).mono ?_
      rintro e w7 ⟨rfl, b7⟩
      go_wp2
      go_ret
      exact ⟨by first | rfl | exact retb (by simp; omega) | exact retb (by simp), HBW.out.trans ((b4.trans ((B6.out.trans (b7.mono B6.out.size)).mono b4.size)).mono HBW.out.size)⟩
    · obtain ⟨q, rfl⟩ : ∃ q, N = q + 1 := ⟨N - 1, by omega⟩
      have hx : lastOf ll = ll.getD q [] := by rw [lastOf, if_neg (by rw [← HN.out]; exact hN0), ← HN.out, Nat.add_sub_cancel]
      rw [hx] at t2
      clear hx hN0
      obtain ⟨b, o, At, ct, rfl, hbW', c0, hxc, hxd, r0⟩ := hll.at_ q (by rw [← HN.out]; omega)
      generalize ll.getD q [] = x at *
      obtain ⟨nt, hnt⟩ : ∃ nt, nt = x.length := ⟨_, rfl⟩
      rw [← hnt] at c0 hxc
      have HXN := Lib.hid hnt; clear hnt
      have R0 := Lib.hid r0
      have hqi : (q : Int) < ((q + 1 : Nat) : Int) := by omega
      clear r0
      have c2 : w2.cell? ⟨b, o + q, none⟩ = some (.slice At nt ct) := (b2.cell (p := ⟨b, o + q, none⟩) hbW').trans c0
      have hbw2 : b < w2.heap.size := Nat.lt_of_lt_of_le hbW' b2.size
      clear c0
      have hk' : (m : Int) % ((q : Int) + 1 + 1) = (k : Int) := by simpa using hk
      clear hk
      go_wp2_with fail
      clear hk'
      obtain ⟨w3, hw3⟩ : ∃ w3, w3 = w2.alloc (.cells #[.int .i64 0, .int .i64 1, .int .i64 2, .int .i64 3] TN) := ⟨_, rfl⟩
      have b3 : Below W.heap.size W w3 := by rw [hw3]; exact b2.alloc b2.size _
      have hr3 : Row w3 w3.heap.size At (icells x) := (R0.out.below b3 (Nat.le_refl _)).more b3.size
      rw [← hw3]
      clear hw3
      by_cases h3 : q + 1 < 3
      · have h3' : (q : Int) + 1 < 3 := by omega
        have HT2 := Lib.hid (show ladOk (ll ++ [x]) = true by rw [t2]; simpa using h3)
        clear t2 h3
        refine (iValid_at w3 (ll.take k) k HKN.out (some ⟨b, o, none⟩) d (HLK.out.moved b3) hkm true HT1.out _ (Below.refl _ _)).mono ?_
        rintro e w4 ⟨rfl, b34⟩
        have hz34 := b34.size
        have b4 : Below W.heap.size W w4 := b3.trans (b34.mono b3.size)
        have B34 := Lib.hid b34; clear b34
        have HR3 := Lib.hid hr3; clear hr3
        obtain ⟨hs, hrow, hheads⟩ := LL.heads hll (b4.alloc b4.size (.cells #[] TI)) (some w4.heap.size) (fun k hk => by injection hk with hk; rw [← hk]; exact b4.size)
        have HROW := Lib.hid hrow
        have HHE := Lib.hid hheads
        have HLEN := Lib.hid (show ([] : List (List Int)).length + ll.length ≤ 1000000 by simp; rw [← HN.out]; omega)
        have HLEN2 := Lib.hid (show ([] ++ ll : List (List Int)).length + 1 ≤ 1000000 by simp; rw [← HN.out]; omega)
        clear hrow hheads
        go_wp2_with (first
          | (at_builtin
             refine appLL rfl (.tmp 55) (.tmp 56) rfl w4.heap.size 0 (.slice (some ⟨w4.heap.size, 0, none⟩) 0 0) [] rfl (ownLL_new (Nat.le_refl _)) W.heap.size (some ⟨b, o, none⟩) (q + 1) d hs ll HN.out rfl HROW.out HHE.out HLEN.out ((Below.refl w4.heap.size w4).alloc (Nat.le_refl _) _).size ?_
             intro v5 w5 ho5 hg5
             have b5 := below_ownLL (L := 0) (ll := []) ((Below.refl w4.heap.size w4).alloc (Nat.le_refl _) _) (ownLL_new (Nat.le_refl _)) hg5
             have HO5 := Lib.hid ho5
             have B5 := Lib.hid b5
             have HD5 := Lib.hid (row_head (w := w5.alloc (.cells #[.slice At nt ct] TI)) HXN.out HR3.out hxc hxd (B34.out.trans ((b5.alloc b5.size _).mono hz34)) v5.ownBlock (fun k hk => by have := (ho5.ob k hk).1; omega))
             clear ho5 hg5 b5)
          | (at_builtin
             refine appLL rfl (.tmp 57) (.tmp 59) rfl w4.heap.size 0 v5 ([] ++ ll) rfl (HO5.out.alloc _) (w5.heap.size + 1) (some ⟨w5.heap.size, 0, none⟩) 1 1 [.slice At nt ct] [x] rfl rfl (row_lit w5 _ _) HD5.out HLEN2.out (by have := B5.out.size; simp; omega) ?_
             intro v6 w6 ho6 hg6
             have b6 := below_ownLL (B5.out.alloc B5.out.size _) (HO5.out.alloc _) hg6
             obtain ⟨A6, c6, rfl, _, _, hl6⟩ := ho6.form
             have HL6 := Lib.hid hl6
             have B6 := Lib.hid b6
             clear ho6 hg6 b6 hl6))
        have hm6 : ([] ++ ll ++ [x]).length ≤ maxLen := by simp only [maxLen]; simp; rw [← HN.out]; omega
        refine (iValid_at w6 ([] ++ ll ++ [x]) _ (by simp) A6 c6 HL6.out hm6 true (by rw [List.nil_append]; exact HT2.out) _ (Below.refl _ _)).mono ?_
        rintro e w7 ⟨rfl, b7⟩
        go_wp2
        go_ret
        exact ⟨by first | rfl | exact retb (by simp; omega) | exact retb (by simp), HBW.out.trans ((b4.trans ((B6.out.trans (b7.mono B6.out.size)).mono b4.size)).mono HBW.out.size)⟩
      · have h3' : ¬ (q : Int) + 1 < 3 := by omega
        have HT2 := Lib.hid (show ladOk (ll ++ [x]) = false by rw [t2]; simpa using h3)
        clear t2 h3
        refine (iValid_at w3 (ll.take k) k HKN.out (some ⟨b, o, none⟩) d (HLK.out.moved b3) hkm true HT1.out _ (Below.refl _ _)).mono ?_
        rintro e w4 ⟨rfl, b34⟩
        have hz34 := b34.size
        have b4 : Below W.heap.size W w4 := b3.trans (b34.mono b3.size)
        have B34 := Lib.hid b34; clear b34
        have HR3 := Lib.hid hr3; clear hr3
        obtain ⟨hs, hrow, hheads⟩ := LL.heads hll (b4.alloc b4.size (.cells #[] TI)) (some w4.heap.size) (fun k hk => by injection hk with hk; rw [← hk]; exact b4.size)
        have HROW := Lib.hid hrow
        have HHE := Lib.hid hheads
        have HLEN := Lib.hid (show ([] : List (List Int)).length + ll.length ≤ 1000000 by simp; rw [← HN.out]; omega)
        have HLEN2 := Lib.hid (show ([] ++ ll : List (List Int)).length + 1 ≤ 1000000 by simp; rw [← HN.out]; omega)
        clear hrow hheads
        go_wp2_with (first
          | (at_builtin
             refine appLL rfl (.tmp 55) (.tmp 56) rfl w4.heap.size 0 (.slice (some ⟨w4.heap.size, 0, none⟩) 0 0) [] rfl (ownLL_new (Nat.le_refl _)) W.heap.size (some ⟨b, o, none⟩) (q + 1) d hs ll HN.out rfl HROW.out HHE.out HLEN.out ((Below.refl w4.heap.size w4).alloc (Nat.le_refl _) _).size ?_
             intro v5 w5 ho5 hg5
             have b5 := below_ownLL (L := 0) (ll := []) ((Below.refl w4.heap.size w4).alloc (Nat.le_refl _) _) (ownLL_new (Nat.le_refl _)) hg5
             have HO5 := Lib.hid ho5
             have B5 := Lib.hid b5
             have HD5 := Lib.hid (row_head (w := w5.alloc (.cells #[.slice At nt ct] TI)) HXN.out HR3.out hxc hxd (B34.out.trans ((b5.alloc b5.size _).mono hz34)) v5.ownBlock (fun k hk => by have := (ho5.ob k hk).1; omega))
             clear ho5 hg5 b5)
          | (at_builtin
             refine appLL rfl (.tmp 57) (.tmp 59) rfl w4.heap.size 0 v5 ([] ++ ll) rfl (HO5.out.alloc _) (w5.heap.size + 1) (some ⟨w5.heap.size, 0, none⟩) 1 1 [.slice At nt ct] [x] rfl rfl (row_lit w5 _ _) HD5.out HLEN2.out (by have := B5.out.size; simp; omega) ?_
             intro v6 w6 ho6 hg6
             have b6 := below_ownLL (B5.out.alloc B5.out.size _) (HO5.out.alloc _) hg6
             obtain ⟨A6, c6, rfl, _, _, hl6⟩ := ho6.form
             have HL6 := Lib.hid hl6
             have B6 := Lib.hid b6
             clear ho6 hg6 b6 hl6))
        have hm6 : ([] ++ ll ++ [x]).length ≤ maxLen := by simp only [maxLen]; simp; rw [← HN.out]; omega
        refine (iValid_at w6 ([] ++ ll ++ [x]) _ (by simp) A6 c6 HL6.out hm6 false (by rw [List.nil_append]; exact HT2.out) _ (Below.refl _ _)).mono ?_
        rintro e w7 ⟨rfl, b7⟩
        go_wp2
        go_ret
        exact ⟨by first | rfl | exact retb (by simp; omega) | exact retb (by simp), HBW.out.trans ((b4.trans ((B6.out.trans (b7.mono B6.out.size)).mono b4.size)).mono HBW.out.size)⟩
set_option maxHeartbeats 2000000 in
theorem w_LadderFlat (A : Option Addr) (n c : Nat) (hnc : n ≤ c) (hn : n ≤ maxLen) (w : World) (hb : Bytes w w.heap.size A n) :
    Calls Try.prog 13 #[.slice A n c] w fun e w' => e = .returned (.bool true) ∧ Below w.heap.size w w' := by
  have hn2 := hn
  unfold maxLen at hn2
  have hall : 1048576 < n ∨ ¬ 1048576 < n := by omega
  rcases hall with hbig | hbig
  · go_enter Try.func13, Try.ntmps13
    go_wp2
    go_ret
    exact ⟨rfl, Below.refl _ _⟩
  · go_enter Try.func13, Try.ntmps13
    go_wp2_with fail
    refine (drawV_any A n c hnc hn _ hb).mono ?_
    rintro e W ⟨ll, B, d, rfl, hll, hlen, hld, hd, hbW⟩
    have HBW := Lib.hid hbW; clear hbW hb
    have hlm : ll.length ≤ maxLen := by simp only [maxLen]; omega
    obtain ⟨N, hN⟩ : ∃ N, N = ll.length := ⟨_, rfl⟩
    rw [← hN] at hlen hld
    rw [← hN]
    have HN := Lib.hid hN; clear hN
    cases hok : ladOk ll
    · have HOK := Lib.hid hok; clear hok
      go_wp2_with fail
      refine (iValid_at W ll N HN.out B d hll hlm false HOK.out _ (Below.refl _ _)).mono ?_
      rintro e w1 ⟨rfl, b1⟩
      go_wp2_with fail
      refine (sValid_at W ll N HN.out B d hll hlm false HOK.out _ b1).mono ?_
      rintro e w2 ⟨rfl, b2⟩
      go_wp2
      go_ret
      exact ⟨by first | rfl | exact retb (by simp; omega) | exact retb (by simp), HBW.out.trans (b2.mono HBW.out.size)⟩
    have HOK := Lib.hid hok; clear hok
    go_wp2_with fail
    refine (iValid_at W ll N HN.out B d hll hlm true HOK.out _ (Below.refl _ _)).mono ?_
    rintro e w1 ⟨rfl, b1⟩
    go_wp2_with fail
    refine (sValid_at W ll N HN.out B d hll hlm true HOK.out _ b1).mono ?_
    rintro e w2 ⟨rfl, b2⟩
    by_cases h3 : N = 3
    · have HG := Lib.hid (m_flat3 HOK.out (by rw [← HN.out]; exact h3))
      have h3' : ((N : Int) == 3) = true := by rw [beq_iff_eq]; omega
      clear h3
      go_wp2_with fail
      refine (iGroups_at W ll N HN.out B d hll hlm 0 4 HG.out _ b2).mono ?_
      rintro e w3 ⟨rfl, b3⟩
      go_wp2
      go_ret
      exact ⟨by first | rfl | exact retb (by simp; omega) | exact retb (by simp), HBW.out.trans (b3.mono HBW.out.size)⟩
    · obtain ⟨t1, t2, t3⟩ := m_flat HOK.out (by rw [← HN.out]; exact h3)
      have hN3 : N ≤ 3 := by rw [HN.out]; exact lad_len3 HOK.out
      rw [← HN.out] at t3
      have HT1 := Lib.hid t1
      have HT2 := Lib.hid t2
      have HT3 := Lib.hid t3
      have h3' : ((N : Int) == 3) = false := by rw [beq_eq_false_iff_ne]; omega
      clear h3 t1 t2 t3
      have b2' : Below W.heap.size W ((w2.alloc (.cells #[.int .i64 0, .int .i64 1, .int .i64 2, .int .i64 3] TN)).alloc (.cells #[.slice (some ⟨w2.heap.size, 0, none⟩) 4 4] TI)) := (b2.alloc b2.size _).alloc (by have := b2.size; simp; omega) _
      obtain ⟨hs, hrow, hheads⟩ := LL.heads hll b2' (some (w2.heap.size + 1)) (fun k hk => by injection hk with hk; have := b2.size; omega)
      have HB2 := Lib.hid b2'
      have HROW := Lib.hid hrow
      have HHE := Lib.hid hheads
      have HO2 := Lib.hid (ownLL_one w2 w2.heap.size (Nat.le_refl _) [0, 1, 2, 3] #[.int .i64 0, .int .i64 1, .int .i64 2, .int .i64 3] rfl (by simp))
      have HLEN := Lib.hid (show ([[0, 1, 2, 3]] : List (List Int)).length + ll.length ≤ 1000000 by simp; rw [← HN.out]; omega)
      have HLEN1 := Lib.hid (show ([] : List (List Int)).length + ll.length ≤ 1000000 by simp; rw [← HN.out]; omega)
      have HLEN2 := Lib.hid (show ([] ++ ll : List (List Int)).length + 1 ≤ 1000000 by simp; rw [← HN.out]; omega)
      have HLL := Lib.hid hll
      clear hrow hheads b2' hll
      go_wp2_with (first
        | (at_builtin
           refine appLL rfl (.tmp 34) (.tmp 35) rfl w2.heap.size 0 (.slice (some ⟨w2.heap.size + 1, 0, none⟩) 1 1) [[0, 1, 2, 3]] rfl HO2.out W.heap.size B N d hs ll HN.out rfl HROW.out HHE.out HLEN.out (by simp; omega) ?_
           intro v3 w3 ho3 hg3
           have b3 : Below w2.heap.size w2 w3 := below_ownLL (L := 0) (((Below.refl w2.heap.size w2).alloc (Nat.le_refl _) _).alloc (by simp) _) HO2.out hg3
           obtain ⟨A3, c3, hv3, _, _, hl3⟩ := ho3.form
           subst hv3
           have b3' : Below W.heap.size W (w3.alloc (.cells #[] TI)) := (b2.trans (b3.mono b2.size)).alloc (by have := b2.size; have := b3.size; omega) _
           obtain ⟨hs3, hrow3, hheads3⟩ := LL.heads HLL.out b3' (some w3.heap.size) (fun k hk => by injection hk with hk; have := b2.size; have := b3.size; omega)
           have HB3 := Lib.hid b3
           have HB3' := Lib.hid b3'
           have HL3 := Lib.hid hl3
           have HROW3 := Lib.hid hrow3
           have HHE3 := Lib.hid hheads3
           clear ho3 hg3 hl3 hrow3 hheads3 b3 b3')
        | (at_builtin
           refine appLL rfl (.tmp 37) (.tmp 38) rfl w3.heap.size 0 (.slice (some ⟨w3.heap.size, 0, none⟩) 0 0) [] rfl (ownLL_new (Nat.le_refl _)) W.heap.size B N d hs3 ll HN.out rfl HROW3.out HHE3.out HLEN1.out ((Below.refl w3.heap.size w3).alloc (Nat.le_refl _) _).size ?_
           intro v4 w4 ho4 hg4
           have b4 := below_ownLL (L := 0) (ll := []) ((Below.refl w3.heap.size w3).alloc (Nat.le_refl _) _) (ownLL_new (Nat.le_refl _)) hg4
           have HO4 := Lib.hid ho4
           have HB4 := Lib.hid b4
           have HD4 := Lib.hid ((head_at (w4.alloc (.cells #[.int .i64 0, .int .i64 0, .int .i64 0, .int .i64 0] TN)) w4.heap.size [0, 0, 0, 0] #[.int .i64 0, .int .i64 0, .int .i64 0, .int .i64 0] (heap_alloc_new w4 _) rfl (by simp) 0 v4.ownBlock (Nat.zero_le _) (fun k hk => by have := (ho4.ob k hk).2; omega)).alloc (.cells #[.slice (some ⟨w4.heap.size, 0, none⟩) 4 4] TI))
           clear ho4 hg4 b4)
        | (at_builtin
           refine appLL rfl (.tmp 39) (.tmp 41) rfl w3.heap.size 0 v4 ([] ++ ll) rfl ((HO4.out.alloc _).alloc _) (w4.heap.size + 2) (some ⟨w4.heap.size + 1, 0, none⟩) 1 1 [.slice (some ⟨w4.heap.size, 0, none⟩) 4 4] [[0, 0, 0, 0]] rfl rfl (row_lit' w4 _ _ _) HD4.out HLEN2.out (by have := HB4.out.size; simp; omega) ?_
           intro v5 w5 ho5 hg5
           have b5 := below_ownLL ((HB4.out.alloc HB4.out.size _).alloc (by have := HB4.out.size; simp; omega) _) ((HO4.out.alloc _).alloc _) hg5
           obtain ⟨A5, c5, hv5, _, _, hl5⟩ := ho5.form
           subst hv5
           have HL5 := Lib.hid hl5
           have HB5 := Lib.hid b5
           clear ho5 hg5 hl5 b5))
      have hm5 : ([] ++ ll ++ [[0, 0, 0, 0]]).length ≤ maxLen := by simp only [maxLen]; simp; rw [← HN.out]; omega
      have hm3 : ([[0, 1, 2, 3]] ++ ll).length ≤ maxLen := by simp only [maxLen]; simp; rw [← HN.out]; omega
      have HL3' := Lib.hid (HL3.out.moved HB5.out)
      have HE5 := Lib.hid (show ladOk ([] ++ ll ++ [[0, 0, 0, 0]]) = true by rw [List.nil_append]; exact HT2.out)
      refine (iValid_at w5 ([[0, 1, 2, 3]] ++ ll) _ (by simp; try omega) A3 c3 HL3'.out hm3 true HT1.out _ (Below.refl _ _)).mono ?_
      rintro e w6 ⟨rfl, b6⟩
      go_wp2_with fail
      refine (iValid_at w5 ([] ++ ll ++ [[0, 0, 0, 0]]) _ (by simp) A5 c5 HL5.out hm5 true HE5.out _ b6).mono ?_
      rintro e w7 ⟨rfl, b7⟩
      go_wp2_with fail
      refine (iGroups_at w5 ([] ++ ll ++ [[0, 0, 0, 0]]) _ (by simp) A5 c5 HL5.out hm5 _ 1 (by rw [List.nil_append, ← HN.out]; exact HT3.out) _ b7).mono ?_
      rintro e w8 ⟨rfl, b8⟩
      have HB8 := Lib.hid (HB3.out.trans ((HB5.out.trans (b8.mono HB5.out.size)).mono HB3.out.size))
      go_wp2
      go_ret
      exact ⟨by first | rfl | exact retb (by simp; omega) | exact retb (by simp), HBW.out.trans ((b2.trans (HB8.out.mono b2.size)).mono HBW.out.size)⟩
end Go.Proofs.Ytedmohmedldcgaa
