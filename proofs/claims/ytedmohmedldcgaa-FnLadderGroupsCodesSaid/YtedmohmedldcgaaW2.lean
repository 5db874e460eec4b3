import Derived.Test.YtedmohmedldcgaaL10
import Derived.Test.YtedmohmedldcgaaM1
namespace Go.Proofs.Ytedmohmedldcgaa
open Go.RowKit
theorem freshTo_succ (ll : List (List Int)) (l : Int) (c d : Nat) : freshTo ll l c (d + 1) = (freshTo ll l c d && decide (lcode ll l d ≠ lcode ll l c)) := by
  unfold freshTo; rw [List.range_succ, List.all_append]; simp
theorem freshMany_succ (ll : List (List Int)) (l : Int) (k : Nat) : freshMany ll l (k + 1) = freshMany ll l k + if freshTo ll l k k = true then 1 else 0 := by
  unfold freshMany
  rw [List.range_succ, List.filter_append, List.length_append, List.filter_cons, List.filter_nil]
  cases freshTo ll l k k <;> simp
theorem freshMany_bd (ll : List (List Int)) (l : Int) (k : Nat) : 0 ≤ freshMany ll l k ∧ freshMany ll l k ≤ k := by
  unfold freshMany
  have := List.length_filter_le (fun c => freshTo ll l c c) (List.range k)
  simp at this
  omega
theorem lgroups_no {ll : List (List Int)} {l : Int} (h : lgroups ll l < 0) : lgroups ll l = -1 := by
  unfold lgroups at *
  split
  · rename_i hg; rw [if_pos hg] at h; have := groups_bd ll l 4; omega
  · rfl
set_option maxHeartbeats 1000000 in
theorem w_LadderGroups (A : Option Addr) (n c : Nat) (hnc : n ≤ c) (hn : n ≤ maxLen) (w : World) (hb : Bytes w w.heap.size A n) :
    Calls Try.prog 6 #[.slice A n c] w fun e w' => e = .returned (.bool true) ∧ Below w.heap.size w w' := by
  have hn2 := hn
  unfold maxLen at hn2
  have hall : 1048576 < n ∨ ¬ 1048576 < n := by omega
  rcases hall with hbig | hbig
  · go_enter Try.func6, Try.ntmps6
    go_wp2
    go_ret
    exact ⟨rfl, Below.refl _ _⟩
  · go_enter Try.func6, Try.ntmps6
    go_wp2_with fail
    refine (drawG_any A n c hnc hn _ hb).mono ?_
    rintro e W ⟨ll, B, d, l, rfl, hll, hlen, hld, hd, l0, l1, hbW⟩
    have HBW := Lib.hid hbW; clear hbW hb
    have hlm : ll.length ≤ maxLen := by simp only [maxLen]; omega
    by_cases hneg : lgroups ll l < 0
    · have hz := Lib.hid (lgroups_no hneg)
      clear hneg
      go_wp2_with fail
      refine (iGroups_at W ll _ rfl B d hll hlm l (-1) hz.out _ (Below.refl _ _)).mono ?_
      rintro e w1 ⟨rfl, b1⟩
      go_wp2_with fail
      refine (sGroups_at W ll _ rfl B d hll hlm l (-1) hz.out _ b1).mono ?_
      rintro e w2 ⟨rfl, b2⟩
      go_wp2
      go_ret
      exact ⟨by first | rfl | exact retb (by simp; omega) | exact retb (by simp), HBW.out.trans (b2.mono HBW.out.size)⟩
    · obtain ⟨f1, f2, f3, f4, _, _⟩ := m_groups (show 0 ≤ lgroups ll l by omega)
      obtain ⟨g, hg⟩ : ∃ g, lgroups ll l = g := ⟨_, rfl⟩
      obtain ⟨h, hh⟩ : ∃ h, lgroups ll (l + 1) = h := ⟨_, rfl⟩
      rw [hg] at f1 f2 f3 f4
      rw [hh] at f4
      have HG := Lib.hid hg
      have HH := Lib.hid hh
      clear hg hh hneg
      have hcase : (0 < l) ∨ (¬ 0 < l ∧ (g == 4) = true) := by
        by_cases e : 0 < l
        · exact .inl e
        · exact .inr ⟨e, by rw [beq_iff_eq]; exact f3.resolve_left e⟩
      clear f3
      go_wp2_with fail
      refine (iGroups_at W ll _ rfl B d hll hlm l g HG.out _ (Below.refl _ _)).mono ?_
      rintro e w1 ⟨rfl, b1⟩
      go_wp2_with fail
      refine (sGroups_at W ll _ rfl B d hll hlm l g HG.out _ b1).mono ?_
      rintro e w2 ⟨rfl, b2⟩
      go_wp2_with fail
      refine (iGroups_at W ll _ rfl B d hll hlm _ h HH.out _ b2).mono ?_
      rintro e w3 ⟨rfl, b3⟩
      rcases hcase with c1 | ⟨c1, c2⟩
      all_goals
        go_wp2
        go_ret
        exact ⟨by first | rfl | exact retb (by simp; omega) | exact retb (by simp), HBW.out.trans (b3.mono HBW.out.size)⟩
set_option maxHeartbeats 2000000 in
theorem w_LadderGroupsCodes (A : Option Addr) (n c : Nat) (hnc : n ≤ c) (hn : n ≤ maxLen) (w : World) (hb : Bytes w w.heap.size A n) :
    Calls Try.prog 7 #[.slice A n c] w fun e w' => e = .returned (.bool true) ∧ Below w.heap.size w w' := by
  have hn2 := hn
  unfold maxLen at hn2
  have hall : 1048576 < n ∨ ¬ 1048576 < n := by omega
  rcases hall with hbig | hbig
  · go_enter Try.func7, Try.ntmps7
    go_wp2
    go_ret
    exact ⟨rfl, Below.refl _ _⟩
  · go_enter Try.func7, Try.ntmps7
    go_wp2_with fail
    refine (drawG_any A n c hnc hn _ hb).mono ?_
    rintro e W ⟨ll, B, d, l, rfl, hll, hlen, hld, hd, l0, l1, hbW⟩
    have HBW := Lib.hid hbW; clear hbW hb
    have hlm : ll.length ≤ maxLen := by simp only [maxLen]; omega
    by_cases hneg : lgroups ll l < 0
    · have hz := Lib.hid (lgroups_no hneg)
      clear hneg
      go_wp2_with fail
      refine (iGroups_at W ll _ rfl B d hll hlm l (-1) hz.out _ (Below.refl _ _)).mono ?_
      rintro e w1 ⟨rfl, b1⟩
      go_wp2_with fail
      refine (sGroups_at W ll _ rfl B d hll hlm l (-1) hz.out _ b1).mono ?_
      rintro e w2 ⟨rfl, b2⟩
      go_wp2
      go_ret
      exact ⟨by first | rfl | exact retb (by simp; omega) | exact retb (by simp), HBW.out.trans (b2.mono HBW.out.size)⟩
    · obtain ⟨f1, f2, _, _, f5, f6⟩ := m_groups (show 0 ≤ lgroups ll l by omega)
      obtain ⟨g, hg⟩ : ∃ g, lgroups ll l = g := ⟨_, rfl⟩
      rw [hg] at f1 f2 f5
      have HG := Lib.hid hg
      have F5 := Lib.hid f5
      have F6 := Lib.hid f6
      clear hg hneg f5 f6
      go_wp2_with fail
      refine (iGroups_at W ll _ rfl B d hll hlm l g HG.out _ (Below.refl _ _)).mono ?_
      rintro e w1 ⟨rfl, b1⟩
      go_wp2_with fail
      refine (sGroups_at W ll _ rfl B d hll hlm l g HG.out _ b1).mono ?_
      rintro e w2 ⟨rfl, b2⟩
      go_wp2
      go_loopw [7, 8] (fun v i wr => ∃ k : Nat, k ≤ 4 ∧ i = .int .i64 k ∧ v = .int .i64 (freshMany ll l k) ∧ Below W.heap.size W wr) (fun _ i _ => 4 - (intOf i).toNat)
      case atStart => exact ⟨0, by omega, rfl, rfl, b2⟩
      case round =>
        obtain ⟨k, hk, rfl, rfl, b4⟩ := hrel
        obtain ⟨n0, n1⟩ := freshMany_bd ll l k
        obtain ⟨q, hq⟩ : ∃ q, freshMany ll l k = q := ⟨_, rfl⟩
        rw [hq] at n0 n1 ⊢
        have HQ := Lib.hid hq; clear hq
        have HS := Lib.hid (freshMany_succ ll l k)
        by_cases hlt : k < 4
        · have hki : (k : Int) < 4 := by omega
          obtain ⟨u, hu⟩ : ∃ u, lcode ll l k = u := ⟨_, rfl⟩
          have HU := Lib.hid hu; clear hu
          have P1 := Lib.hid (F6.out k hlt)
          go_wp2_with fail
          refine (iCode_at W ll _ rfl B d hll hlm l k u true HU.out P1.out _ b4).mono ?_
          rintro e w5 ⟨rfl, b5⟩
          go_wp2
          go_loopw [9, 12] (fun v i wr => ∃ j : Nat, j ≤ k ∧ i = .int .i64 j ∧ v = .bool (freshTo ll l k j) ∧ Below W.heap.size W wr) (fun _ i _ => k - (intOf i).toNat)
          case atStart => exact ⟨0, by omega, rfl, rfl, b5⟩
          case round =>
            obtain ⟨j, hj, rfl, rfl, b6⟩ := hrel
            have HT := Lib.hid (freshTo_succ ll l k j)
            by_cases hjt : j < k
            · have hji : (j : Int) < (k : Int) := by omega
              obtain ⟨v, hv⟩ : ∃ v, lcode ll l j = v := ⟨_, rfl⟩
              have HV := Lib.hid hv; clear hv
              have P2 := Lib.hid (F6.out j (by omega))
              go_wp2_with fail
              refine (iCode_at W ll _ rfl B d hll hlm l j v true HV.out P2.out _ b6).mono ?_
              rintro e w7 ⟨rfl, b7⟩
              obtain ⟨r, hr⟩ : ∃ r, freshTo ll l k (j + 1) = r := ⟨_, rfl⟩
              have hr2 := hr
              rw [HT.out, HV.out, HU.out] at hr2
              have HR := Lib.hid hr; clear hr
              cases hf : freshTo ll l k j
              · rw [hf] at hr2
                simp only [Bool.false_and] at hr2
                subst hr2
                clear hf
                go_wp2
                go_roundw
                case rel => exact ⟨j + 1, by omega, by go_num, by rw [HR.out], b7⟩
                case measure => simp [intOf]; omega
              · rw [hf] at hr2
                clear hf
                by_cases e : v = u
                · subst e
                  simp only [Bool.true_and, ne_eq, not_true_eq_false, decide_false] at hr2
                  subst hr2
                  go_wp2
                  go_roundw
                  case rel => exact ⟨j + 1, by omega, by go_num, by rw [HR.out], b7⟩
                  case measure => simp [intOf]; omega
                · have e1 : (v == u) = false := by rw [beq_eq_false_iff_ne]; exact e
                  have e2 : (v != u) = true := by rw [bne_iff_ne]; exact e
                  obtain rfl : r = true := by rw [← hr2]; simp [e]
                  clear hr2 e
                  go_wp2
                  go_roundw
                  case rel => exact ⟨j + 1, by omega, by go_num, by rw [HR.out], b7⟩
                  case measure => simp [intOf]; omega
            · have hjk : j = k := by omega
              have hji : ¬ (j : Int) < (k : Int) := by omega
              rw [hjk]
              have HJK := Lib.hid hjk; clear hjk
              cases hf : freshTo ll l k k
              all_goals
                have HF := Lib.hid hf; clear hf
                go_wp2
                go_roundw
                case rel => exact ⟨k + 1, by omega, by go_num, by rw [HS.out, HQ.out, HF.out]; simp, b6⟩
                case measure => simp [intOf]; omega
        · have hk4 : k = 4 := by omega
          have e : (q == g) = true := by rw [beq_iff_eq, ← HQ.out, hk4]; exact F5.out
          clear hk4
          go_wp2
          go_ret
          exact ⟨by first | rfl | exact retb (by simp), HBW.out.trans (b4.mono HBW.out.size)⟩
end Go.Proofs.Ytedmohmedldcgaa
