import Derived.Test.YtbngajmpeepnmaaLI2
import Derived.Test.YtbngajmpeepnmaaL5
import Derived.Test.YtbngajmpeepnmaaLS
import Derived.Lib.SliceRun
namespace Go.Proofs.Ytbngajmpeepnmaa
open Go.RowKit
theorem one_CL : OneCell TCL TI := ⟨Try.underlying42, .slice none 0 0, 24, by kernel_rfl, rfl, by omega⟩
/-- A row of integers of one's own is handed back. -/
def GivesI (x : List Int) (w : World) (e : Ending) (w' : World) : Prop := ∃ A c, e = .returned (.slice A x.length c) ∧ Own1 TN w' w.heap.size (.slice A x.length c) (icells x) ∧ Below w.heap.size w w'
theorem iClone_any (x : List Int) (hx : 0 < x.length) (hx2 : x.length ≤ 1000000) (A : Option Addr) (n c : Nat) (hn : n = x.length) (w : World) (hr : Row w w.heap.size A (icells x)) :
    Calls Try.prog 46 #[.slice A n c] w (GivesI x w) := by
  obtain ⟨b, o, rfl, _, _⟩ := hr.int_ 0 hx
  have HX := Lib.hid hx2; clear hx2
  have HN := Lib.hid hn; clear hn hx
  have q := fun w : World => Lib.run_eql_slice_nil (P := Try.prog) w 28 TN (some ⟨b, o, none⟩) n c 0 0 Try.underlying28
  go_enter Try.func46, Try.ntmps46
  go_wp2_with (at_builtin
               refine app1 one_I rfl (.tmp 5) (.tmp 6) rfl w.heap.size _ [] rfl (own1_new (Nat.le_refl _)) w.heap.size (some ⟨b, o, none⟩) n c (icells x) (by rw [icells_len]; exact HN.out) rfl ((hr.below ((Below.refl w.heap.size w).alloc (Nat.le_refl _) _) (Nat.le_refl _))) (icells_one x) (by rw [icells_len]; simpa using HX.out) (by simp) ?_
               intro v6 w6 ho6 hg6 _
               rw [List.nil_append] at ho6
               have HB6 := Lib.hid (below_own1 (W := w) ((Below.refl _ _).alloc (Nat.le_refl _) _) (own1_new (Nat.le_refl _)) hg6)
               obtain ⟨A6, c6, hv6, _, _, _, _⟩ := ho6.form
               rw [icells_len] at hv6
               subst hv6
               have HO6 := Lib.hid ho6
               clear ho6 hg6)
  go_ret
  exact ⟨A6, c6, rfl, HO6.out, HB6.out⟩
theorem mcell_lost {ll : List (List Int)} {x y K L z : Int} {k : Nat} (hz : codeAt ll ll.length k = z) (h : (K = x ∧ L = y ∧ x < y) ∨ (K = y ∧ L = x ∧ y < x)) : mcell ll x y k = if z = L then K else z := by
  unfold mcell
  rw [hz]
  rcases h with ⟨rfl, rfl, h⟩ | ⟨rfl, rfl, h⟩
  · by_cases h1 : z = K
    · subst h1; rw [if_pos (.inl rfl)]; simp; omega
    · by_cases h2 : z = L
      · subst h2; rw [if_pos (.inr rfl), if_pos rfl]; omega
      · rw [if_neg (by simp [h1, h2]), if_neg h2]
  · by_cases h1 : z = K
    · subst h1; rw [if_pos (.inr rfl)]; simp; omega
    · by_cases h2 : z = L
      · subst h2; rw [if_pos (.inl rfl), if_pos rfl]; omega
      · rw [if_neg (by simp [h1, h2]), if_neg h2]
set_option maxHeartbeats 1000000 in
theorem iMStep_any (ll : List (List Int)) (hok : ladOk ll = true) (A : Option Addr) (n c : Nat) (hn : n = ll.length) (a b : Int) (a0 : 0 ≤ a) (a1 : a ≤ 3) (b0 : 0 ≤ b) (b1 : b ≤ 3) (hne : codeAt ll ll.length a ≠ codeAt ll ll.length b)
    (w : World) (hr : LL w w.heap.size A ll) :
    Calls Try.prog 47 #[.slice A n c, .int .i64 a, .int .i64 b] w (GivesI (mrow ll a b 4) w) := by
  have h3 := lad_len hok
  have hn3 : n ≤ 3 := by omega
  have HOK := Lib.hid hok
  have HN := Lib.hid hn
  rw [← hn] at hne
  clear hn hok
  obtain ⟨ht, z, bz, hi, hz1, hb8⟩ := one_I
  obtain ⟨i0, hi0, hz0, hs0, hs1⟩ := info_parts (P := Try.prog) (e := TN) (z := .int .i64 0) (size := 1) (bytes := 8) (by kernel_rfl)
  clear ht hi hz1 hb8 bz z
  have L0 := Lib.hid (show ∀ j : Int, 0 ≤ j → j ≤ 3 → (n : Int) ≠ 0 → j.toNat < (ll.getD (((n : Int) - 1).toNat) []).length from fun j _ h1 => lad_code HOK.out (level := n) (code := j) (by omega) (by rw [HN.out]; omega) h1)
  obtain ⟨x, hx⟩ : ∃ x, codeAt ll n a = x := ⟨_, rfl⟩
  obtain ⟨y, hy⟩ : ∃ y, codeAt ll n b = y := ⟨_, rfl⟩
  rw [hx, hy] at hne
  have HX := Lib.hid hx; have HY := Lib.hid hy
  clear hx hy
  obtain ⟨K, L, hKL⟩ : ∃ K L, (K = x ∧ L = y ∧ x < y) ∨ (K = y ∧ L = x ∧ y < x) := by
    rcases (show x < y ∨ y < x by omega) with h | h
    · exact ⟨x, y, .inl ⟨rfl, rfl, h⟩⟩
    · exact ⟨y, x, .inr ⟨rfl, rfl, h⟩⟩
  have HM := Lib.hid (show ∀ (k : Nat) z, codeAt ll ll.length k = z → icells (mrow ll a b (k + 1)) = icells (mrow ll a b k) ++ [.int .i64 (if z = L then K else z)] from fun k z hz => by
    rw [mrow_succ, ← HN.out, HX.out, HY.out, mcell_lost hz hKL, icells_app]; rfl)
  clear hne
  have HML := Lib.hid (show (icells (mrow ll a b 4)).length = 4 by rw [icells_len, mrow_len])
  rcases hKL with ⟨rfl, rfl, hxy⟩ | ⟨rfl, rfl, hxy⟩
  all_goals
    go_enter Try.func47, Try.ntmps47
    go_wp2_with fail
    refine (iCode_any ll (lad_len HOK.out) A n c HN.out n a (by omega) (by rw [HN.out]; omega) a0 (L0.out a a0 a1) _ hr).mono ?_
    rintro e w' ⟨rfl, rfl⟩
    rw [HX.out]
    go_wp2_with fail
    refine (iCode_any ll (lad_len HOK.out) A n c HN.out n b (by omega) (by rw [HN.out]; omega) b0 (L0.out b b0 b1) _ hr).mono ?_
    rintro e w' ⟨rfl, rfl⟩
    rw [HY.out]
    go_wp2_with fail
    refine (iCode_any ll (lad_len HOK.out) A n c HN.out n a (by omega) (by rw [HN.out]; omega) a0 (L0.out a a0 a1) _ hr).mono ?_
    rintro e w' ⟨rfl, rfl⟩
    rw [HX.out]
    go_wp2_with fail
    refine (iCode_any ll (lad_len HOK.out) A n c HN.out n b (by omega) (by rw [HN.out]; omega) b0 (L0.out b b0 b1) _ hr).mono ?_
    rintro e w' ⟨rfl, rfl⟩
    rw [HY.out]
    go_wp2_with (at_make; go_loud (refine wpList_make_full _ rfl _ _ 28 rfl w.heap.size TN i0 (.int .i64 0) 1 Try.underlying28 hi0 hz0 hs0 _ _ _ _ 4 rfl rfl rfl rfl (by rw [hs1]; omega) (by simp only [maxLen]; omega) (Nat.le_refl _) ?_); intro w1 ho hg)
    have ho1 : Own1 TN w1 w.heap.size (.slice (some ⟨w.heap.size, 0, none⟩) 4 4) (icells (mrow ll a b 0) ++ List.replicate 4 (.int .i64 0)) := by
      have h := ho
      have e : (Value.int IntKind.i64 0).cells = #[.int .i64 0] := rfl
      rw [e, made_one] at h
      exact h
    have HO := Lib.hid ho1
    have HB := Lib.hid (show Below w.heap.size w w1 from (Below.refl _ _).grown hg (Nat.le_refl _) (fun k hk => by cases hk))
    have hz := hg.size
    clear ho ho1 hg hi0 hz0 hs0 hs1
    have hg1 := (HO.out.ob w.heap.size rfl).2
    obtain ⟨G, hG⟩ : ∃ G, w.heap.size = G := ⟨_, rfl⟩
    rw [hG] at HO HB hz hg1 hr ⊢
    have HG := Lib.hid hG; clear hG
    have HR := Lib.hid hr; clear hr
    go_loopw [35] (fun i wr => ∃ k : Nat, k ≤ 4 ∧ i = .int .i64 k ∧ Own1 TN wr G (.slice (some ⟨G, 0, none⟩) 4 4) (icells (mrow ll a b k) ++ List.replicate (4 - k) (.int .i64 0)) ∧ Below G w wr) (fun i _ => 4 - (intOf i).toNat)
    case atStart => exact ⟨0, Nat.zero_le _, rfl, HO.out, HB.out⟩
    case round =>
      obtain ⟨k, hk, rfl, ho, hb⟩ := hrel
      clear HO HB
      have HO := Lib.hid ho; clear ho
      have HB := Lib.hid hb
      have hz5 := hb.size; clear hb
      by_cases hlt : k < 4
      · have hki : (k : Int) < 4 := by omega
        go_wp2_with fail
        refine (iCode_any ll (lad_len HOK.out) A n c HN.out n k (by omega) (by rw [HN.out]; omega) (by omega) (L0.out k (by omega) (by omega)) _ ((HR.out.below HB.out (Nat.le_refl _)).more (by rw [HG.out] at *; omega))).mono ?_
        rintro e w' ⟨rfl, rfl⟩
        obtain ⟨z, hzz⟩ : ∃ z, codeAt ll n k = z := ⟨_, rfl⟩
        rw [hzz]
        have HS := Lib.hid (HM.out k z (by rw [← HN.out]; exact hzz))
        clear hzz
        have hkl : k < (icells (mrow ll a b k) ++ List.replicate (4 - k) (Value.int .i64 0)).length := by simp [icells_len, mrow_len]; omega
        obtain ⟨c0, f0⟩ := HO.out.cellAt k hkl
        obtain ⟨u, hu⟩ : ∃ u, (icells (mrow ll a b k) ++ List.replicate (4 - k) (Value.int .i64 0))[k]? = some u := ⟨_, List.getElem?_eq_getElem hkl⟩
        rw [hu] at c0
        have hset : ∀ v, (icells (mrow ll a b k) ++ List.replicate (4 - k) (Value.int .i64 0)).set k v = (icells (mrow ll a b k) ++ [v]) ++ List.replicate (4 - (k + 1)) (Value.int .i64 0) := fun v => by
          have e : 4 - k = (4 - (k + 1)) + 1 := by omega
          rw [e, List.replicate_succ, List.set_append_right _ _ (by simp [icells_len, mrow_len]), icells_len, mrow_len, Nat.sub_self, List.set_cons_zero, List.append_assoc]; rfl
        have hset2 : ∀ v v', ((icells (mrow ll a b k) ++ [v]) ++ List.replicate (4 - (k + 1)) (Value.int .i64 0)).set k v' = (icells (mrow ll a b k) ++ [v']) ++ List.replicate (4 - (k + 1)) (Value.int .i64 0) := fun v v' => by
          rw [← hset v, List.set_set, hset v']
        have HW1 := Lib.hid (show Own1 TN (wr.setCell ⟨G, k, none⟩ (.int .i64 z)) G (.slice (some ⟨G, 0, none⟩) 4 4) ((icells (mrow ll a b k) ++ [.int .i64 z]) ++ List.replicate (4 - (k + 1)) (.int .i64 0)) by
          rw [← hset]; exact HO.out.setAt k _)
        have HW2 := Lib.hid (show Own1 TN ((wr.setCell ⟨G, k, none⟩ (.int .i64 z)).setCell ⟨G, k, none⟩ (.int .i64 K)) G (.slice (some ⟨G, 0, none⟩) 4 4) ((icells (mrow ll a b k) ++ [.int .i64 K]) ++ List.replicate (4 - (k + 1)) (.int .i64 0)) by
          rw [← hset2 (.int .i64 z)]; exact HW1.out.setAt k _)
        have HB1 := Lib.hid (HB.out.setCell (p := ⟨G, k, none⟩) (Nat.le_refl G) (.int .i64 z))
        have HB2 := Lib.hid (HB1.out.setCell (p := ⟨G, k, none⟩) (Nat.le_refl G) (.int .i64 K))
        clear hset hset2 hkl hu
        by_cases hzL : z = L
        · have HZ := Lib.hid hzL
          have hzb : (z == L) = true := by rw [beq_iff_eq]; exact hzL
          clear hzL
          go_wp2
          go_roundw
          case rel => exact ⟨k + 1, by omega, by go_num, by rw [HS.out, if_pos HZ.out]; exact HW2.out, HB2.out⟩
          case measure => simp [intOf]; omega
        · have HZ := Lib.hid hzL
          have hzb : (z == L) = false := by rw [beq_eq_false_iff_ne]; exact hzL
          clear hzL
          go_wp2
          go_roundw
          case rel => exact ⟨k + 1, by omega, by go_num, by rw [HS.out, if_neg HZ.out]; exact HW1.out, HB1.out⟩
          case measure => simp [intOf]; omega
      · have hki : ¬ (k : Int) < 4 := by omega
        obtain rfl : k = 4 := by omega
        go_wp2
        go_ret
        have h := HO.out
        rw [Nat.sub_self, List.replicate_zero, List.append_nil] at h
        refine ⟨some ⟨G, 0, none⟩, 4, by rw [mrow_len]; rfl, ?_, by rw [HG.out]; exact HB.out⟩
        rw [mrow_len, HG.out]; exact h
end Go.Proofs.Ytbngajmpeepnmaa
