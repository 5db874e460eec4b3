/- Exact laws over rows of integers: their sizes, copies, equality. -/
import Derived.Test.YtmmabdioncgkoaaA7
import Derived.Test.YtmmabdioncgkoaaA3
namespace Go.Proofs.Ytmmabdioncgkoaa
open Go.RowKit
/-- A row anew, in one block of its own. -/
def CopiedI (x : List Int) (n : Nat) (w : World) (e : Ending) (w' : World) : Prop := ∃ g, e = .returned (.slice (some ⟨g, 0, none⟩) n n) ∧ w.heap.size ≤ g ∧ Own1 TN w' w.heap.size (.slice (some ⟨g, 0, none⟩) n n) (icells x) ∧ Below w.heap.size w w'
theorem toIntS_any (x : List Int) (n : Nat) (hn : n = x.length) (A : Option Addr) (c : Nat) (hl : n ≤ 1048576) (w : World) (hr : Row w w.heap.size A (icells x)) :
    Calls Try.prog 49 #[.slice A n c] w (CopiedI x n w) := by
  obtain ⟨ht, z, b, hi, hz1, hb8⟩ := one_I
  obtain ⟨i0, hi0, hz0, hs0, hs1⟩ := info_parts (P := Try.prog) (e := TN) (z := .int .i64 0) (size := 1) (bytes := 8) (by kernel_rfl)
  clear ht hi hz1 hb8
  have HN := Lib.hid hn; clear hn
  go_enter Try.func49, Try.ntmps49
  go_wp2_with (at_make; go_loud (refine wpList_make_full _ rfl _ _ TI rfl w.heap.size TN i0 (.int .i64 0) 1 Try.underlying36 hi0 hz0 hs0 _ _ _ _ n rfl rfl rfl rfl (by rw [hs1]; omega) (by simp only [maxLen]; omega) (Nat.le_refl _) ?_); intro w1 ho hg)
  have ho1 : Own1 TN w1 w.heap.size (.slice (some ⟨w.heap.size, 0, none⟩) n n) ((icells x).take 0 ++ List.replicate ((icells x).length - 0) (.int .i64 0)) := by
    have h := ho
    have e : (Value.int IntKind.i64 0).cells = #[.int .i64 0] := rfl
    rw [e, made_one] at h
    have hl : (icells x).length = n := by rw [icells_len, HN.out]
    unfold Own1
    simpa [hl] using h
  have HO := Lib.hid ho1
  have HB := Lib.hid (show Below w.heap.size w w1 from (Below.refl _ _).grown hg (Nat.le_refl _) (fun k hk => by cases hk))
  have hz := hg.size
  clear ho ho1 hg
  have hg1 := (HO.out.ob w.heap.size rfl).2
  obtain ⟨G, hG⟩ : ∃ G, w.heap.size = G := ⟨_, rfl⟩
  rw [hG] at HO HB hz hg1 hr ⊢
  have HG := Lib.hid hG; clear hG
  go_wp2
  go_loopw [4] (fun i wr => ∃ k : Nat, k ≤ n ∧ i = .int .i64 k ∧ Own1 TN wr G (.slice (some ⟨G, 0, none⟩) n n) ((icells x).take k ++ List.replicate ((icells x).length - k) (.int .i64 0)) ∧ Below G w wr) (fun i _ => n - (intOf i).toNat)
  case atStart => exact ⟨0, Nat.zero_le _, rfl, HO.out, HB.out⟩
  case round =>
    obtain ⟨k, hk, rfl, ho, hb⟩ := hrel
    clear HO HB
    have HO := Lib.hid ho; clear ho
    have HLX := Lib.hid (show (icells x).length = n by rw [icells_len, HN.out])
    by_cases hlt : k < n
    · have hki : (k : Int) < (n : Int) := by omega
      obtain ⟨b, o, rfl, hbw, c0⟩ := (hr.below hb (Nat.le_refl _)).int_ k (by rw [← HN.out]; exact hlt)
      have hkl : k < ((icells x).take k ++ List.replicate ((icells x).length - k) (Value.int .i64 0)).length := by simp [HLX.out]; omega
      have f0 := (HO.out.cellAt k hkl).2
      have hkx : k < (icells x).length := by rw [HLX.out]; exact hlt
      have hs := HO.out.setAt k (.int .i64 (x.getD k 0))
      have hxk : (icells x)[k] = .int .i64 (x.getD k 0) := by
        have h := icells_get (x := x) (k := k) (by rw [← HN.out]; exact hlt)
        rw [List.getElem?_eq_getElem hkx] at h; injection h
      rw [← hxk, set_midv (icells x) _ k hkx, hxk] at hs
      have HS := Lib.hid hs
      have hcell := (HO.out.cellAt k hkl).1
      obtain ⟨u, hu⟩ : ∃ u, ((icells x).take k ++ List.replicate ((icells x).length - k) (Value.int .i64 0))[k]? = some u := ⟨_, List.getElem?_eq_getElem hkl⟩
      rw [hu] at hcell
      clear hs hkl hkx hxk hu
      generalize x.getD k 0 = y at *
      go_wp2
      go_roundw
      case rel => exact ⟨k + 1, by omega, by go_num, HS.out, hb.setCell (p := ⟨G, k, none⟩) (Nat.le_refl G) _⟩
      case measure => simp [intOf]; omega
    · go_wp2
      go_ret
      have h := HO.out
      rw [List.take_of_length_le (by rw [HLX.out]; omega), show (icells x).length - k = 0 by rw [HLX.out]; omega, List.replicate_zero, List.append_nil] at h
      exact ⟨G, rfl, Nat.le_of_eq HG.out, by rw [HG.out]; exact h, by rw [HG.out]; exact hb⟩
def tot (ll : List (List Int)) : Nat := (ll.map List.length).sum
theorem tot_take (ll : List (List Int)) (k : Nat) (hk : k < ll.length) : tot (ll.take (k + 1)) = tot (ll.take k) + (ll.getD k []).length := by
  unfold tot
  rw [List.take_succ_eq_append_getElem hk, List.map_append, List.sum_append, List.getD_eq_getElem?_getD, List.getElem?_eq_getElem hk]; simp
theorem tot_le (ll : List (List Int)) (k : Nat) : tot (ll.take k) ≤ tot ll := by
  have h : tot ll = tot (ll.take k) + tot (ll.drop k) := by unfold tot; rw [← List.sum_append, ← List.map_append, List.take_append_drop]
  omega
theorem tot_at (ll : List (List Int)) (k : Nat) (hk : k < ll.length) : (ll.getD k []).length ≤ tot ll := by
  have h1 := tot_take ll k hk
  have h2 := tot_le ll (k + 1)
  omega
theorem szI_any (n : Nat) (A : Option Addr) (c : Nat) (left : Int) (hn : n ≤ maxLen) (h0 : 0 ≤ left) (h1 : left ≤ 1048576) (w : World) :
    Calls Try.prog 47 #[.slice A n c, .int .i64 left] w fun e w' => e = .returned (.int .i64 (if (n : Int) ≤ left then left - n else -1)) ∧ w = w' := by
  unfold maxLen at hn
  by_cases h : (n : Int) ≤ left
  · go_enter Try.func47, Try.ntmps47
    go_wp2
    go_ret
    exact ⟨rfl, rfl⟩
  · go_enter Try.func47, Try.ntmps47
    go_wp2
    go_ret
    exact ⟨rfl, rfl⟩
def fits (ll : List (List Int)) : Bool := decide (ll.length + tot ll ≤ 1048576)
def szOf (ll : List (List Int)) : Int := if fits ll = true then 1048576 - ll.length - tot ll else -1
theorem szSS_any (ll : List (List Int)) (n : Nat) (hn : n = ll.length) (A : Option Addr) (c : Nat) (hl : ll.length ≤ maxLen) (w : World) (hr : LL w w.heap.size A ll) :
    Calls Try.prog 12 #[.slice A n c, .int .i64 1048576] w fun e w' => e = .returned (.int .i64 (szOf ll)) ∧ w = w' := by
  have hl2 : n ≤ 2 ^ 63 - 1 := by rw [hn]; exact hl
  have HN := Lib.hid hn; clear hn
  by_cases hbig : n ≤ 1048576
  · go_enter Try.func12, Try.ntmps12
    go_wp2
    go_loopw [1, 5] (fun v i wr => ∃ k : Nat, k ≤ n ∧ i = .int .i64 k ∧ (n : Int) + tot (ll.take k) ≤ 1048576 ∧ v = .int .i64 (1048576 - n - tot (ll.take k)) ∧ w = wr) (fun _ i _ => n - (intOf i).toNat)
    case atStart => exact ⟨0, Nat.zero_le _, rfl, by simp [tot]; omega, by simp [tot], rfl⟩
    case round =>
      obtain ⟨k, hk, rfl, hle, rfl, rfl⟩ := hrel
      by_cases hlt : k < n
      · have hki : (k : Int) < (n : Int) := by omega
        have hkl : k < ll.length := by rw [← HN.out]; exact hlt
        obtain ⟨b, o, Ai, ci, rfl, _, c0, g1, g2, r0⟩ := hr.at_ k hkl
        have HT := Lib.hid (tot_take ll k hkl)
        have HLE := Lib.hid (tot_le ll (k + 1))
        have HLX := Lib.hid (show (ll.getD k []).length ≤ maxLen by omega)
        clear r0 hkl
        obtain ⟨x, hx⟩ : ∃ x, (ll.getD k []).length = x := ⟨_, rfl⟩
        rw [hx] at c0 HT HLX
        clear hx g1 g2
        obtain ⟨q, hq⟩ : ∃ q, tot (ll.take k) = q := ⟨_, rfl⟩
        rw [hq] at hle HT ⊢
        clear hq
        go_wp2_with fail
        refine (szI_any x Ai ci _ HLX.out (by omega) (by omega) _).mono ?_
        rintro e w' ⟨rfl, rfl⟩
        by_cases hx : (x : Int) ≤ 1048576 - n - q
        · rw [if_pos hx]
          go_wp2
          go_roundw
          case rel => exact ⟨k + 1, by omega, by go_num, by rw [HT.out]; omega, by rw [HT.out]; first | rfl | (congr 1; omega), by first | rfl | trivial⟩
          case measure => simp [intOf]; omega
        · rw [if_neg hx]
          have HNO := Lib.hid (show fits ll = false by
            have h1 := HT.out; have h2 := HLE.out; have h3 := HN.out
            simp only [fits, decide_eq_false_iff_not]; omega)
          go_wp2
          go_ret
          exact ⟨by simp [szOf, HNO.out], rfl⟩
      · have hkn : k = n := by omega
        have ht : ll.take k = ll := List.take_of_length_le (by rw [← HN.out]; omega)
        rw [ht] at hle ⊢
        have HYES := Lib.hid (show fits ll = true by have h3 := HN.out; simp only [fits, decide_eq_true_eq]; omega)
        clear hkn ht
        obtain ⟨q, hq⟩ : ∃ q, tot ll = q := ⟨_, rfl⟩
        rw [hq] at hle ⊢
        have HQ := Lib.hid hq; clear hq
        go_wp2
        go_ret
        exact ⟨reti (by simp [szOf, HYES.out, ← HN.out, HQ.out]), rfl⟩
  · have HNO := Lib.hid (show fits ll = false by have h3 := HN.out; simp only [fits, decide_eq_false_iff_not]; omega)
    go_enter Try.func12, Try.ntmps12
    go_wp2
    go_ret
    exact ⟨by simp [szOf, HNO.out], rfl⟩
end Go.Proofs.Ytmmabdioncgkoaa
