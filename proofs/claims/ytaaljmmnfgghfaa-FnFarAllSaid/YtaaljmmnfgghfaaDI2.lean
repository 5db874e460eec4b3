/- Contracts of the program: bands in a block. -/
import Derived.Test.YtaaljmmnfgghfaaDI
import Derived.BigQuiet
namespace Go.Proofs.Ytaaljmmnfgghfaa
open Go.RowKit Go.Maps
theorem take_at {m : List Int} {k : Nat} {v : Int} (h : m[k]? = some v) : m.take (k + 1) = m.take k ++ [v] := by
  obtain ⟨h1, h2⟩ := List.getElem?_eq_some_iff.1 h
  rw [List.take_succ_eq_append_getElem h1, h2]
theorem at_lt {m : List Int} {k n : Nat} (hm : m.length = n) (hk : k < n) : ∃ v, m[k]? = some v := ⟨m[k]'(by omega), List.getElem?_eq_getElem (by omega)⟩
set_option maxHeartbeats 1000000 in
theorem iDiff_any (m : List Int) (hm : m.length = 10) (hx : ∀ v ∈ m, 0 ≤ v) (g : Int) (hg : manyI m = g) (B : Nat) (w : World) (hB : BB w B m) :
    Calls Try.prog 27 #[.pointer (some ⟨B, 0, none⟩)] w fun e w' => e = .returned (.int .i64 g) ∧ w' = w := by
  have HX := Lib.hid hx
  have HG := Lib.hid hg
  have HM := Lib.hid hm
  have HC := Lib.hid (fun (i : Nat) (n : Int) (h : m[i]? = some n) => hB.cell h)
  clear hx hg hm hB
  go_enter Try.func27, Try.ntmps27
  go_wp2
  go_loopw [3, 7] (fun v i wr => ∃ j : Nat, j ≤ 10 ∧ i = .int .i64 j ∧ v = .int .i64 (manyI (m.take j)) ∧ wr = w) (fun _ i _ => 10 - (intOf i).toNat)
  case atStart => exact ⟨0, Nat.zero_le _, rfl, rfl, rfl⟩
  case round =>
    obtain ⟨j, hj, rfl, rfl, rfl⟩ := hrel
    by_cases hlt : j < 10
    · have hji : (j : Int) < 10 := by omega
      obtain ⟨z, hz⟩ := at_lt HM.out hlt
      have hm := manyI_bd (m.take j) fun v hv => HX.out v (List.mem_of_mem_take hv)
      have hl := List.length_take_le j m
      have HS := Lib.hid (show manyI (m.take (j + 1)) = manyI (m.take j) + if 1 ≤ z then 1 else z by rw [take_at hz, manyI_snoc])
      have hz0 := HX.out z (List.mem_of_getElem? hz)
      have c0 := HC.out j z hz
      obtain ⟨s, hs⟩ : ∃ s, manyI (m.take j) = s := ⟨_, rfl⟩
      rw [hs] at HS hm ⊢
      clear hs hz
      by_cases h1 : 0 < z
      · rw [if_pos (show 1 ≤ z by omega)] at HS
        go_wp2
        go_roundw
        case rel => exact ⟨j + 1, by omega, by go_num, by rw [HS.out], trivial⟩
        case measure => simp [intOf]; omega
      · have hz1 : z = 0 := by omega
        subst hz1
        rw [if_neg (by omega)] at HS
        go_wp2
        go_roundw
        case rel => exact ⟨j + 1, by omega, by go_num, by rw [HS.out]; simp, trivial⟩
        case measure => simp [intOf]; omega
    · have hjq : j = 10 := by omega
      have hall : manyI (m.take j) = g := by rw [hjq, ← HM.out, List.take_length]; exact HG.out
      rw [hall]
      go_wp2
      go_ret
      exact ⟨rfl, rfl⟩
theorem sum_bd : ∀ x : List Int, (∀ v ∈ x, 0 ≤ v ∧ v ≤ 1000) → 0 ≤ x.sum ∧ x.sum ≤ 1000 * x.length
  | [], _ => by simp
  | v :: x, h => by
    have h1 := sum_bd x fun u hu => h u (List.mem_cons_of_mem _ hu)
    have h2 := h v (by simp)
    rw [List.sum_cons, List.length_cons]; omega
set_option maxHeartbeats 1000000 in
theorem iPpl_any (m : List Int) (hm : m.length = 10) (hx : ∀ v ∈ m, 0 ≤ v ∧ v ≤ 1000) (g : Int) (hg : m.sum = g) (B : Nat) (w : World) (hB : BB w B m) :
    Calls Try.prog 47 #[.pointer (some ⟨B, 0, none⟩)] w fun e w' => e = .returned (.int .i64 g) ∧ w' = w := by
  have HX := Lib.hid hx
  have HG := Lib.hid hg
  have HM := Lib.hid hm
  have HC := Lib.hid (fun (i : Nat) (n : Int) (h : m[i]? = some n) => hB.cell h)
  clear hx hg hm hB
  go_enter Try.func47, Try.ntmps47
  go_wp2
  go_loopw [3, 7] (fun v i wr => ∃ j : Nat, j ≤ 10 ∧ i = .int .i64 j ∧ v = .int .i64 (m.take j).sum ∧ wr = w) (fun _ i _ => 10 - (intOf i).toNat)
  case atStart => exact ⟨0, Nat.zero_le _, rfl, rfl, rfl⟩
  case round =>
    obtain ⟨j, hj, rfl, rfl, rfl⟩ := hrel
    by_cases hlt : j < 10
    · have hji : (j : Int) < 10 := by omega
      obtain ⟨z, hz⟩ := at_lt HM.out hlt
      have hm := sum_bd (m.take j) fun v hv => HX.out v (List.mem_of_mem_take hv)
      have hl := List.length_take_le j m
      have HS := Lib.hid (show (m.take (j + 1)).sum = (m.take j).sum + z by rw [take_at hz, List.sum_append]; simp)
      have hz0 := HX.out z (List.mem_of_getElem? hz)
      have c0 := HC.out j z hz
      obtain ⟨s, hs⟩ : ∃ s, (m.take j).sum = s := ⟨_, rfl⟩
      rw [hs] at HS hm ⊢
      clear hs hz
      go_wp2
      go_roundw
      case rel => exact ⟨j + 1, by omega, by go_num, by rw [HS.out], trivial⟩
      case measure => simp [intOf]; omega
    · have hjq : j = 10 := by omega
      have hall : (m.take j).sum = g := by rw [hjq, ← HM.out, List.take_length]; exact HG.out
      rw [hall]
      go_wp2
      go_ret
      exact ⟨rfl, rfl⟩
/-- How far two rows of bands lie apart, up to a band. -/
theorem rowB_get {α : Type} [DecidableEq α] (y : List (α × Int)) (a : α) {i : Nat} (hi : i < 10) : (rowB y a)[i]? = some ((nb y a (i : Int) : Nat) : Int) := rowB_in y a hi
theorem rowB_small {α : Type} [DecidableEq α] {y : List (α × Int)} (h : y.length ≤ 1000) (a : α) : ∀ v ∈ rowB y a, 0 ≤ v ∧ v ≤ 1000 := fun v hv => by
  obtain ⟨i, _, rfl⟩ := List.mem_map.1 hv
  have := nb_len y a (i : Int); omega
set_option maxHeartbeats 2000000 in
theorem iFar_any {α : Type} [DecidableEq α] (y : List (α × Int)) (hy : Bn y) (h40 : y.length ≤ 40) (a : α) (g : Int) (hg : ((dfar y a : Nat) : Int) = g) (B C : Nat) (w : World) (hB : BB w B (rowB y a)) (hC : BB w C (rowB (ub y) ())) :
    Calls Try.prog 34 #[.pointer (some ⟨B, 0, none⟩), .pointer (some ⟨C, 0, none⟩)] w fun e w' => e = .returned (.int .i64 g) ∧ Below w.heap.size w w' := by
  have HG := Lib.hid hg
  have HB := Lib.hid hB
  have HC := Lib.hid hC
  have HPB := Lib.hid (rowB_sum hy a)
  have HPC := Lib.hid (show (rowB (ub y) ()).sum = (y.length : Int) by rw [rowB_sum (bn_ub hy), kn_ub])
  have HSB := Lib.hid (rowB_small (show y.length ≤ 1000 by omega) a)
  have HSC := Lib.hid (rowB_small (show (ub y).length ≤ 1000 by unfold ub; rw [List.length_map]; omega) ())
  obtain ⟨q, hq⟩ : ∃ q, y.length = q := ⟨_, rfl⟩
  obtain ⟨z, hz⟩ : ∃ z, kn y a = z := ⟨_, rfl⟩
  have hzq : z ≤ q := by rw [← hz, ← hq]; exact kn_le y a
  rw [hq] at HPC h40
  rw [hz] at HPB
  have HDD := Lib.hid (show ∀ b : Nat, dd y a (b : Int) = ((nb y a (b : Int) : Nat) : Int) * q - ((nb (ub y) () (b : Int) : Nat) : Int) * z from fun b => by rw [dd, hq, hz, nb_ub])
  have HNB := Lib.hid (show ∀ b : Nat, nb y a (b : Int) ≤ q ∧ nb (ub y) () (b : Int) ≤ q from fun b => ⟨by rw [← hq]; exact nb_len y a _, by rw [← hq]; have h := nb_len (ub y) () (b : Int); unfold ub at h; rw [List.length_map] at h; exact h⟩)
  clear hg hB hC hq hz hy
  go_enter Try.func34, Try.ntmps34
  go_wp2_with fail
  refine (iPpl_any _ (rowB_len _ _) HSB.out z HPB.out B w HB.out).mono ?_
  rintro e w' ⟨rfl, rfl⟩
  go_wp2_with fail
  refine (iPpl_any _ (rowB_len _ _) HSC.out q HPC.out C _ HC.out).mono ?_
  rintro e w' ⟨rfl, rfl⟩
  go_wp2
  go_loopw [7, 16] (fun v i wr => ∃ b : Nat, b ≤ 10 ∧ i = .int .i64 b ∧ v = .int .i64 (farTo y a b) ∧ farTo y a b ≤ b * 3200 ∧ Below w'.heap.size w' wr) (fun _ i _ => 10 - (intOf i).toNat)
  case atStart => exact ⟨0, Nat.zero_le _, rfl, rfl, Nat.zero_le _, Below.refl _ _⟩
  case round =>
    obtain ⟨b, hb10, rfl, rfl, hfb, hb⟩ := hrel
    by_cases hlt : b < 10
    · have hbi : (b : Int) < 10 := by omega
      obtain ⟨f, hf⟩ : ∃ f, f = farTo y a b := ⟨_, rfl⟩
      have HS := Lib.hid (show farTo y a (b + 1) = f + (dd y a (b : Int)).natAbs by rw [hf]; exact farTo_succ y a b)
      rw [← hf] at hfb ⊢
      clear hf
      obtain ⟨n1, n2⟩ := HNB.out b
      have e0 := HDD.out b
      have c0 := (hb.cell (p := ⟨B, b, none⟩) HB.out.lt).trans (HB.out.cell (rowB_get y a hlt))
      have c1 := (hb.cell (p := ⟨C, b, none⟩) HC.out.lt).trans (HC.out.cell (rowB_get (ub y) () hlt))
      obtain ⟨n, hn⟩ : ∃ n, nb y a (b : Int) = n := ⟨_, rfl⟩
      obtain ⟨t, ht⟩ : ∃ t, nb (ub y) () (b : Int) = t := ⟨_, rfl⟩
      rw [hn] at n1 c0 e0
      rw [ht] at n2 c1 e0
      obtain ⟨P0, P1, T0, T1⟩ := dd_bd (s := z) h40 n1 n2 hzq
      rw [e0] at HS
      clear hn ht e0
      by_cases hd : (n : Int) * q - (t : Int) * z < 0
      · go_wp2
        go_quiet (fail)
        go_wp2
        go_roundw
        case rel => exact ⟨b + 1, by omega, by go_num, by rw [HS.out]; congr 1; omega, by rw [HS.out]; omega, below_draws hb _⟩
        case measure => simp [intOf]; omega
      · go_wp2
        go_quiet (fail)
        go_wp2
        go_roundw
        case rel => exact ⟨b + 1, by omega, by go_num, by rw [HS.out]; congr 1; omega, by rw [HS.out]; omega, below_draws hb _⟩
        case measure => simp [intOf]; omega
    · obtain rfl : b = 10 := by omega
      rw [farTo_ten, HG.out]
      go_wp2
      go_ret
      exact ⟨rfl, hb⟩
end Go.Proofs.Ytaaljmmnfgghfaa
