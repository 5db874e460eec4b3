import Derived.Test.YtbbgakbobefplaaT5
namespace Go.Proofs.Ytbbgakbobefplaa
open Go.RowKit
theorem sum_take (F : List Pn) (k : Nat) (hk : k < F.length) : ((F.take (k + 1)).map Pn.pay).sum = ((F.take k).map Pn.pay).sum + F[k].pay := by
  rw [List.take_succ_eq_append_getElem hk, List.map_append, List.sum_append]; simp
theorem sum_bd (F : List Pn) (h : F.all okP = true) : 0 ≤ (F.map Pn.pay).sum ∧ (F.map Pn.pay).sum ≤ 999 * F.length := by
  induction F with
  | nil => simp
  | cons p l ih =>
    simp only [List.all_cons, Bool.and_eq_true] at h
    have hp := okP_pay h.1
    have hi := ih h.2
    simp only [List.map_cons, List.sum_cons, List.length_cons] at *
    omega
theorem many_any (l : List Pn) (A : Option Addr) (c : Nat) (a j s : Int) (w : World) (hr : Row w w.heap.size A (pcells l)) (hl : l.length ≤ maxLen) :
    Calls Try.prog 19 #[.slice A l.length c, .int .i64 a, .int .i64 j, .int .i64 s] w fun e w' => e = .returned (.int .i64 (many l a j s)) ∧ Below w.heap.size w w' := by
  have hl' := hl
  unfold maxLen at hl'
  cases hv : askOk l a j s
  · go_enter Try.func19, Try.ntmps19
    go_wp2_with fail
    refine (choose_any l A c a j s _ hr hl).mono ?_
    intro e w1 hq
    unfold Chosen at hq
    rw [if_neg (by simp [hv])] at hq
    obtain ⟨rfl, hb⟩ := hq
    go_wp2
    go_ret
    exact ⟨reti (by simp [many, hv]), hb⟩
  · have HF : ∃ F, Hid (l.filter (fun p => fit3 p a j s) = F) := ⟨_, Lib.hid rfl⟩
    obtain ⟨F, HF⟩ := HF
    have hFl : F.length ≤ l.length := by rw [← HF.out]; exact List.length_filter_le _ _
    have HV := Lib.hid hv
    go_enter Try.func19, Try.ntmps19
    go_wp2_with fail
    refine (choose_any l A c a j s _ hr hl).mono ?_
    intro e w1 hq
    unfold Chosen at hq
    rw [if_pos hv, HF.out] at hq
    clear hv
    obtain ⟨h, q, y, rfl, hh, hn, hc, hb⟩ := hq
    obtain ⟨_, _, _, _, n4, n5⟩ := hn.cells
    have HC := Lib.hid hc; clear hc hn
    go_wp2
    go_loopg [11, 12] F.length (fun n v x wr => ∃ k lo : Nat, ∃ u, k + n = F.length ∧ v = .int .i64 k ∧ x = .pointer u ∧ wr = w1 ∧ Chain TL w1 lo (.pointer u) (F.drop k))
    case atStart => obtain ⟨u, rfl⟩ := HC.out.ptr; exact ⟨0, _, u, by omega, rfl, rfl, rfl, HC.out⟩
    case round =>
      obtain ⟨k, lo, u, hk, rfl, rfl, rfl, hc⟩ := hrel
      have hk1 : k ≤ F.length := by omega
      have HK := Lib.hid hk; clear hk
      by_cases hlt : k < F.length
      · rw [List.drop_eq_getElem_cons hlt] at hc
        obtain ⟨b, x', hbm, hu, hnb, hc⟩ := hc
        obtain rfl : u = some ⟨b, 0, none⟩ := by injection hu
        obtain ⟨u', rfl⟩ := hc.ptr
        obtain ⟨_, _, _, _, c4, c5⟩ := hnb.cells
        have HC' := Lib.hid hc; clear hc hnb hu
        go_wp2
        go_roundg (F.length - (k + 1))
        case measure => have := HK.out; omega
        case rel => exact ⟨k + 1, _, u', by have := HK.out; omega, by go_num, rfl, rfl, HC'.out⟩
      · rw [List.drop_eq_nil_of_le (by omega)] at hc
        obtain rfl : u = none := by injection hc
        clear hc
        go_wp2
        go_ret
        exact ⟨reti (by simp only [many, if_pos HV.out, cnt, HF.out]; omega), hb⟩
theorem pay_any (l : List Pn) (A : Option Addr) (c : Nat) (a j s : Int) (w : World) (hr : Row w w.heap.size A (pcells l)) (hl : l.length ≤ maxLen) :
    Calls Try.prog 21 #[.slice A l.length c, .int .i64 a, .int .i64 j, .int .i64 s] w fun e w' => e = .returned (.int .i64 (pay l a j s)) ∧ Below w.heap.size w w' := by
  have hl' := hl
  unfold maxLen at hl'
  cases hv : askOk l a j s
  · go_enter Try.func21, Try.ntmps21
    go_wp2_with fail
    refine (choose_any l A c a j s _ hr hl).mono ?_
    intro e w1 hq
    unfold Chosen at hq
    rw [if_neg (by simp [hv])] at hq
    obtain ⟨rfl, hb⟩ := hq
    go_wp2
    go_ret
    exact ⟨reti (by simp [pay, hv]), hb⟩
  · have HF : ∃ F, Hid (l.filter (fun p => fit3 p a j s) = F) := ⟨_, Lib.hid rfl⟩
    obtain ⟨F, HF⟩ := HF
    have hFl : F.length ≤ l.length := by rw [← HF.out]; exact List.length_filter_le _ _
    have hv2 : okL l = true := by simp only [askOk, Bool.and_eq_true] at hv; exact hv.1
    obtain ⟨h40, hall⟩ := okL_all hv2
    have HA := Lib.hid (show F.all okP = true by rw [← HF.out, List.all_eq_true]; exact fun x hx => List.all_eq_true.1 hall x (List.mem_filter.1 hx).1)
    have HV := Lib.hid hv
    clear hall hv2
    go_enter Try.func21, Try.ntmps21
    go_wp2_with fail
    refine (choose_any l A c a j s _ hr hl).mono ?_
    intro e w1 hq
    unfold Chosen at hq
    rw [if_pos hv, HF.out] at hq
    clear hv
    obtain ⟨h, q, y, rfl, hh, hn, hc, hb⟩ := hq
    obtain ⟨_, _, _, _, n4, n5⟩ := hn.cells
    have HC := Lib.hid hc; clear hc hn
    go_wp2
    go_loopg [11, 12] F.length (fun n v x wr => ∃ k lo : Nat, ∃ u, k + n = F.length ∧ v = .int .i64 ((F.take k).map Pn.pay).sum ∧ x = .pointer u ∧ wr = w1 ∧ Chain TL w1 lo (.pointer u) (F.drop k))
    case atStart => obtain ⟨u, rfl⟩ := HC.out.ptr; exact ⟨0, _, u, by omega, rfl, rfl, rfl, HC.out⟩
    case round =>
      obtain ⟨k, lo, u, hk, rfl, rfl, rfl, hc⟩ := hrel
      have hk1 : k ≤ F.length := by omega
      have HK := Lib.hid hk; clear hk
      have hsb := sum_bd (F.take k) (all_take HA.out k)
      have htl : (F.take k).length ≤ k := List.length_take_le _ _
      by_cases hlt : k < F.length
      · have hpb := okP_pay (p := F[k]) (List.all_eq_true.1 HA.out F[k] (List.getElem_mem hlt))
        have HT := Lib.hid (sum_take F k hlt)
        rw [List.drop_eq_getElem_cons hlt] at hc
        obtain ⟨b, x', hbm, hu, hnb, hc⟩ := hc
        obtain rfl : u = some ⟨b, 0, none⟩ := by injection hu
        obtain ⟨u', rfl⟩ := hc.ptr
        obtain ⟨c0, c1, c2, c3, c4, c5⟩ := hnb.cells
        have HC' := Lib.hid hc; clear hc hnb hu
        generalize ((F.take k).map Pn.pay).sum = S at *
        go_wp2
        go_roundg (F.length - (k + 1))
        case measure => have := HK.out; omega
        case rel => exact ⟨k + 1, _, u', by have := HK.out; omega, by rw [HT.out], rfl, rfl, HC'.out⟩
      · rw [List.drop_eq_nil_of_le (by omega)] at hc
        obtain rfl : u = none := by injection hc
        clear hc
        go_wp2
        go_ret
        exact ⟨reti (by rw [List.take_of_length_le (by omega)]; simp only [pay, if_pos HV.out, psum, HF.out]), hb⟩
end Go.Proofs.Ytbbgakbobefplaa
