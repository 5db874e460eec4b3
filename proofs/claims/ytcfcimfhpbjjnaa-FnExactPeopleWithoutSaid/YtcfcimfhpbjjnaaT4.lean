import Derived.Test.YtcfcimfhpbjjnaaT3
namespace Go.Proofs.Ytcfcimfhpbjjnaa
open Go.RowKit
theorem sPay_any (l : List Pn) (A : Option Addr) (c : Nat) (a j s : Int) (w : World) (hr : Row w w.heap.size A (pcells l)) (hl : l.length ≤ maxLen) :
    Calls Try.prog 31 #[.slice A l.length c, .int .i64 a, .int .i64 j, .int .i64 s] w fun e w' => e = .returned (.int .i64 (pay l a j s)) ∧ Below w.heap.size w w' := by
  cases hv : askOk l a j s
  · have e1 : many l a j s = -1 := by simp [many, hv]
    go_enter Try.func31, Try.ntmps31
    go_wp2_with fail
    refine (sMany_any l A c a j s _ hr hl).mono ?_
    rintro e w' ⟨rfl, hb⟩
    rw [e1]; clear e1
    go_wp2
    go_ret
    exact ⟨reti (by simp [pay, hv]), hb⟩
  · have hv2 : okL l = true := by simp only [askOk, Bool.and_eq_true] at hv; exact hv.1
    have hm : 0 ≤ many l a j s := by simp only [many, if_pos hv]; exact (cnt_bd l a j s).1
    obtain ⟨h40, hall⟩ := okL_all hv2
    have HL := Lib.hid hall; clear hall hv2
    have HV := Lib.hid hv; clear hv
    go_enter Try.func31, Try.ntmps31
    go_wp2_with fail
    refine (sMany_any l A c a j s _ hr hl).mono ?_
    rintro e w1 ⟨rfl, hb⟩
    have hz := hb.size
    go_wp2
    go_loopw [9, 10] (fun n i wr => ∃ k : Nat, k ≤ l.length ∧ i = .int .i64 k ∧ Below w.heap.size w wr ∧ n = .int .i64 (psum (l.take k) a j s)) (fun _ i _ => l.length - (intOf i).toNat)
    case atStart => exact ⟨0, Nat.zero_le _, rfl, hb, rfl⟩
    case round =>
      obtain ⟨k, hk, rfl, hb1, rfl⟩ := hrel
      have hbd := psum_bd (l.take k) a j s (all_take HL.out k)
      have htl : (l.take k).length ≤ k := List.length_take_le _ _
      by_cases hlt : k < l.length
      · obtain ⟨b, o, rfl, hbw, c0, c1, c2, c3⟩ := (hr.below hb1 (Nat.le_refl _)).at_ k hlt
        have hpb := okP_pay (p := l[k]) (by have := List.all_eq_true.1 HL.out l[k] (List.getElem_mem hlt); simpa using this)
        have hz1 := hb1.size
        have hbr : b < wr.heap.size := by omega
        have HT := Lib.hid (psum_take l a j s k hlt)
        go_wp2_with fail
        refine (l1Is_any l[k] a j s _).mono ?_
        rintro e w' ⟨rfl, rfl⟩
        cases hf : fit3 l[k] a j s
        all_goals
          go_wp2
          go_roundw
          case rel => exact ⟨k + 1, by omega, by go_num, (hb1.alloc hz1 _), by rw [HT.out, hf]; simp⟩
          case measure => simp [intOf]; omega
      · go_wp2
        go_ret
        exact ⟨reti (by rw [List.take_of_length_le (by omega)]; simp [pay, HV.out]), hb1⟩
end Go.Proofs.Ytcfcimfhpbjjnaa
