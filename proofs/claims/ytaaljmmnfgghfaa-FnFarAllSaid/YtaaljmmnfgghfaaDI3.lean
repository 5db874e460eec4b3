/- Contracts of the program: bands of all people; bands of each group, in a map of pointers. -/
import Derived.Test.YtaaljmmnfgghfaaDI2
namespace Go.Proofs.Ytaaljmmnfgghfaa
open Go.RowKit Go.Maps
theorem bd_nat {p : Pn} (h : okP p = true) : ∃ i : Nat, p.pay / 100 = (i : Int) ∧ i < 10 ∧ 0 ≤ p.pay ∧ p.pay ≤ 999 := by
  have := okP_parts.1 h
  exact ⟨(p.pay / 100).toNat, by omega, by omega, by omega, by omega⟩
theorem ub_take_succ (x : List Pn) (n : Nat) (hn : n < x.length) : ub (prs (x.take (n + 1))) = ub (prs (x.take n)) ++ [((), bd x[n])] := by
  rw [prs_take_succ x n hn, ub_app]; rfl
theorem zeros_B {α : Type} [DecidableEq α] (a : α) : (icells (rowB ([] : List (α × Int)) a)).toArray = Array.replicate 10 (.int .i64 0) := rfl
set_option maxHeartbeats 1000000 in
theorem iCount_any (x : List Pn) (q : Nat) (hq : q = x.length) (hx : okL x = true) (A : Option Addr) (c : Nat) (w : World) (hr : Row w w.heap.size A (pcells x)) :
    Calls Try.prog 35 #[.slice A q c] w fun e w' => e = .returned (.pointer (some ⟨w.heap.size, 0, none⟩)) ∧ BB w' w.heap.size (rowB (ub (prs x)) ()) ∧ Below w.heap.size w w' := by
  have HQ := Lib.hid hq; clear hq
  have h40 := (okL_all hx).1
  have HOK := Lib.hid (okL_mem hx)
  have hq40 : q ≤ 40 := by rw [HQ.out]; exact h40
  have HR := Lib.hid hr
  clear hr hx
  have HB0 := Lib.hid ((Below.refl w.heap.size w).alloc (Nat.le_refl _) (.cells (Array.replicate 10 (.int .i64 0)) TBc))
  have HN0 := Lib.hid (show BB (w.alloc (.cells (Array.replicate 10 (.int .i64 0)) TBc)) w.heap.size (rowB (ub (prs (x.take 0))) ()) from heap_alloc_new w _)
  go_enter Try.func35, Try.ntmps35
  go_wp2
  go_loopw [10] (fun i wr => ∃ k : Nat, k ≤ q ∧ i = .int .i64 k ∧ BB wr w.heap.size (rowB (ub (prs (x.take k))) ()) ∧ Below w.heap.size w wr) (fun i _ => q - (intOf i).toNat)
  case atStart => exact ⟨0, Nat.zero_le _, rfl, HN0.out, HB0.out⟩
  case round =>
    obtain ⟨k, hk, rfl, hbb, hb⟩ := hrel
    clear HB0 HN0
    by_cases hlt : k < q
    · have hki : (k : Int) < (q : Int) := by omega
      have hkx : k < x.length := by rw [← HQ.out]; exact hlt
      obtain ⟨bq, o, rfl, hbw, c0, c1, c2, c3⟩ := (HR.out.below hb (Nat.le_refl _)).at_ k hkx
      have HT := Lib.hid (ub_take_succ x k hkx)
      have hok := HOK.out x[k] (List.getElem_mem hkx)
      obtain ⟨p, hp⟩ : ∃ p, x[k] = p := ⟨_, rfl⟩
      rw [hp] at c0 c1 c2 c3 HT hok
      clear hp
      obtain ⟨i, hi, hi10, hp0, hp9⟩ := bd_nat hok
      have hz := hb.size
      have hn := nb_len (ub (prs (x.take k))) () (i : Int)
      have hl := List.length_take_le k x
      rw [show (ub (prs (x.take k))).length = (x.take k).length by unfold ub; rw [List.length_map, prs_len]] at hn
      have HM := Lib.hid (rowB_get (ub (prs (x.take k))) () hi10)
      have HY := Lib.hid (rowB_yes (ub (prs (x.take k))) ((), bd p) () rfl hi10 hi)
      obtain ⟨W, hW⟩ : ∃ W, W = wr.alloc (.cells #[.int .i64 p.area, .int .i64 p.job, .int .i64 p.sex, .int .i64 p.pay] TP) := ⟨_, rfl⟩
      have HBW := Lib.hid (show Below w.heap.size w W by rw [hW]; exact hb.alloc hz _)
      have d0 : W.cell? ⟨wr.heap.size, 0, none⟩ = some (.int .i64 p.area) := by rw [hW]; simp [go_sem]
      have d1 : W.cell? ⟨wr.heap.size, 1, none⟩ = some (.int .i64 p.job) := by rw [hW]; simp [go_sem]
      have d2 : W.cell? ⟨wr.heap.size, 2, none⟩ = some (.int .i64 p.sex) := by rw [hW]; simp [go_sem]
      have d3 : W.cell? ⟨wr.heap.size, 3, none⟩ = some (.int .i64 p.pay) := by rw [hW]; simp [go_sem]
      have HBB := Lib.hid (show BB W w.heap.size (rowB (ub (prs (x.take k))) ()) by rw [hW]; exact hbb.alloc _)
      have HI := Lib.hid hi
      clear hi hok hbb
      go_wp2_with fail
      rw [← hW]
      clear hW c0 c1 c2 c3
      refine (iAdd_any _ w.heap.size p ⟨hp0, hp9⟩ i HI.out _ HM.out (by omega) W HBB.out).mono ?_
      rintro e w3 ⟨rfl, hb3, hg3⟩
      have HB3 := Lib.hid hb3
      have HG3 := Lib.hid (HBW.out.grown hg3 HBW.out.size (fun j hj => by cases hj; exact Nat.le_refl _))
      clear hb3 hg3 d0 d1 d2 d3
      go_wp2
      go_roundw
      case rel => exact ⟨k + 1, by omega, by go_num, by rw [HT.out, HY.out]; exact HB3.out, HG3.out⟩
      case measure => simp [intOf]; omega
    · have hkq : k = q := by omega
      have ht : x.take k = x := List.take_of_length_le (by rw [← HQ.out]; omega)
      rw [ht] at hbb
      have HBB := Lib.hid hbb
      clear hbb
      go_wp2
      go_ret
      exact ⟨rfl, HBB.out, hb⟩
end Go.Proofs.Ytaaljmmnfgghfaa
