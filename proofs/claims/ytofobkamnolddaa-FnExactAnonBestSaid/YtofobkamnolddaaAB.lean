/- Contracts of the program: the recodings in the order of their cost, one by one. -/
import Derived.Test.YtofobkamnolddaaAO
import Derived.Test.YtofobkamnolddaaAI2
import Derived.RangeFuncNested
import Derived.RangeFuncBound
import Derived.RangeFuncCalls
import Derived.RangeFuncLeaves
import Derived.Shelf.Abstract
import Derived.Shelf.RegionOpen
import Derived.WalkKit
import Derived.OwnWalkIn
import Derived.TacticsInMore
import Derived.LoopNIn
import Derived.LoopIn
namespace Go.Proofs.Ytofobkamnolddaa
open Go.RowKit Go.Shelf
attribute [local go_sem] Oper.semAt_some
theorem abides_below {β : Type} {B : Nat} {J : β → World → Prop} (h : AbidesFrom B J) {s : β} {W W' : World} (hs : J s W) (hb : Below W.heap.size W W') : J s W' :=
  h s W W' none hs ⟨hb.os, hb.tape, hb.output, hb.size, fun i hi _ => hb.block i hi⟩ (fun r e => by cases e)
theorem rc_alloc (W : World) (r : Rc) : (W.alloc (.cells #[.int .i64 r.area, .int .i64 r.job, .int .i64 r.sex] TRc)).cell? ⟨W.heap.size, 0, none⟩ = some (.int .i64 r.area) ∧ (W.alloc (.cells #[.int .i64 r.area, .int .i64 r.job, .int .i64 r.sex] TRc)).cell? ⟨W.heap.size, 1, none⟩ = some (.int .i64 r.job) ∧ (W.alloc (.cells #[.int .i64 r.area, .int .i64 r.job, .int .i64 r.sex] TRc)).cell? ⟨W.heap.size, 2, none⟩ = some (.int .i64 r.sex) :=
  ⟨by simp [go_sem], by simp [go_sem], by simp [go_sem]⟩
set_option maxRecDepth 100000 in
set_option maxHeartbeats 4000000 in
/-- The function value that goes through the recodings in the order of their cost. -/
theorem ord_stops (n : Nat) (hn : 2 ≤ n) (Bn : Nat) (ll : List (List Int)) (hlad : ladOk ll = true) (u : Value) (w : World) (hu : IsR w u ll) (hBn : Bn < w.heap.size) (hc : w.cell? ⟨Bn, 0, none⟩ = some u) :
    SeqStopsK Fence.wide n Try.prog 57 #[.pointer (some ⟨Bn, 0, none⟩)] (fun r : Rc => #[r.val]) (Below w.heap.size) (fun ys => ys = ordC ll) (fun pre => pre <+: ordC ll) (ordC ll).length w := by
  intro l J Jx W hW hJ hJx hY h0
  have HJ := Lib.hid (fun s A B (hs : J s A) (hb : Below A.heap.size A B) => abides_below hJ hs hb)
  have HY := Lib.hid hY
  have HU := Lib.hid hu
  have HC := Lib.hid (show ∀ w', Below w.heap.size w w' → w'.cell? ⟨Bn, 0, none⟩ = some u from fun w' h => (h.cell (p := ⟨Bn, 0, none⟩) hBn).trans hc)
  have hl3 := lad_len hlad
  have HLAD := Lib.hid hlad
  have H0 := Lib.hid h0
  have HW := Lib.hid hW
  obtain ⟨Au, cu, hu2, _, _, _⟩ := hu
  subst hu2
  obtain ⟨m, hm⟩ : ∃ m, ll.length = m := ⟨_, rfl⟩
  have HM := Lib.hid hm
  rw [hm] at hl3 HC HU
  clear hY hJ hJx hc hm h0 hW hlad
  refine callsIn_of_wp Try.func57 rfl trivial ?_ rfl
  simp only [Try.ntmps57, List.size_toArray, List.length_cons, List.length_nil, Nat.reduceAdd, Nat.reduceSub, Array.replicate_succ, Array.replicate_zero, List.push_toArray, List.append_toArray, List.nil_append, List.cons_append]
  have hcW := HC.out W HW.out
  gi_wp2
  clear hcW
  gi_loopw [11] (fun v wr => ∃ c : Nat, c ≤ m + 3 ∧ v = .int .i64 c ∧ J (oP ll c 0 0) wr ∧ Below w.heap.size w wr) (fun v _ => m + 3 - (intOf v).toNat)
  case atStart => exact ⟨0, Nat.zero_le _, rfl, by rw [oP_zero]; exact H0.out, HW.out⟩
  case round =>
    obtain ⟨c, hc, rfl, hj, hb⟩ := hrel
    have HJ1 := Lib.hid hj
    have HB1 := Lib.hid hb
    have hcW := HC.out _ hb
    clear hj hb
    by_cases hlt : c < m + 3
    · have hci : (c : Int) < (m : Int) + 2 + 1 := by omega
      gi_wp2
      clear hcW
      gi_loopw [17] (fun v wr => ∃ a : Nat, a ≤ m + 1 ∧ v = .int .i64 a ∧ J (oP ll c a 0) wr ∧ Below w.heap.size w wr) (fun v _ => m + 1 - (intOf v).toNat)
      case atStart => exact ⟨0, Nat.zero_le _, rfl, HJ1.out, HB1.out⟩
      case round =>
        clear HJ1 HB1
        obtain ⟨a, ha, rfl, hj, hb⟩ := hrel
        have HJ2 := Lib.hid hj
        have HB2 := Lib.hid hb
        clear hj hb
        by_cases hla : a < m + 1
        · have hai : (a : Int) < (m : Int) + 1 := by omega
          gi_wp2
          gi_loopw [20] (fun v wr => ∃ j : Nat, j ≤ 2 ∧ v = .int .i64 j ∧ J (oP ll c a j) wr ∧ Below w.heap.size w wr) (fun v _ => 2 - (intOf v).toNat)
          case atStart => exact ⟨0, Nat.zero_le _, rfl, HJ2.out, HB2.out⟩
          case round =>
            clear HJ2 HB2
            obtain ⟨j, hj2, rfl, hj, hb⟩ := hrel
            have HJ3 := Lib.hid hj
            have hsz := hb.size
            by_cases hlj : j < 2
            · have hji : (j : Int) < 2 := by omega
              have HST := Lib.hid (oP_step ll c a j)
              obtain ⟨W4, hW4⟩ : ∃ W4, W4 = wr.alloc (.cells #[.int .i64 (a : Int), .int .i64 (j : Int), .int .i64 ((c : Int) - a - j)] TRc) := ⟨_, rfl⟩
              have hb4 : Below wr.heap.size wr W4 := by rw [hW4]; exact (Below.refl _ _).alloc (Nat.le_refl _) _
              have hz4 : wr.heap.size < W4.heap.size := by rw [hW4]; simp
              have HB4 := Lib.hid (hb.trans (hb4.mono hsz))
              have HJ4 := Lib.hid (HJ.out _ _ _ HJ3.out hb4)
              obtain ⟨d0, d1, d2⟩ : W4.cell? ⟨wr.heap.size, 0, none⟩ = some (.int .i64 (a : Int)) ∧ W4.cell? ⟨wr.heap.size, 1, none⟩ = some (.int .i64 (j : Int)) ∧ W4.cell? ⟨wr.heap.size, 2, none⟩ = some (.int .i64 ((c : Int) - a - j)) := by rw [hW4]; exact rc_alloc wr (oR c a j)
              have d3 := HC.out _ HB4.out
              rw [hW4] at d3
              have hcall := iRcValid_is W4 ll _ (HU.out.below HB4.out) (oR c a j) _ rfl W4 (Below.refl _ _)
              have HW4 := Lib.hid hW4
              rw [hW4] at hcall
              clear hj hb hb4 hW4
              gi_wp2_with fail
              refine ⟨trivial, fun h => by simp [Fence.wide] at h, ?_⟩
              refine (callsIn_wide.2 hcall).mono ?_
              clear hcall d3
              rintro e w5 ⟨rfl, b5⟩
              rw [← HW4.out] at b5
              have d0' := (b5.cell (p := ⟨wr.heap.size, 0, none⟩) hz4).trans d0
              have d1' := (b5.cell (p := ⟨wr.heap.size, 1, none⟩) hz4).trans d1
              have d2' := (b5.cell (p := ⟨wr.heap.size, 2, none⟩) hz4).trans d2
              have HB5 := Lib.hid (HB4.out.trans (b5.mono HB4.out.size))
              have HJ5 := Lib.hid (HJ.out _ _ _ HJ4.out b5)
              clear d0 d1 d2 b5
              cases hv : rcOk ll (oR c a j)
              · rw [hv] at HST
                have HN := Lib.hid (show oP ll c a (j + 1) = oP ll c a j by rw [HST.out]; simp)
                clear hv
                gi_wp2
                refine ⟨fun _ h => (by cases h), ?_⟩
                gi_wp2
                go_roundw
                case rel => exact ⟨j + 1, by omega, by go_num, by rw [HN.out]; exact HJ5.out, HB5.out⟩
                case measure => simp [intOf]; omega
              · rw [hv] at HST
                have HN := Lib.hid (show oP ll c a (j + 1) = oP ll c a j ++ [oR c a j] by rw [HST.out]; simp)
                have HPRE := Lib.hid (show oP ll c a j ++ [oR c a j] <+: ordC ll by rw [← HN.out]; exact oP_pre ll (c := c) (a := a) (j := j + 1) (by rw [HM.out]; exact hlt) (by rw [HM.out]; exact hla) (by omega))
                have hlen : (oP ll c a j).length < (ordC ll).length := by
                  have h := HPRE.out.length_le
                  rw [List.length_append] at h
                  simp at h; omega
                obtain ⟨fn, tmps, assign, body, hy, hR⟩ := HY.out (oP ll c a j) (oR c a j) w5 HJ5.out hlen
                dsimp only [oR, Rc.val] at hy
                clear hv hlen
                gi_wp2
                refine ⟨fun _ => by omega, ?_⟩
                refine hR.mono ?_
                clear hR hy
                rintro e w6 (⟨rfl, hj6, hb6⟩ | ⟨rfl, hx6⟩)
                · have HJ6 := Lib.hid hj6
                  have HB6 := Lib.hid (HB5.out.trans hb6)
                  clear hj6 hb6 d0' d1' d2'
                  gi_wp2
                  go_roundw
                  case rel => exact ⟨j + 1, by omega, by go_num, by rw [HN.out]; exact HJ6.out, HB6.out⟩
                  case measure => simp [intOf]; omega
                · have HX6 := Lib.hid hx6
                  clear hx6 d0' d1' d2'
                  gi_wp2
                  refine bodyPost_ret (results_none rfl _ _ _) rfl ?_
                  exact ⟨⟨_, rfl⟩, .inr ⟨_, HPRE.out, HX6.out⟩⟩
            · have hji : ¬ (j : Int) < 2 := by omega
              obtain rfl : j = 2 := by omega
              gi_wp2
              go_roundw
              case rel => exact ⟨a + 1, by omega, by go_num, by rw [oP_area]; exact HJ3.out, hb⟩
              case measure => simp [intOf]; omega
        · have hai : ¬ (a : Int) < (m : Int) + 1 := by omega
          have hB2 := HB2.out
          obtain rfl : a = m + 1 := by omega
          gi_wp2
          go_roundw
          case rel => exact ⟨c + 1, by omega, by go_num, by rw [oP_cost, HM.out]; exact HJ2.out, hB2⟩
          case measure => simp [intOf]; omega
    · have hci : ¬ (c : Int) < (m : Int) + 2 + 1 := by omega
      obtain rfl : c = m + 3 := by omega
      gi_wp2
      go_end0
      exact ⟨⟨_, rfl⟩, .inl (by rw [← oP_all, HM.out]; exact HJ1.out)⟩
end Go.Proofs.Ytofobkamnolddaa
