/- Contributions: how they are drawn. -/
import Derived.Test.YtfaffpfjgipifaaQS
namespace Go.Proofs.Ytfaffpfjgipifaa
open Go.RowKit
theorem three_cell {w : World} {g : Nat} {a b c : Int} {t : TypeId} (h : w.heap[g]? = some (.cells #[.int .i64 a, .int .i64 b, .int .i64 c] t (0, 0))) (y : Nat) (hy : y < 3) : ∃ z, w.cell? ⟨g, y, none⟩ = some (.int .i64 z) ∧ (z = a ∨ z = b ∨ z = c) := by
  rcases (show y = 0 ∨ y = 1 ∨ y = 2 by omega) with rfl | rfl | rfl
  · exact ⟨a, cell_of_row w g 0 _ _ _ h, .inl rfl⟩
  · exact ⟨b, cell_of_row w g 1 _ _ _ h, .inr (.inl rfl)⟩
  · exact ⟨c, cell_of_row w g 2 _ _ _ h, .inr (.inr rfl)⟩
theorem four_cell {w : World} {g : Nat} {a b c d : Int} {t : TypeId} (h : w.heap[g]? = some (.cells #[.int .i64 a, .int .i64 b, .int .i64 c, .int .i64 d] t (0, 0))) (y : Nat) (hy : y < 4) : ∃ z, w.cell? ⟨g, y, none⟩ = some (.int .i64 z) ∧ (z = a ∨ z = b ∨ z = c ∨ z = d) := by
  rcases (show y = 0 ∨ y = 1 ∨ y = 2 ∨ y = 3 by omega) with rfl | rfl | rfl | rfl
  · exact ⟨a, cell_of_row w g 0 _ _ _ h, .inl rfl⟩
  · exact ⟨b, cell_of_row w g 1 _ _ _ h, .inr (.inl rfl)⟩
  · exact ⟨c, cell_of_row w g 2 _ _ _ h, .inr (.inr (.inl rfl))⟩
  · exact ⟨d, cell_of_row w g 3 _ _ _ h, .inr (.inr (.inr rfl))⟩
def PB (l : List Int) : Prop := l.length ≤ 21 ∧ ∀ x ∈ l, -1 ≤ x ∧ x ≤ 100001
def PartsDrawn (R q : Nat) (w : World) (e : Ending) (w' : World) : Prop :=
  ∃ v l, e = .returned v ∧ Own1 TN w' w.heap.size v (icells l) ∧ PB l ∧ RdN w' R q ∧ w.grownBy w' (some R)
theorem PB.snoc {l : List Int} {x : Int} {k : Nat} (h : l.length ≤ k ∧ ∀ x ∈ l, -1 ≤ x ∧ x ≤ 100001) (hx : -1 ≤ x ∧ x ≤ 100001) : (l ++ [x]).length ≤ k + 1 ∧ ∀ y ∈ l ++ [x], -1 ≤ y ∧ y ≤ 100001 := by
  refine ⟨by simp; omega, fun y hy => ?_⟩
  rcases List.mem_append.1 hy with hy | hy
  · exact h.2 y hy
  · simp at hy; subst hy; exact hx
def vlen : Value → Nat
  | .slice _ n _ => n
  | _ => 0
/-- A list of one's own that grows while the reader reads. -/
def Gr (w : World) (R q : Nat) (v : Value) (l : List Int) (w' : World) : Prop := Own1 TN w' w.heap.size v (icells l) ∧ RdN w' R q ∧ w.grownBy w' (some R)
section
variable {w w1 w2 w4 : World} {R q q' : Nat} {v v4 : Value} {l : List Int}
theorem Gr.pick (hR : R < w.heap.size) (h : Gr w R q v l w1) (hr : RdN w2 R q') (hg : w1.grownBy w2 (some R)) : Gr w R q' v l w2 :=
  ⟨h.1.kept hg fun k e => by have := (h.1.ob k e).1; intro e2; injection e2 with e2; omega, hr, grown_trans h.2.2 hg⟩
theorem Gr.rd (h : Gr w R q v l w1) : RdN w1 R q := h.2.1
theorem Gr.alloc (h : Gr w R q v l w1) (o : Obj) : Gr w R q v l (w1.alloc o) := ⟨h.1.alloc o, h.2.1.alloc o, grown_alloc h.2.2 o⟩
theorem Gr.app (hR : R < w.heap.size) (h : Gr w R q v l w1) {x : Int} (ho : Own1 TN w4 w.heap.size v4 (icells l ++ [.int .i64 x])) (hg : w1.grownBy w4 v.ownBlock) : Gr w R q v4 (l ++ [x]) w4 :=
  ⟨by rw [icells_app]; exact ho, h.2.1.grown hg fun k e => by have := (h.1.ob k e).1; omega, grown_new h.2.2 hg fun g e => (h.1.ob g e).1⟩
end
set_option maxHeartbeats 2000000 in
theorem parts_any (R q : Nat) (hq : q + 100 < 1000000) (w : World) (hr : RdN w R q) :
    Calls Try.prog 25 #[.pointer (some ⟨R, 0, none⟩)] w (PartsDrawn R (q + 50) w) := by
  have hR := hr.lt
  have HR := Lib.hid hr
  clear hr
  go_enter Try.func25, Try.ntmps25
  go_wp2_with (first
    | (go_at_call 26; (with_reducible refine (pick_any 6 (by omega) (by omega) R q (by omega) _ (HR.out.alloc _)).mono ?_); rintro e w1 ⟨n, rfl, n0, n1, hr1, hg1⟩
       have HS := Lib.hid (show Gr w R (q + 1) (.slice (some ⟨w.heap.size, 0, none⟩) 0 0) [] w1 from Gr.pick hR (show Gr w R q (.slice (some ⟨w.heap.size, 0, none⟩) 0 0) [] _ from ⟨own1_new (Nat.le_refl _), HR.out.alloc _, World.grownBy_alloc w _ _⟩) hr1 hg1)
       clear hr1 hg1))
  obtain ⟨m, rfl⟩ : ∃ m : Nat, n = m := ⟨n.toNat, by omega⟩
  have hm : m ≤ 5 := by omega
  clear n0 n1
  go_loopw [3, 5] (fun v i wr => ∃ (k : Nat) (l : List Int), k ≤ m ∧ i = .int .i64 k ∧ (l.length ≤ k ∧ ∀ x ∈ l, -1 ≤ x ∧ x ≤ 100001) ∧ Gr w R (q + 1 + 2 * k) v l wr) (fun _ i _ => m - (intOf i).toNat)
  case atStart => exact ⟨0, [], Nat.zero_le _, rfl, ⟨by simp, by simp⟩, HS.out⟩
  case round =>
    obtain ⟨k, l, hk, rfl, hl, hg⟩ := hrel
    have HL := Lib.hid hl
    have HG := Lib.hid hg
    clear hl hg
    by_cases hlt : k < m
    · have hki : (k : Int) < (m : Int) := by omega
      go_wp2_with (first
        | (go_at_call 26; (with_reducible refine (pick_any 12 (by omega) (by omega) R (q + 1 + 2 * k) (by omega) _ HG.out.rd).mono ?_); rintro e w2 ⟨a, rfl, a0, a1, hr2, hg2⟩
           have HG2 := Lib.hid (HG.out.pick hR hr2 hg2)
           have hz2 : R < w2.heap.size := hr2.lt
           clear hr2 hg2)
        | (go_at_call 26; (with_reducible refine (pick_any 3 (by omega) (by omega) R (q + 1 + 2 * k + 1) (by omega) _ (HG2.out.rd.alloc _)).mono ?_); rintro e w3 ⟨b, rfl, b0, b1, hr3, hg3⟩
           obtain ⟨y, rfl⟩ : ∃ y : Nat, b = y := ⟨b.toNat, by omega⟩
           obtain ⟨z, cz, hz⟩ := three_cell (new_block hg3 hz2) y (by omega)
           have hzb : 1 ≤ z ∧ z ≤ 100 := by rcases hz with rfl | rfl | rfl <;> omega
           have HG3 := Lib.hid ((HG2.out.alloc (.cells #[.int .i64 1, .int .i64 10, .int .i64 100] TN)).pick hR hr3 hg3)
           have hm3 := mul_bd a0 (show a ≤ 11 by omega) (show 0 ≤ z by omega) hzb.2
           have hwm : wrap64 (a * z) = a * z := IntWalk.wrap64_in _ (by omega)
           clear hr3 hg3 hz)
        | (at_builtin
           refine app1 one_I rfl (.tmp 14) (.tmp 23) rfl w.heap.size _ (icells l) rfl (HG3.out.alloc _).1 (w3.heap.size + 1) (some ⟨w3.heap.size, 0, none⟩) 1 1 [.int .i64 (a * z)] rfl rfl (row_lit w3 #[.int .i64 (a * z)] TN) (by intro u hu; simp at hu; subst hu; rfl) (by have := HL.out.1; rw [icells_len]; simp; omega) (by have := HG3.out.2.2.size; simp; omega) ?_
           intro v4 w4 ho4 hg4 _
           have HG4 := Lib.hid ((HG3.out.alloc (.cells #[.int .i64 (a * z)] TN)).app hR ho4 hg4)
           have HL4 := Lib.hid (PB.snoc HL.out (show -1 ≤ a * z ∧ a * z ≤ 100001 by omega))
           clear ho4 hg4))
      go_roundw
      case rel => exact ⟨k + 1, _, by omega, by go_num, HL4.out, ⟨HG4.out.1, HG4.out.2.1.more (by omega), HG4.out.2.2⟩⟩
      case measure => simp [intOf]; omega
    · have hk5 : k ≤ 5 := by omega
      go_wp2_with (first
        | (go_at_call 26; (with_reducible refine (pick_any 40 (by omega) (by omega) R (q + 1 + 2 * k) (by omega) _ HG.out.rd).mono ?_); rintro e w2 ⟨a, rfl, a0, a1, hr2, hg2⟩
           have HG2 := Lib.hid (HG.out.pick hR hr2 hg2)
           have hz2 : R < w2.heap.size := hr2.lt
           clear hr2 hg2))
      · go_wp2_with (first
          | (go_at_call 26; (with_reducible refine (pick_any 3 (by omega) (by omega) R (q + 1 + 2 * k + 1) (by omega) _ (HG2.out.rd.alloc _)).mono ?_); rintro e w3 ⟨b, rfl, b0, b1, hr3, hg3⟩
             obtain ⟨y, rfl⟩ : ∃ y : Nat, b = y := ⟨b.toNat, by omega⟩
             obtain ⟨z, cz, hz⟩ := three_cell (new_block hg3 hz2) y (by omega)
             have hzb : -1 ≤ z ∧ z ≤ 100001 := by rcases hz with rfl | rfl | rfl <;> omega
             have HZB := Lib.hid hzb
             have HG3 := Lib.hid ((HG2.out.alloc (.cells #[.int .i64 (-1), .int .i64 100001, .int .i64 100000] TN)).pick hR hr3 hg3)
             clear hr3 hg3 hz hzb)
          | (at_builtin
             refine app1 one_I rfl (.tmp 29) (.tmp 35) rfl w.heap.size _ (icells l) rfl (HG3.out.alloc _).1 (w3.heap.size + 1) (some ⟨w3.heap.size, 0, none⟩) 1 1 [.int .i64 z] rfl rfl (row_lit w3 #[.int .i64 z] TN) (by intro u hu; simp at hu; subst hu; rfl) (by have := HL.out.1; rw [icells_len]; simp; omega) (by have := HG3.out.2.2.size; simp; omega) ?_
             intro v4 w4 ho4 hg4 _
             have HG4 := Lib.hid ((HG3.out.alloc (.cells #[.int .i64 z] TN)).app hR ho4 hg4)
             have HL4 := Lib.hid (PB.snoc HL.out HZB.out)
             clear ho4 hg4))
        go_ret
        exact ⟨_, _, rfl, HG4.out.1, ⟨Nat.le_trans HL4.out.1 (by omega), HL4.out.2⟩, HG4.out.2.1.more (by omega), HG4.out.2.2⟩
      · rename_i e0 e1
        clear e0 e1
        go_loopw [3] (fun v wr => ∃ l : List Int, (l.length ≤ 21 ∧ ∀ x ∈ l, -1 ≤ x ∧ x ≤ 100001) ∧ Gr w R (q + 1 + 2 * k + 1) v l wr) (fun v _ => 21 - vlen v)
        case atStart => exact ⟨l, ⟨by have := HL.out.1; omega, HL.out.2⟩, HG2.out⟩
        case round =>
          obtain ⟨l2, hl2, hgr⟩ := hrel
          have HL2 := Lib.hid hl2
          have HG5 := Lib.hid hgr
          obtain ⟨A, c, hv, h5, h6, _, _⟩ := hgr.1.form
          rw [icells_len] at hv h5
          obtain ⟨n, hn⟩ : ∃ n, n = l2.length := ⟨_, rfl⟩
          have hn9 : n ≤ 21 := by rw [hn]; exact hl2.1
          rw [← hn] at hv
          have HN := Lib.hid hn
          subst hv
          clear hgr hl2 hn h5 h6
          by_cases h20 : n ≤ 20
          · have h20' : (n : Int) ≤ 20 := by omega
            go_wp2_with (first
              | (at_builtin
                 refine app1 one_I rfl (.tmp 42) (.tmp 43) rfl w.heap.size _ (icells l2) rfl (HG5.out.alloc _).1 (wr.heap.size + 1) (some ⟨wr.heap.size, 0, none⟩) 1 1 [.int .i64 1] rfl rfl (row_lit wr #[.int .i64 1] TN) (by intro u hu; simp at hu; subst hu; rfl) (by have := HL2.out.1; rw [icells_len]; simp; omega) (by have := HG5.out.2.2.size; simp; omega) ?_
                 intro v4 w4 ho4 hg4 _
                 have HG4 := Lib.hid ((HG5.out.alloc (.cells #[.int .i64 1] TN)).app hR ho4 hg4)
                 have HL4 := Lib.hid (PB.snoc (k := 20) (l := l2) ⟨by rw [← HN.out]; exact h20, HL2.out.2⟩ (show -1 ≤ (1 : Int) ∧ (1 : Int) ≤ 100001 by omega))
                 have HVL := Lib.hid (show vlen v4 = n + 1 by
                   obtain ⟨A4, c4, hv4, _⟩ := ho4.form
                   rw [hv4]; show (icells l2 ++ [_]).length = _
                   rw [List.length_append, icells_len, ← HN.out]; rfl)
                 clear ho4 hg4))
            go_roundw
            case rel => exact ⟨_, HL4.out, HG4.out⟩
            case measure =>
              show 21 - vlen v4 < 21 - vlen (.slice A n c)
              rw [HVL.out]; show 21 - (n + 1) < 21 - n; omega
          · have h20' : ¬ (n : Int) ≤ 20 := by omega
            go_wp2
            go_ret
            exact ⟨_, l2, rfl, HG5.out.1, HL2.out, HG5.out.2.1.more (by omega), HG5.out.2.2⟩
      · go_ret
        exact ⟨_, l, rfl, HG2.out.1, ⟨by have := HL.out.1; omega, HL.out.2⟩, HG2.out.2.1.more (by omega), HG2.out.2.2⟩
end Go.Proofs.Ytfaffpfjgipifaa
