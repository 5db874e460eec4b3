/- Contributions: what the program tells of sensitive cells. -/
import Derived.Test.YtfaffpfjgipifaaQS
namespace Go.Proofs.Ytfaffpfjgipifaa
open Go.RowKit
theorem back_turn {w w1 w2 : World} (h1 : Below w.heap.size w w1) {B T : Nat} (h2 : Within w1 w2 B T) (hB : w.heap.size ≤ B) (hT : B ≤ w1.heap.size) : Below w.heap.size w w2 := h1.trans ((wth_below h2 hT).mono hB)

def fewI (l : List Int) (n : Int) : Bool := pOk l && (true && fewB (ds l) n)
theorem meth_leadV (n pc : Int) (w : World) : Sem.run Try.prog (method 186 41 (.agg #[.int .i64 n, .int .i64 pc]) "loop.example/disclosurecontrol/impl.valid") w = .ok (62, .agg #[.int .i64 n, .int .i64 pc]) w := by kernel_rfl
theorem meth_leadH (n pc : Int) (w : World) : Sem.run Try.prog (method 186 41 (.agg #[.int .i64 n, .int .i64 pc]) "loop.example/disclosurecontrol/impl.holds") w = .ok (61, .agg #[.int .i64 n, .int .i64 pc]) w := by kernel_rfl
def leadI (l : List Int) (n pc : Int) : Bool := pOk l && ((in3 n 1 20 && in3 pc 0 100) && decide (leadP (ds l) n pc))
set_option maxHeartbeats 1000000 in
theorem leadS_any (l : List Int) (n pc : Int) (v : Value) (w : World) (hv : IsI w v l) (g : Bool) (hg : leadI l n pc = g) :
    Calls Try.prog 28 #[v, .iface 41 (.agg #[.int .i64 n, .int .i64 pc])] w (Back (.bool g) w) := by
  subst hg
  have HV := Lib.hid hv
  have mV := meth_leadV n pc
  have mH := meth_leadH n pc
  by_cases hok : pOk l = true
  · have HOK := Lib.hid hok
    have HD := Lib.hid (Bd.ds hok)
    have hB0 : w.heap.size ≤ w.heap.size := Nat.le_refl _
    clear hv
    cases hvv : (in3 n 1 20 && in3 pc 0 100)
    · have HVG := Lib.hid hvv
      have HE := Lib.hid (show leadI l n pc = false by unfold leadI; rw [HVG.out]; simp)
      rw [HE.out]
      clear hok hvv
      go_enter Try.func28, Try.ntmps28
      go_wp2_with (first
        | (go_at_call 33; (with_reducible refine (keep_yes l _ _ HV.out HOK.out).mono ?_); rintro e w1 ⟨p, rfl, hb1, hs1⟩
           have HB1 := Lib.hid hb1
           have HS1 := Lib.hid hs1
           clear hb1 hs1)
        | (go_at_call 62; (with_reducible refine (leadV_any n pc _ HVG.out _).mono ?_); rintro e w2 ⟨rfl, hb2⟩; have HB2 := Lib.hid hb2; clear hb2))
      go_ret
      exact ⟨rfl, HB1.out.trans (HB2.out.mono HB1.out.size)⟩
    · have HVG := Lib.hid hvv
      have HPC := Lib.hid (show in3 pc 0 100 = true by have := HVG.out; simp only [Bool.and_eq_true] at this; exact this.2)
      obtain ⟨z, hz⟩ : ∃ z, decide (leadP (ds l) n pc) = z := ⟨_, rfl⟩
      have HE := Lib.hid (show leadI l n pc = z by unfold leadI; rw [HOK.out, HVG.out, hz]; rfl)
      rw [HE.out]
      have HZ := Lib.hid hz
      clear hok hvv hz
      go_enter Try.func28, Try.ntmps28
      go_wp2_with (first
        | (go_at_call 33; (with_reducible refine (keep_yes l _ _ HV.out HOK.out).mono ?_); rintro e w1 ⟨p, rfl, hb1, hs1⟩
           have HB1 := Lib.hid hb1
           have HS0 := Lib.hid hs1
           clear hb1 hs1)
        | (go_at_call 62; (with_reducible refine (leadV_any n pc _ HVG.out _).mono ?_); rintro e w2 ⟨rfl, hb2⟩; have HB2 := Lib.hid hb2; have HS1 := Lib.hid (HS0.out.below hb2); clear hb2)
        | (go_at_call 61; (with_reducible refine (leadH_any HS1.out HD.out n pc HPC.out _ rfl).mono ?_); rintro e w3 ⟨rfl, hw3⟩; rw [HZ.out]; have HW3 := Lib.hid hw3; clear hw3))
      go_ret
      exact ⟨rfl, back_turn (HB1.out.trans (HB2.out.mono HB1.out.size)) HW3.out (Nat.le_refl _) (Nat.le_trans HB1.out.size HB2.out.size)⟩
  · have hok' : pOk l = false := by simpa using hok
    have HOK := Lib.hid hok'
    have HE := Lib.hid (show leadI l n pc = false by unfold leadI; rw [hok']; rfl)
    rw [HE.out]
    clear hv hok hok'
    go_enter Try.func28, Try.ntmps28
    go_wp2_with (first
      | (go_at_call 33; (with_reducible refine (keep_no l _ _ HV.out HOK.out).mono ?_); rintro e w' ⟨rfl, rfl⟩))
    go_ret
    exact ⟨rfl, Below.refl _ _⟩
theorem meth_guessV (pc : Int) (w : World) : Sem.run Try.prog (method 186 44 (.agg #[.int .i64 pc]) "loop.example/disclosurecontrol/impl.valid") w = .ok (35, .agg #[.int .i64 pc]) w := by kernel_rfl
theorem meth_guessH (pc : Int) (w : World) : Sem.run Try.prog (method 186 44 (.agg #[.int .i64 pc]) "loop.example/disclosurecontrol/impl.holds") w = .ok (63, .agg #[.int .i64 pc]) w := by kernel_rfl
def guessI (l : List Int) (pc : Int) : Bool := pOk l && (in3 pc 0 100 && decide (0 < lackI (ds l) pc))
set_option maxHeartbeats 1000000 in
theorem guessS_any (l : List Int) (pc : Int) (v : Value) (w : World) (hv : IsI w v l) (g : Bool) (hg : guessI l pc = g) :
    Calls Try.prog 28 #[v, .iface 44 (.agg #[.int .i64 pc])] w (Back (.bool g) w) := by
  subst hg
  have HV := Lib.hid hv
  have mV := meth_guessV pc
  have mH := meth_guessH pc
  by_cases hok : pOk l = true
  · have HOK := Lib.hid hok
    have HD := Lib.hid (Bd.ds hok)
    have hB0 : w.heap.size ≤ w.heap.size := Nat.le_refl _
    clear hv
    cases hvv : in3 pc 0 100
    · have HVG := Lib.hid hvv
      have HE := Lib.hid (show guessI l pc = false by unfold guessI; rw [HVG.out]; simp)
      rw [HE.out]
      clear hok hvv
      go_enter Try.func28, Try.ntmps28
      go_wp2_with (first
        | (go_at_call 33; (with_reducible refine (keep_yes l _ _ HV.out HOK.out).mono ?_); rintro e w1 ⟨p, rfl, hb1, hs1⟩
           have HB1 := Lib.hid hb1
           have HS1 := Lib.hid hs1
           clear hb1 hs1)
        | (go_at_call 35; (with_reducible refine (guessV_any pc _ HVG.out _).mono ?_); rintro e w2 ⟨rfl, hb2⟩; have HB2 := Lib.hid hb2; clear hb2))
      go_ret
      exact ⟨rfl, HB1.out.trans (HB2.out.mono HB1.out.size)⟩
    · have HVG := Lib.hid hvv
      have HPC := HVG
      obtain ⟨z, hz⟩ : ∃ z, decide (0 < lackI (ds l) pc) = z := ⟨_, rfl⟩
      have HE := Lib.hid (show guessI l pc = z by unfold guessI; rw [HOK.out, HVG.out, hz]; rfl)
      rw [HE.out]
      have HZ := Lib.hid hz
      clear hok hvv hz
      go_enter Try.func28, Try.ntmps28
      go_wp2_with (first
        | (go_at_call 33; (with_reducible refine (keep_yes l _ _ HV.out HOK.out).mono ?_); rintro e w1 ⟨p, rfl, hb1, hs1⟩
           have HB1 := Lib.hid hb1
           have HS0 := Lib.hid hs1
           clear hb1 hs1)
        | (go_at_call 35; (with_reducible refine (guessV_any pc _ HVG.out _).mono ?_); rintro e w2 ⟨rfl, hb2⟩; have HB2 := Lib.hid hb2; have HS1 := Lib.hid (HS0.out.below hb2); clear hb2)
        | (go_at_call 63; (with_reducible refine (guessH_any HS1.out HD.out pc HPC.out _ rfl).mono ?_); rintro e w3 ⟨rfl, hw3⟩; rw [HZ.out]; have HW3 := Lib.hid hw3; clear hw3))
      go_ret
      exact ⟨rfl, back_turn (HB1.out.trans (HB2.out.mono HB1.out.size)) HW3.out (Nat.le_refl _) (Nat.le_trans HB1.out.size HB2.out.size)⟩
  · have hok' : pOk l = false := by simpa using hok
    have HOK := Lib.hid hok'
    have HE := Lib.hid (show guessI l pc = false by unfold guessI; rw [hok']; rfl)
    rw [HE.out]
    clear hv hok hok'
    go_enter Try.func28, Try.ntmps28
    go_wp2_with (first
      | (go_at_call 33; (with_reducible refine (keep_no l _ _ HV.out HOK.out).mono ?_); rintro e w' ⟨rfl, rfl⟩))
    go_ret
    exact ⟨rfl, Below.refl _ _⟩
theorem iPartsLead_is (W : World) (l : List Int) (v : Value) (hv : IsI W v l) (n pc : Int) (g : Bool) (hg : leadI l n pc = g) (w : World) (hb : Below W.heap.size W w) :
    Calls Try.prog 14 #[v, .int .i64 n, .int .i64 pc] w (Back (.bool g) W) := by
  have HV := Lib.hid (hv.below hb)
  have HG := Lib.hid hg
  have HB := Lib.hid hb
  clear hv hg hb
  go_enter Try.func14, Try.ntmps14
  go_wp2_with (go_at_call 28; (with_reducible refine (leadS_any l n pc _ _ HV.out g HG.out).mono ?_); rintro e w' ⟨rfl, hb2⟩; have HB2 := Lib.hid hb2; clear hb2)
  go_ret
  exact ⟨rfl, HB.out.trans (HB2.out.mono HB.out.size)⟩
theorem iPartsGuess_is (W : World) (l : List Int) (v : Value) (hv : IsI W v l) (pc : Int) (g : Bool) (hg : guessI l pc = g) (w : World) (hb : Below W.heap.size W w) :
    Calls Try.prog 17 #[v, .int .i64 pc] w (Back (.bool g) W) := by
  have HV := Lib.hid (hv.below hb)
  have HG := Lib.hid hg
  have HB := Lib.hid hb
  clear hv hg hb
  go_enter Try.func17, Try.ntmps17
  go_wp2_with (go_at_call 28; (with_reducible refine (guessS_any l pc _ _ HV.out g HG.out).mono ?_); rintro e w' ⟨rfl, hb2⟩; have HB2 := Lib.hid hb2; clear hb2)
  go_ret
  exact ⟨rfl, HB.out.trans (HB2.out.mono HB.out.size)⟩
/-- What the n greatest make together. -/
def topI (l : List Int) (n : Int) : Int := if pOk l = true ∧ 0 ≤ n then tp l n.toNat else -1
theorem iPartsTop_is (W : World) (l : List Int) (v : Value) (hv : IsI W v l) (n : Int) (g : Int) (hg : topI l n = g) (w : World) (hb : Below W.heap.size W w) :
    Calls Try.prog 19 #[v, .int .i64 n] w (Back (.int .i64 g) W) := by
  have HV := Lib.hid (hv.below hb)
  have HB := Lib.hid hb
  have HG := Lib.hid hg
  clear hv hb hg
  by_cases hok : pOk l = true
  · have HOK := Lib.hid hok
    have HD := Lib.hid (Bd.ds hok)
    by_cases hn : 0 ≤ n
    · have hgg : topI l n = tp l n.toNat := by unfold topI; rw [if_pos ⟨hok, hn⟩]
      have HGG := Lib.hid (hgg.symm.trans HG.out)
      clear hok hgg
      go_enter Try.func19, Try.ntmps19
      go_wp2_with (first
        | (go_at_call 33; (with_reducible refine (keep_yes l _ _ HV.out HOK.out).mono ?_); rintro e w1 ⟨p, rfl, hb1, hs1⟩
           have HB1 := Lib.hid hb1
           have HS1 := Lib.hid hs1
           clear hb1 hs1)
        | (go_at_call 34; (with_reducible refine (take_any HS1.out HD.out n n.toNat rfl).mono ?_); rintro e w2 ⟨rfl, hw2, _⟩; rw [show ((ds l).take n.toNat).sum = g from HGG.out]; have HW2 := Lib.hid hw2; clear hw2))
      go_ret
      exact ⟨rfl, HB.out.trans ((back_turn HB1.out HW2.out (Nat.le_refl _) HB1.out.size).mono HB.out.size)⟩
    · have hgg : topI l n = -1 := by unfold topI; rw [if_neg (fun h => hn h.2)]
      have HGG := Lib.hid (hgg.symm.trans HG.out)
      clear hok hgg
      go_enter Try.func19, Try.ntmps19
      go_wp2_with (first
        | (go_at_call 33; (with_reducible refine (keep_yes l _ _ HV.out HOK.out).mono ?_); rintro e w1 ⟨p, rfl, hb1, hs1⟩
           have HB1 := Lib.hid hb1
           clear hb1 hs1))
      go_ret
      exact ⟨reti HGG.out, HB.out.trans (HB1.out.mono HB.out.size)⟩
  · have hok' : pOk l = false := by simpa using hok
    have HOK := Lib.hid hok'
    have hgg : topI l n = -1 := by unfold topI; rw [if_neg (fun h => hok h.1)]
    have HGG := Lib.hid (hgg.symm.trans HG.out)
    clear hok hok' hgg
    go_enter Try.func19, Try.ntmps19
    go_wp2_with (first
      | (go_at_call 33; (with_reducible refine (keep_no l _ _ HV.out HOK.out).mono ?_); rintro e w' ⟨rfl, rfl⟩))
    go_ret
    exact ⟨reti HGG.out, HB.out⟩
/-- What is missing. -/
def spareI (l : List Int) (pc : Int) : Int := if pOk l = true ∧ in3 pc 0 100 = true then (max (lackI (ds l) pc) 0 + 99) / 100 else -1
set_option maxHeartbeats 1000000 in
theorem iPartsSpare_is (W : World) (l : List Int) (v : Value) (hv : IsI W v l) (pc : Int) (g : Int) (hg : spareI l pc = g) (w : World) (hb : Below W.heap.size W w) :
    Calls Try.prog 21 #[v, .int .i64 pc] w (Back (.int .i64 g) W) := by
  have HV := Lib.hid (hv.below hb)
  have HB := Lib.hid hb
  have HG := Lib.hid hg
  clear hv hb hg
  by_cases hok : pOk l = true
  · have HOK := Lib.hid hok
    have HD := Lib.hid (Bd.ds hok)
    cases hpc : in3 pc 0 100
    · have hgg : spareI l pc = -1 := by unfold spareI; rw [if_neg (fun h => by rw [hpc] at h; exact absurd h.2 (by simp))]
      have HGG := Lib.hid (hgg.symm.trans HG.out)
      have HPC := Lib.hid hpc
      clear hok hgg hpc
      go_enter Try.func21, Try.ntmps21
      go_wp2_with (first
        | (go_at_call 33; (with_reducible refine (keep_yes l _ _ HV.out HOK.out).mono ?_); rintro e w1 ⟨p, rfl, hb1, hs1⟩
           have HB1 := Lib.hid hb1
           clear hb1 hs1)
        | (go_at_call 35; (with_reducible refine (guessV_any pc _ HPC.out _).mono ?_); rintro e w2 ⟨rfl, hb2⟩; have HB2 := Lib.hid hb2; clear hb2))
      go_ret
      exact ⟨reti HGG.out, HB.out.trans (((HB1.out.alloc HB1.out.size _).trans (HB2.out.mono (by have := HB1.out.size; simp; omega))).mono HB.out.size)⟩
    · have hgg : spareI l pc = (max (lackI (ds l) pc) 0 + 99) / 100 := by unfold spareI; rw [if_pos ⟨hok, hpc⟩]
      obtain ⟨z, hz⟩ : ∃ z, lackI (ds l) pc = z := ⟨_, rfl⟩
      have hbz : z ≤ 200000000 := by
        have h1 := ((Bd.ds hok).take 1).sum
        have h2 := ((Bd.ds hok).drop 2).sum
        obtain ⟨h3, h4⟩ := in3_parts.1 hpc
        have h5 := mul_bd h1.1 h1.2 h3 h4
        rw [← hz]; unfold lackI; omega
      rw [hz] at hgg
      have HGG := Lib.hid (hgg.symm.trans HG.out)
      have HPC := Lib.hid hpc
      have HZ := Lib.hid hz
      clear hok hgg hpc hz
      go_enter Try.func21, Try.ntmps21
      go_wp2_with (first
        | (go_at_call 33; (with_reducible refine (keep_yes l _ _ HV.out HOK.out).mono ?_); rintro e w1 ⟨p, rfl, hb1, hs1⟩
           have HB1 := Lib.hid hb1
           have HSa := Lib.hid hs1
           have HSb := Lib.hid (hs1.below ((Below.refl w1.heap.size w1).alloc (Nat.le_refl _) (.cells #[.int .i64 pc] 44)))
           clear hb1 hs1)
        | (go_at_call 35; (with_reducible refine (guessV_any pc _ HPC.out _).mono ?_); rintro e w2 ⟨rfl, hb2⟩
           have HB2 := Lib.hid hb2
           have HS1 := Lib.hid (HSb.out.below hb2)
           have c2 : w2.cell? ⟨w1.heap.size, 0, none⟩ = some (.int .i64 pc) := cell_of_row w2 w1.heap.size 0 _ _ _ ((hb2.block w1.heap.size (by simp)).trans (heap_alloc_new w1 (.cells #[.int .i64 pc] 44)))
           clear hb2)
        | (go_at_call 36; (with_reducible refine (lack_any HS1.out HD.out pc HPC.out z HZ.out).mono ?_); rintro e w3 ⟨rfl, hw3⟩; have HW3 := Lib.hid hw3; clear hw3))
      all_goals
        go_ret
        exact ⟨reti (by rw [← HGG.out]; omega), HB.out.trans ((back_turn ((HB1.out.alloc HB1.out.size _).trans (HB2.out.mono (by have := HB1.out.size; simp; omega))) HW3.out (Nat.le_refl _) (Nat.le_trans HB1.out.size (by have := HB2.out.size; simp at this; omega))).mono HB.out.size)⟩
  · have hok' : pOk l = false := by simpa using hok
    have HOK := Lib.hid hok'
    have hgg : spareI l pc = -1 := by unfold spareI; rw [if_neg (fun h => hok h.1)]
    have HGG := Lib.hid (hgg.symm.trans HG.out)
    clear hok hok' hgg
    go_enter Try.func21, Try.ntmps21
    go_wp2_with (first
      | (go_at_call 33; (with_reducible refine (keep_no l _ _ HV.out HOK.out).mono ?_); rintro e w' ⟨rfl, rfl⟩))
    go_ret
    exact ⟨reti HGG.out, HB.out.alloc HB.out.size _⟩
end Go.Proofs.Ytfaffpfjgipifaa
