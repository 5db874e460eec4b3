/- Contracts of the program: people counted in a map; people of both lists. -/
import Derived.Test.YtjgohakiodcjmaaPK
import Derived.Test.YtjgohakiodcjmaaA4
import Derived.Test.YtjgohakiodcjmaaA9
import Derived.Deep.RegionHeld3
set_option maxRecDepth 100000
namespace Go.Proofs.Ytjgohakiodcjmaa
open Go.RowKit Go.Maps
theorem _root_.Go.World.grownBy.trans_same2 {a b c : World} {R : Option Nat} (h : a.grownBy b R) (k : b.grownBy c R) : a.grownBy c R := h.andThen k (fun _ hj => .inr hj)
theorem take_up {α : Type} (x : List α) (k : Nat) (hk : k < x.length) : x.take (k + 1) = x.take k ++ [x[k]] := List.take_succ_eq_append_getElem hk
theorem count_bd (x : List Pn) (p : Pn) (k : Nat) : (x.take k).count p ≤ k := Nat.le_trans List.count_le_length (List.length_take_le _ _)
set_option maxRecDepth 100000 in
set_option maxHeartbeats 1000000 in
theorem iCnt_is (x : List Pn) (q : Nat) (hq : q = x.length) (hok : okL x = true) (A : Option Addr) (c : Nat) (w : World) (hr : Row w w.heap.size A (pcells x)) :
    Calls Try.prog 51 #[.slice A q c] w fun e w' => e = .returned (.map (some w.heap.size)) ∧ Cnt w' w.heap.size q x ∧ Below w.heap.size w w' := by
  have HQ := Lib.hid hq
  have hq4 : q ≤ 40 := by rw [hq]; exact (okL_all hok).1
  have HWF := Lib.hid hok
  clear hq hok
  have hmm := @run_makeMap Try.prog
  go_enter Try.func51, Try.ntmps51
  go_wp2
  go_loopw [9] (fun i wr => ∃ k : Nat, k ≤ q ∧ i = .int .i64 k ∧ Cnt wr w.heap.size k (x.take k) ∧ Below w.heap.size w wr) (fun i _ => q - (intOf i).toNat)
  case atStart => exact ⟨0, Nat.zero_le _, rfl, ⟨_, World.ownsMap_made _ _ _ _, ptells_none⟩, (Below.refl _ _).alloc (Nat.le_refl _) _⟩
  case round =>
    obtain ⟨k, hk, rfl, hgr, hb⟩ := hrel
    clear hmm
    by_cases hlt : k < q
    · have hki : (k : Int) < (q : Int) := by omega
      have hkx : k < x.length := by rw [← HQ.out]; exact hlt
      obtain ⟨bq, o, rfl, hbw, c0, c1, c2, c3⟩ := (hr.below hb (Nat.le_refl _)).at_ k hkx
      have HT := Lib.hid (take_up x k hkx)
      have HKW := Lib.hid (pk_wf HWF.out (List.getElem_mem hkx))
      obtain ⟨p, hp⟩ : ∃ p, x[k] = p := ⟨_, rfl⟩
      rw [hp] at c0 c1 c2 c3 HT HKW
      clear hp
      have hz := hb.size
      obtain ⟨W, hW⟩ : ∃ W, W = wr.alloc (.cells #[.int .i64 p.area, .int .i64 p.job, .int .i64 p.sex, .int .i64 p.pay] TP) := ⟨_, rfl⟩
      have hbW : Below w.heap.size w W := by rw [hW]; exact hb.alloc hz _
      have hWz : wr.heap.size < W.heap.size := by rw [hW]; simp
      have d0 : W.cell? ⟨wr.heap.size, 0, none⟩ = some (.int .i64 p.area) := by rw [hW]; simp [go_sem]
      have d1 : W.cell? ⟨wr.heap.size, 1, none⟩ = some (.int .i64 p.job) := by rw [hW]; simp [go_sem]
      have d2 : W.cell? ⟨wr.heap.size, 2, none⟩ = some (.int .i64 p.sex) := by rw [hW]; simp [go_sem]
      have d3 : W.cell? ⟨wr.heap.size, 3, none⟩ = some (.int .i64 p.pay) := by rw [hW]; simp [go_sem]
      obtain ⟨D, hown, htell⟩ := hgr
      have hblt : w.heap.size < wr.heap.size := hown.lt
      have HOW := Lib.hid (show W.ownsMap Try.prog PTK pElem w.heap.size k D by rw [hW]; exact hown.alloc _)
      have HTL := Lib.hid htell
      have hs1 := count_bd x p k
      obtain ⟨s, hs⟩ : ∃ s, (x.take k).count p = s := ⟨_, rfl⟩
      rw [hs] at hs1
      have HS := Lib.hid hs
      have hwrap : IntKind.i64.wrap ((s : Int) + 1) = (s : Int) + 1 := by rw [IntKind.wrap_i64]; omega
      have HF := Lib.hid (show ∀ w' : World, W.grownBy w' (some w.heap.size) → (Below w.heap.size w w' ∧ w'.cell? ⟨wr.heap.size, 0, none⟩ = some (.int .i64 p.area) ∧ w'.cell? ⟨wr.heap.size, 1, none⟩ = some (.int .i64 p.job) ∧ w'.cell? ⟨wr.heap.size, 2, none⟩ = some (.int .i64 p.sex) ∧ w'.cell? ⟨wr.heap.size, 3, none⟩ = some (.int .i64 p.pay)) from
        fun w' h => by
          have hc : ∀ j, w'.cell? ⟨wr.heap.size, j, none⟩ = W.cell? ⟨wr.heap.size, j, none⟩ := fun j => by
            have h2 := h.block wr.heap.size hWz (fun e => by injection e with e; omega)
            unfold World.cell?; simp only [h2]
          exact ⟨hbW.grown h hbW.size (fun j hj => by cases hj; exact Nat.le_refl _), (hc 0).trans d0, (hc 1).trans d1, (hc 2).trans d2, (hc 3).trans d3⟩)
      have HG0 := Lib.hid (show W.grownBy W.drew (some w.heap.size) from ⟨rfl, rfl, rfl, Nat.le_refl _, fun _ _ _ => rfl⟩)
      obtain ⟨v0, st, w4, w5, r1, r2, r3, r4, ho5, g4, g5⟩ := pk_bump (w := W.drew) (pk_block HOW.out rfl) (by simp only [maxLen]; omega) HKW.out (c := (s : Int)) (z := (s : Int) + 1) (by rw [HTL.out.at_ _ HKW.out, HS.out]) (WalkArith.wf_i64 (by omega))
      replace r1 : (Instr.lookup PTM (.map (some w.heap.size)) (.agg #[.int .i64 p.area, .int .i64 p.job, .int .i64 p.sex, .int .i64 p.pay]) false).run Try.prog W.drew = .ok (.int .i64 (s : Int)) W.drew := r1
      replace r2 : (Instr.lookup PTM (.map (some w.heap.size)) (.agg #[.int .i64 p.area, .int .i64 p.job, .int .i64 p.sex, .int .i64 p.pay]) false).run Try.prog w4 = .ok (.int .i64 (s : Int)) w4 := r2
      replace r3 : (Instr.mapEntry PTM (.map (some w.heap.size)) (.agg #[.int .i64 p.area, .int .i64 p.job, .int .i64 p.sex, .int .i64 p.pay])).run Try.prog W.drew = .ok (.tuple #[v0, .int .i64 st]) w4 := r3
      have HG4 := Lib.hid (HG0.out.trans_same2 g4)
      have HG5 := Lib.hid (HG0.out.trans_same2 g5)
      have HO5 := Lib.hid ho5
      clear ho5 g4 g5
      clear hs hs1 hown htell d0 d1 d2 d3
      go_wp2
      rw [← hW]
      clear hW c0 c1 c2 c3
      go_region_held3 (fun w' => Below w.heap.size w w' ∧ w'.cell? ⟨wr.heap.size, 0, none⟩ = some (.int .i64 p.area) ∧ w'.cell? ⟨wr.heap.size, 1, none⟩ = some (.int .i64 p.job) ∧ w'.cell? ⟨wr.heap.size, 2, none⟩ = some (.int .i64 p.sex) ∧ w'.cell? ⟨wr.heap.size, 3, none⟩ = some (.int .i64 p.pay))
        (first | exact HF.out _ HG0.out | exact HF.out _ HG4.out | exact HF.out _ HG5.out)
        (fail)
      all_goals
        go_wp2
        go_roundw
        case rel => exact ⟨k + 1, by omega, by go_num, ⟨_, HO5.out, by rw [HT.out]; exact HTL.out.more HKW.out HS.out⟩, (HF.out _ HG5.out).1⟩
        case measure => simp [intOf]; omega
    · have hkq : k = q := by omega
      have ht : x.take k = x := List.take_of_length_le (by rw [← HQ.out]; omega)
      rw [ht, hkq] at hgr
      have hki : ¬ (k : Int) < (q : Int) := by omega
      have HGR := Lib.hid hgr; clear hgr
      go_wp2
      go_ret
      exact ⟨rfl, HGR.out, hb⟩
/-- How many are the same, or -1. -/
def dsame (a b : List Pn) : Int := if (okL a && okL b) = true then (smN a b : Nat) else -1
set_option maxRecDepth 100000 in
set_option maxHeartbeats 2000000 in
theorem iDSame_is (W : World) (a : List Pn) (v : Value) (hv : IsP W v a) (b : List Pn) (v2 : Value) (hv2 : IsP W v2 b) (g : Int) (hg : dsame a b = g) (w : World) (hb : Below W.heap.size W w) :
    Calls Try.prog 23 #[v, v2] w (Back (.int .i64 g) W) := by
  have HG := Lib.hid hg
  have HB0 := Lib.hid hb
  have hW0 := hb.size
  have hv0 := hv.below hb
  have hu0 := hv2.below hb
  clear hv hv2 hb hg
  obtain ⟨A, c, rfl, a1, a2, a3⟩ := hv0
  obtain ⟨A', c', rfl, e1, e2, e3⟩ := hu0
  obtain ⟨q, hq⟩ : ∃ q, q = a.length := ⟨_, rfl⟩
  obtain ⟨n, hn⟩ : ∃ n, n = b.length := ⟨_, rfl⟩
  have HQ := Lib.hid hq
  have HN := Lib.hid hn
  have HA := Lib.hid a3
  have HS := Lib.hid e3
  have HP1 := Lib.hid (show ∀ X, Below w.heap.size w X → Calls Try.prog 30 #[.slice A q c] X (Back (.bool (okL a)) w) from fun X h => by
    have h1 := valid_any a A c X ((a3.below h (Nat.le_refl _)).more h.size) (Nat.le_trans a1 a2)
    rw [← hq] at h1
    exact h1.mono fun e w' hh => ⟨hh.1, h.trans (hh.2.mono h.size)⟩)
  have HP2 := Lib.hid (show ∀ X, Below w.heap.size w X → Calls Try.prog 30 #[.slice A' n c'] X (Back (.bool (okL b)) w) from fun X h => by
    have h1 := valid_any b A' c' X ((e3.below h (Nat.le_refl _)).more h.size) (Nat.le_trans e1 e2)
    rw [← hn] at h1
    exact h1.mono fun e w' hh => ⟨hh.1, h.trans (hh.2.mono h.size)⟩)
  rw [← hq, ← hn]
  obtain ⟨x, hx⟩ : ∃ x, okL a = x := ⟨_, rfl⟩
  obtain ⟨y, hy⟩ : ∃ y, okL b = y := ⟨_, rfl⟩
  rw [hx] at HP1
  rw [hy] at HP2
  have HX := Lib.hid hx
  have HY := Lib.hid hy
  clear a1 a2 a3 e1 e2 e3 hq hn hx hy
  go_enter Try.func23, Try.ntmps23
  go_wp2_with fail
  refine (HP1.out w (Below.refl _ _)).mono ?_
  rintro e w1 ⟨rfl, b1⟩
  have HB1 := Lib.hid b1
  clear b1
  cases x
  · have HE := Lib.hid (show g = -1 by rw [← HG.out, dsame, HX.out]; rfl)
    go_wp2
    go_ret
    exact ⟨by rw [HE.out]; rfl, HB0.out.trans (HB1.out.mono hW0)⟩
  go_wp2_with fail
  refine (HP2.out w1 HB1.out).mono ?_
  rintro e w2 ⟨rfl, b2⟩
  have HB2 := Lib.hid b2
  clear b2
  cases y
  · have HE := Lib.hid (show g = -1 by rw [← HG.out, dsame, HX.out, HY.out]; rfl)
    go_wp2
    go_ret
    exact ⟨by rw [HE.out]; rfl, HB0.out.trans (HB2.out.mono hW0)⟩
  have HE := Lib.hid (show g = (smN a b : Nat) by rw [← HG.out, dsame, HX.out, HY.out]; rfl)
  have hq4 : q ≤ 40 := by rw [HQ.out]; exact (okL_all HX.out).1
  have hn4 : n ≤ 40 := by rw [HN.out]; exact (okL_all HY.out).1
  have hz2 := HB2.out.size
  clear HP1 HP2 HB1 HG
  go_wp2_with fail
  refine (iCnt_is a q HQ.out HX.out A c w2 ((HA.out.below HB2.out (Nat.le_refl _)).more hz2)).mono ?_
  rintro e w3 ⟨rfl, hc3, b3⟩
  have HC3 := Lib.hid hc3
  have HB3 := Lib.hid (HB2.out.trans (b3.mono hz2))
  clear hc3 b3 HB2
  go_wp2
  go_loopw [6, 21] (fun s i wr => ∃ (k m : Nat) (r : List Pn), k ≤ n ∧ i = .int .i64 k ∧ s = .int .i64 m ∧ m + smN r (b.drop k) = smN a b ∧ (m ≤ k ∧ r.length ≤ 40) ∧ Cnt wr w2.heap.size (q + k) r ∧ Below w.heap.size w wr) (fun _ i _ => n - (intOf i).toNat)
  case atStart => exact ⟨0, 0, a, Nat.zero_le _, rfl, rfl, by simp, ⟨Nat.le_refl _, (okL_all HX.out).1⟩, HC3.out, HB3.out⟩
  case round =>
    obtain ⟨k, m, r, hk, rfl, rfl, hsum, hml, hgr, hb⟩ := hrel
    clear HC3 HB3
    by_cases hlt : k < n
    · have hki : (k : Int) < (n : Int) := by omega
      have hkb : k < b.length := by rw [← HN.out]; exact hlt
      obtain ⟨bq, o, rfl, hbw, c0, c1, c2, c3⟩ := (HS.out.below hb (Nat.le_refl _)).at_ k hkb
      have HKW := Lib.hid (pk_wf HY.out (List.getElem_mem hkb))
      have hgp : b[k]? = some b[k] := List.getElem?_eq_getElem hkb
      have HSUM := Lib.hid hsum
      obtain ⟨p, hp⟩ : ∃ p, b[k] = p := ⟨_, rfl⟩
      rw [hp] at c0 c1 c2 c3 HKW hgp
      have HGP := Lib.hid hgp
      clear hp hsum hgp
      have hz := hb.size
      obtain ⟨W, hW⟩ : ∃ W, W = wr.alloc (.cells #[.int .i64 p.area, .int .i64 p.job, .int .i64 p.sex, .int .i64 p.pay] TP) := ⟨_, rfl⟩
      have hbW : Below w.heap.size w W := by rw [hW]; exact hb.alloc hz _
      have hWz : wr.heap.size < W.heap.size := by rw [hW]; simp
      have d0 : W.cell? ⟨wr.heap.size, 0, none⟩ = some (.int .i64 p.area) := by rw [hW]; simp [go_sem]
      have d1 : W.cell? ⟨wr.heap.size, 1, none⟩ = some (.int .i64 p.job) := by rw [hW]; simp [go_sem]
      have d2 : W.cell? ⟨wr.heap.size, 2, none⟩ = some (.int .i64 p.sex) := by rw [hW]; simp [go_sem]
      have d3 : W.cell? ⟨wr.heap.size, 3, none⟩ = some (.int .i64 p.pay) := by rw [hW]; simp [go_sem]
      have hblt : w2.heap.size < wr.heap.size := hgr.lt
      have HGW := Lib.hid (show Cnt W w2.heap.size (q + k) r by rw [hW]; exact hgr.alloc _)
      have hs1 : r.count p ≤ 40 := Nat.le_trans List.count_le_length hml.2
      obtain ⟨s, hs⟩ : ∃ s, r.count p = s := ⟨_, rfl⟩
      have hlook : (Instr.lookup PTM (.map (some w2.heap.size)) (.agg #[.int .i64 p.area, .int .i64 p.job, .int .i64 p.sex, .int .i64 p.pay]) false).run Try.prog W = .ok (.int .i64 (s : Int)) W := by
        have := cnt_look HGW.out HKW.out W rfl
        rw [hs] at this
        exact this
      rw [hs] at hs1
      have HS9 := Lib.hid hs
      have HML := Lib.hid hml
      have HBW := Lib.hid hbW
      by_cases hs0 : 0 < s
      · have hmem : p ∈ r := List.count_pos_iff.1 (by rw [hs]; exact hs0)
        have hs0i : (0 : Int) < (s : Int) := by omega
        have HSM := Lib.hid (show (m + 1) + smN (r.erase p) (b.drop (k + 1)) = smN a b by
          have := smN_drop_hit HGP.out hmem
          have := HSUM.out
          omega)
        have HLE := Lib.hid (show (r.erase p).length ≤ 40 from Nat.le_trans (List.length_erase_le) hml.2)
        obtain ⟨D, hown, htell⟩ := HGW.out
        have HOW := Lib.hid hown
        have HTL := Lib.hid htell
        have HS := Lib.hid hs
        have hwrap : IntKind.i64.wrap ((s : Int) - 1) = (s : Int) - 1 := by rw [IntKind.wrap_i64]; omega
        have hwm : IntKind.i64.wrap ((m : Int) + 1) = (m : Int) + 1 := by rw [IntKind.wrap_i64]; omega
        have HF := Lib.hid (show ∀ w' : World, W.grownBy w' (some w2.heap.size) → (Below w.heap.size w w' ∧ w'.cell? ⟨wr.heap.size, 0, none⟩ = some (.int .i64 p.area) ∧ w'.cell? ⟨wr.heap.size, 1, none⟩ = some (.int .i64 p.job) ∧ w'.cell? ⟨wr.heap.size, 2, none⟩ = some (.int .i64 p.sex) ∧ w'.cell? ⟨wr.heap.size, 3, none⟩ = some (.int .i64 p.pay)) from
          fun w' h => by
            have hc : ∀ j, w'.cell? ⟨wr.heap.size, j, none⟩ = W.cell? ⟨wr.heap.size, j, none⟩ := fun j => by
              have h2 := h.block wr.heap.size hWz (fun e => by injection e with e; omega)
              unfold World.cell?; simp only [h2]
            exact ⟨hbW.grown h hbW.size (fun j hj => by cases hj; exact hz2), (hc 0).trans d0, (hc 1).trans d1, (hc 2).trans d2, (hc 3).trans d3⟩)
        have HG0 := Lib.hid (show W.grownBy W.drew (some w2.heap.size) from ⟨rfl, rfl, rfl, Nat.le_refl _, fun _ _ _ => rfl⟩)
        obtain ⟨v0, st, w4, w5, r1, r2, r3, r4, ho5, g4, g5⟩ := pk_bump (w := W.drew) (pk_block HOW.out rfl) (by simp only [maxLen]; omega) HKW.out (c := (s : Int)) (z := (s : Int) - 1) (by rw [HTL.out.at_ _ HKW.out, HS.out]) (WalkArith.wf_i64 (by omega))
        replace r1 : (Instr.lookup PTM (.map (some w2.heap.size)) (.agg #[.int .i64 p.area, .int .i64 p.job, .int .i64 p.sex, .int .i64 p.pay]) false).run Try.prog W.drew = .ok (.int .i64 (s : Int)) W.drew := r1
        replace r2 : (Instr.lookup PTM (.map (some w2.heap.size)) (.agg #[.int .i64 p.area, .int .i64 p.job, .int .i64 p.sex, .int .i64 p.pay]) false).run Try.prog w4 = .ok (.int .i64 (s : Int)) w4 := r2
        replace r3 : (Instr.mapEntry PTM (.map (some w2.heap.size)) (.agg #[.int .i64 p.area, .int .i64 p.job, .int .i64 p.sex, .int .i64 p.pay])).run Try.prog W.drew = .ok (.tuple #[v0, .int .i64 st]) w4 := r3
        have HG4 := Lib.hid (HG0.out.trans_same2 g4)
        have HG5 := Lib.hid (HG0.out.trans_same2 g5)
        have HO5 := Lib.hid ho5
        clear ho5 g4 g5
        clear hs hs1 hown htell hmem
        rw [hW] at hlook d0 d1 d2 d3
        go_wp2
        rw [← hW]
        clear hW c0 c1 c2 c3 hlook d0 d1 d2 d3
        go_region_held3 (fun w' => Below w.heap.size w w' ∧ w'.cell? ⟨wr.heap.size, 0, none⟩ = some (.int .i64 p.area) ∧ w'.cell? ⟨wr.heap.size, 1, none⟩ = some (.int .i64 p.job) ∧ w'.cell? ⟨wr.heap.size, 2, none⟩ = some (.int .i64 p.sex) ∧ w'.cell? ⟨wr.heap.size, 3, none⟩ = some (.int .i64 p.pay))
          (first | exact HF.out _ HG0.out | exact HF.out _ HG4.out | exact HF.out _ HG5.out)
          (fail)
        all_goals
          go_wp2
          go_roundw
          case rel => exact ⟨k + 1, m + 1, r.erase p, by omega, by go_num, by go_num, HSM.out, ⟨by omega, HLE.out⟩, ⟨_, HO5.out, HTL.out.less HKW.out HS.out hs0⟩, (HF.out _ HG5.out).1⟩
          case measure => simp [intOf]; omega
      · have hmem : p ∉ r := fun h => by have := List.count_pos_iff.2 h; omega
        have hs0i : ¬ (0 : Int) < (s : Int) := by omega
        have HSM := Lib.hid (show m + smN r (b.drop (k + 1)) = smN a b by
          have := smN_drop_miss HGP.out hmem
          have := HSUM.out
          omega)
        have HGN := Lib.hid (show Cnt W w2.heap.size (q + (k + 1)) r from HGW.out.wider (by omega))
        clear hs hs1 hmem d0 d1 d2 d3
        rw [hW] at hlook
        go_wp2
        rw [← hW]
        clear hW c0 c1 c2 c3 hlook
        go_roundw
        case rel => exact ⟨k + 1, m, r, by omega, by go_num, rfl, HSM.out, ⟨by omega, HML.out.2⟩, HGN.out, HBW.out⟩
        case measure => simp [intOf]; omega
    · have hki : ¬ (k : Int) < (n : Int) := by omega
      have hm : m = smN a b := by
        rw [smN_drop_all (by rw [← HN.out]; omega)] at hsum
        omega
      have HE2 := Lib.hid (show g = (m : Int) by rw [HE.out, hm])
      have HBX := Lib.hid hb
      clear hgr hb hsum hm
      go_wp2
      go_ret
      exact ⟨by rw [HE2.out]; rfl, HB0.out.trans (HBX.out.mono hW0)⟩
theorem dppl_eq (a b : List Pn) : (dsame a b == (b.length : Int)) = (okL a && okL b && decide (smN a b = b.length)) := by
  unfold dsame
  cases h : (okL a && okL b)
  · simp
  · simp only [if_true, Bool.true_and]
    rw [Bool.eq_iff_iff]
    simp
    omega
/-- Whether the second people are some of the first ones. -/
def dppl (a b : List Pn) : Bool := okL a && okL b && decide (smN a b = b.length)
set_option maxHeartbeats 1000000 in
theorem iDPpl_is (W : World) (a : List Pn) (v : Value) (hv : IsP W v a) (b : List Pn) (v2 : Value) (hv2 : IsP W v2 b) (g : Bool) (hg : dppl a b = g) (w : World) (hb : Below W.heap.size W w) :
    Calls Try.prog 13 #[v, v2] w (Back (.bool g) W) := by
  have HV := Lib.hid hv
  have HU := Lib.hid hv2
  have HB := Lib.hid hb
  obtain ⟨x, hx⟩ : ∃ x, dsame a b = x := ⟨_, rfl⟩
  have HX := Lib.hid hx
  have HE := Lib.hid (show (x == (b.length : Int)) = g by rw [← hx, dppl_eq]; exact hg)
  obtain ⟨A', c', hv3, _, _, _⟩ := hv2
  subst hv3
  obtain ⟨n, hn⟩ : ∃ n, b.length = n := ⟨_, rfl⟩
  rw [hn] at HU HE ⊢
  clear hv hb hg hx hn
  go_enter Try.func13, Try.ntmps13
  go_wp2_with fail
  refine (iDSame_is W a _ HV.out b _ HU.out x HX.out w HB.out).mono ?_
  rintro e w1 ⟨rfl, b1⟩
  go_wp2
  go_ret
  exact ⟨retb HE.out, b1⟩
end Go.Proofs.Ytjgohakiodcjmaa
