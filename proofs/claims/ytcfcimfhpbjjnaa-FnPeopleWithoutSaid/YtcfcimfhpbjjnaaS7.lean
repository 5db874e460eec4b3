import Derived.Test.YtcfcimfhpbjjnaaS5
namespace Go.Proofs.Ytcfcimfhpbjjnaa
open Go.RowKit
theorem lit_row {w : World} {g Bd : Nat} {p : Pn} (h : w.heap[g]? = some (.cells #[.int .i64 p.area, .int .i64 p.job, .int .i64 p.sex, .int .i64 p.pay] TP (0, 0))) (hg : g < Bd) : Row w Bd (some ⟨g, 0, none⟩) (pcells [p]) := by
  right
  refine ⟨g, 0, rfl, hg, fun j u hu => ?_⟩
  rw [Nat.zero_add, cell_of_row w g j _ _ _ h, ← hu]
  simp [pcells, Pn.cells]
theorem own_lit (W5 w : World) (p : Pn) (hb : Below W5.heap.size W5 w) : Own ((w.alloc (.cells #[.int .i64 p.area, .int .i64 p.job, .int .i64 p.sex, .int .i64 p.pay] TP)).alloc (.cells #[] TP)) W5.heap.size (.slice (some ⟨w.heap.size + 1, 0, none⟩) 0 0) [] := by
  have h := World.ownsRow_made (base := W5.heap.size) (e := TP) (size := 4) (w.alloc (.cells #[.int .i64 p.area, .int .i64 p.job, .int .i64 p.sex, .int .i64 p.pay] TP)) #[] 0 (by have := hb.size; simp; omega) (by simp [maxLen]) rfl
  have e : (w.alloc (.cells #[.int .i64 p.area, .int .i64 p.job, .int .i64 p.sex, .int .i64 p.pay] TP)).heap.size = w.heap.size + 1 := by simp
  rw [e] at h
  exact h
theorem heap_keep {w w' : World} {row : Option Nat} {g : Nat} {o : Obj} (h : w.heap[g]? = some o) (hg : w.grownBy w' row) (hne : some g ≠ row) : w'.heap[g]? = some o :=
  (hg.block g (Array.getElem?_eq_some_iff.1 h).1 hne).trans h
theorem askOk_all {l : List Pn} (h : okL l = true) : askOk l (-1) (-1) (-1) = true := by simp [askOk, h, ask3, ask1]
set_option maxHeartbeats 4000000 in
theorem w_PeopleWithout (A : Option Addr) (n c : Nat) (hnc : n ≤ c) (hn : n ≤ maxLen) (w : World) (hb : Bytes w w.heap.size A n) :
    Calls Try.prog 5 #[.slice A n c] w fun e w' => e = .returned (.bool true) ∧ Below w.heap.size w w' := by
  have hn2 := hn
  unfold maxLen at hn2
  by_cases hbig : 1048576 < n
  · go_enter Try.func5, Try.ntmps5
    go_wp2
    go_ret
    exact ⟨rfl, Below.refl _ _⟩
  · go_enter Try.func5, Try.ntmps5
    go_wp2_with fail
    refine (drawWithout_any A n c hnc hn _ hb).mono ?_
    rintro e W ⟨l, B, d, i, rfl, hrow, hl, hld, hd, hbd, i0, i1, hbW⟩
    have hlm : l.length ≤ maxLen := by simp only [maxLen]; omega
    have HBD := Lib.hid hbd; clear hbd
    have HBW := Lib.hid hbW; clear hbW
    rcases yes_or_no l i with ⟨hok, k, rfl, hkl⟩ | hno
    rotate_left
    · go_wp2_with fail
      refine (no_at l _ rfl B d i _ hrow hlm hno [] rfl).mono ?_
      rintro e w1 ⟨A1, c1, rfl, hr1, hlc1, hc1, hb1⟩
      go_wp2_with fail
      refine (sNo_at l _ rfl B d i _ (hrow.moved hb1) hlm hno [] rfl).mono ?_
      rintro e w2 ⟨A2, c2, rfl, hr2, hlc2, hc2, hb2⟩
      go_wp2_with fail
      refine (same_at [] _ _ rfl rfl A1 A2 c1 c2 (by simp) _ (hr1.moved hb2) hr2).mono ?_
      rintro e w3 ⟨rfl, hb3⟩
      go_wp2_with fail
      refine (same_at [] _ _ rfl rfl A1 A2 c1 c2 (by simp) _ ((hr1.moved hb2).moved hb3) (hr2.moved hb3)).mono ?_
      rintro e w4 ⟨rfl, hb4⟩
      go_wp2
      go_ret
      exact ⟨rfl, bth HBW.out (bth hb1 (bth hb2 (bth hb3 hb4)))⟩
    · have hm7 : (less1 l k).length < l.length := by have := less1_len hkl; omega
      have hm8 : (less1 l k).length ≤ 1000000 := by omega
      have hm9 : (less1 l k).length ≤ maxLen := by omega
      have hok' := less1_ok hkl hok
      have HLEN := Lib.hid (less1_len hkl)
      have HX := Lib.hid (cnt_less1 hkl (-1) (-1) (-1))
      have HY := Lib.hid (psum_less1 hkl (-1) (-1) (-1))
      have HBK0 := Lib.hid (less1_back hkl)
      have ha := Lib.hid (askOk_all hok)
      have ha' := Lib.hid (askOk_all hok')
      have hps := psum_bd l (-1) (-1) (-1) (okL_all hok).2
      have hps' := psum_bd _ (-1) (-1) (-1) (okL_all hok').2
      have hkI : (k : Int) < (l.length : Int) := by omega
      go_wp2_with fail
      refine (yes_at l _ rfl B d k _ rfl hkl _ hrow hok _ rfl).mono ?_
      rintro e w1 ⟨A1, c1, rfl, hr1, hlc1, hc1, hb1⟩
      go_wp2_with fail
      refine (sYes_at l _ rfl B d k _ rfl hkl hld _ (hrow.moved hb1) hok _ rfl).mono ?_
      rintro e w2 ⟨A2, c2, rfl, hr2, hlc2, hc2, hb2⟩
      go_wp2_with fail
      refine (same_at (less1 l k) _ _ rfl rfl A1 A2 c1 c2 hm8 _ (hr1.moved hb2) hr2).mono ?_
      rintro e w3 ⟨rfl, hb3⟩
      have hrow3 := ((hrow.moved hb1).moved hb2).moved hb3
      have hr3 := (hr1.moved hb2).moved hb3
      have HB3 := Lib.hid (bth HBW.out (bth hb1 (bth hb2 hb3)))
      clear hrow hr1 hr2 hb1 hb2 hb3 HBW hb
      have hf1 : fit3 l[k] (-1) (-1) (-1) = true := by simp [fit3, fit1]
      have HX1 := Lib.hid (show cnt l (-1) (-1) (-1) = cnt (less1 l k) (-1) (-1) (-1) + 1 by rw [HX.out, if_pos hf1])
      have HY1 := Lib.hid (show psum l (-1) (-1) (-1) = psum (less1 l k) (-1) (-1) (-1) + l[k].pay by rw [HY.out, if_pos hf1])
      have hcb := cnt_bd l (-1) (-1) (-1)
      have hcb' := cnt_bd (less1 l k) (-1) (-1) (-1)
      have HM := Lib.hid (many_pos ha.out); have HM' := Lib.hid (many_pos ha'.out)
      have HP := Lib.hid (pay_pos ha.out); have HP' := Lib.hid (pay_pos ha'.out)
      clear hf1 HX HY ha ha' hok hok'
      have hkm : k ≤ (less1 l k).length := by have := HLEN.out; omega
      clear HLEN
      generalize hpk : l[k] = p at *
      generalize less1 l k = m at *
      obtain ⟨b, o, rfl, hbo, f0, f1, f2, f3⟩ := hrow3.at_ k hkl
      rw [hpk] at f0 f1 f2 f3
      clear hpk
      have F := Lib.hid (show w3.cell? ⟨b, o + k * 4, none⟩ = some (.int .i64 p.area) ∧ w3.cell? ⟨b, o + k * 4 + 1, none⟩ = some (.int .i64 p.job) ∧ w3.cell? ⟨b, o + k * 4 + 2, none⟩ = some (.int .i64 p.sex) ∧ w3.cell? ⟨b, o + k * 4 + 3, none⟩ = some (.int .i64 p.pay) from ⟨f0, f1, f2, f3⟩)
      clear f0 f1 f2 f3
      go_wp2_with fail
      refine (many_any l (some ⟨b, o, none⟩) d (-1) (-1) (-1) _ hrow3 hlm).mono ?_
      rintro e w4 ⟨rfl, hb4⟩
      rw [HM.out]
      go_wp2_with fail
      refine (many_any m A1 c1 (-1) (-1) (-1) _ (hr3.moved hb4) hm9).mono ?_
      rintro e w5 ⟨rfl, hb5⟩
      rw [HM'.out]
      generalize cnt l (-1) (-1) (-1) = x at *
      generalize cnt m (-1) (-1) (-1) = y at *
      have hxy : x - y = 1 := by have := HX1.out; omega
      go_wp2_with fail
      refine (pay_any l (some ⟨b, o, none⟩) d (-1) (-1) (-1) _ ((hrow3.moved hb4).moved hb5) hlm).mono ?_
      rintro e w6 ⟨rfl, hb6⟩
      rw [HP.out]
      go_wp2_with fail
      refine (pay_any m A1 c1 (-1) (-1) (-1) _ (((hr3.moved hb4).moved hb5).moved hb6) hm9).mono ?_
      rintro e w7 ⟨rfl, hb7⟩
      rw [HP'.out]
      generalize psum l (-1) (-1) (-1) = u at *
      generalize psum m (-1) (-1) (-1) = v at *
      have huv : u - v = p.pay := by have := HY1.out; omega
      have hwp : wrap64 p.pay = p.pay := IntWalk.wrap64_in _ (by omega)
      have hb37 := bth hb4 (bth hb5 (bth hb6 hb7))
      have hrow7 := hrow3.moved hb37
      have hr7 := hr3.moved hb37
      have HB7 := Lib.hid (bth HB3.out hb37)
      have hbo7 : b < w7.heap.size := Nat.lt_of_lt_of_le hbo hb37.size
      have HF := Lib.hid (show ∀ w' : World, Below w7.heap.size w7 w' → (Below w7.heap.size w7 w' ∧ w'.cell? ⟨b, o + k * 4, none⟩ = some (.int .i64 p.area) ∧ w'.cell? ⟨b, o + k * 4 + 1, none⟩ = some (.int .i64 p.job) ∧ w'.cell? ⟨b, o + k * 4 + 2, none⟩ = some (.int .i64 p.sex) ∧ w'.cell? ⟨b, o + k * 4 + 3, none⟩ = some (.int .i64 p.pay)) from fun w' h => by
        obtain ⟨g0, g1, g2, g3⟩ := F.out
        have hh := bth hb37 h
        exact ⟨h, (hh.cell (p := ⟨b, _, none⟩) hbo).trans g0, (hh.cell (p := ⟨b, _, none⟩) hbo).trans g1, (hh.cell (p := ⟨b, _, none⟩) hbo).trans g2, (hh.cell (p := ⟨b, _, none⟩) hbo).trans g3⟩)
      clear hb4 hb5 hb6 hb7 hrow3 hr3 F
      have hkd : k ≤ c1 := by omega
      have hkd2 : (k : Int) ≤ (c1 : Int) := by omega
      have hkl2 : (k : Int) ≤ (m.length : Int) := by omega
      have r1 := hr7.front (k := k)
      obtain ⟨B2, hsl, hB2⟩ := slice_tail A1 m.length c1 k hkm hlc1
      have r2 := hB2 w7 _ m rfl hr7
      clear hB2
      have n1 : k = (m.take k).length := by simp; omega
      have n2 : m.length - k = (m.drop k).length := by simp
      have N1 := Lib.hid n1; have N2 := Lib.hid n2; clear n1 n2
      have b0 : Below w7.heap.size w7 w7.drew := (Below.refl _ _).drew
      have bA : Below w7.heap.size w7 ((w7.alloc (.cells #[] TP)).drew) := ((Below.refl _ _).alloc (Nat.le_refl _) _).drew
      have bC : Below w7.heap.size w7 ((w7.alloc (.cells #[.int .i64 p.area, .int .i64 p.job, .int .i64 p.sex, .int .i64 p.pay] TP)).drew) := ((Below.refl _ _).alloc (Nat.le_refl _) _).drew
      have bAB : Below w7.heap.size w7 (((w7.alloc (.cells #[] TP)).alloc (.cells #[.int .i64 p.area, .int .i64 p.job, .int .i64 p.sex, .int .i64 p.pay] TP)).drew) := (((Below.refl _ _).alloc (Nat.le_refl _) _).alloc (by simp) _).drew
      have bCB : Below w7.heap.size w7 (((w7.alloc (.cells #[.int .i64 p.area, .int .i64 p.job, .int .i64 p.sex, .int .i64 p.pay] TP)).alloc (.cells #[] TP)).drew) := (((Below.refl _ _).alloc (Nat.le_refl _) _).alloc (by simp) _).drew
      have oA : Own ((w7.alloc (.cells #[] TP)).drew) w7.heap.size (.slice (some ⟨w7.heap.size, 0, none⟩) 0 0) [] := own_new w7 w7 (Below.refl _ _)
      have oAB : Own (((w7.alloc (.cells #[] TP)).alloc (.cells #[.int .i64 p.area, .int .i64 p.job, .int .i64 p.sex, .int .i64 p.pay] TP)).drew) w7.heap.size (.slice (some ⟨w7.heap.size, 0, none⟩) 0 0) [] := Own.alloc oA _
      have oCB : Own (((w7.alloc (.cells #[.int .i64 p.area, .int .i64 p.job, .int .i64 p.sex, .int .i64 p.pay] TP)).alloc (.cells #[] TP)).drew) w7.heap.size (.slice (some ⟨w7.heap.size + 1, 0, none⟩) 0 0) [] := own_lit w7 w7 p (Below.refl _ _)
      have lAB := Lib.hid (show (((w7.alloc (.cells #[] TP)).alloc (.cells #[.int .i64 p.area, .int .i64 p.job, .int .i64 p.sex, .int .i64 p.pay] TP)).drew).heap[w7.heap.size + 1]? = some (.cells #[.int .i64 p.area, .int .i64 p.job, .int .i64 p.sex, .int .i64 p.pay] TP (0, 0)) from heap_alloc2_new w7 _ _)
      have lCB := Lib.hid (show (((w7.alloc (.cells #[.int .i64 p.area, .int .i64 p.job, .int .i64 p.sex, .int .i64 p.pay] TP)).alloc (.cells #[] TP)).drew).heap[w7.heap.size]? = some (.cells #[.int .i64 p.area, .int .i64 p.job, .int .i64 p.sex, .int .i64 p.pay] TP (0, 0)) from heap_alloc2_old w7 _ _)
      clear hcb hcb' hps hps' hkm hlc1 hlc2 i0 i1 hn2 hnc hn hbig HX1 HY1 HM HM' HP HP' hm9 hbo7
      go_wp2_with fail
      go_region_held3 (fun w' => Below w7.heap.size w7 w' ∧ w'.cell? ⟨b, o + k * 4, none⟩ = some (.int .i64 p.area) ∧ w'.cell? ⟨b, o + k * 4 + 1, none⟩ = some (.int .i64 p.job) ∧ w'.cell? ⟨b, o + k * 4 + 2, none⟩ = some (.int .i64 p.sex) ∧ w'.cell? ⟨b, o + k * 4 + 3, none⟩ = some (.int .i64 p.pay))
        (first | exact HF.out _ (by assumption) | exact HF.out _ b0 | exact HF.out _ bA | exact HF.out _ bC | exact HF.out _ bAB | exact HF.out _ bCB | exact HF.out _ (Below.alloc (by assumption) (Below.size (by assumption)) _))
        (first
          | (refine step_people rfl (.tmp 63) (.tmp 66) rfl w7.heap.size (.slice (some ⟨w7.heap.size, 0, none⟩) 0 0) [] rfl oA w7.heap.size A1 k c1 (m.take k) N1.out rfl (r1.below bA (Nat.le_refl _)) (by simp; omega) bA.size ?_
             intro v3 w8 ho3 hg3
             have hb8 : Below w7.heap.size w7 w8 := below_own bA oA hg3)
          | (refine step_people rfl (.tmp 63) (.tmp 66) rfl w7.heap.size (.slice (some ⟨w7.heap.size, 0, none⟩) 0 0) [] rfl oAB w7.heap.size A1 k c1 (m.take k) N1.out rfl (r1.below bAB (Nat.le_refl _)) (by simp; omega) bAB.size ?_
             intro v3 w8 ho3 hg3
             have hb8 : Below w7.heap.size w7 w8 := below_own bAB oAB hg3
             have hlit := lit_row (Bd := w7.heap.size + 2) (heap_keep lAB.out hg3 (by simp [Value.ownBlock])) (by omega))
          | (refine step_people rfl (.tmp 63) (.tmp 66) rfl w7.heap.size (.slice (some ⟨w7.heap.size + 1, 0, none⟩) 0 0) [] rfl oCB w7.heap.size A1 k c1 (m.take k) N1.out rfl (r1.below bCB (Nat.le_refl _)) (by simp; omega) bCB.size ?_
             intro v3 w8 ho3 hg3
             have hb8 : Below w7.heap.size w7 w8 := below_own bCB oCB hg3
             have hlit := lit_row (Bd := w7.heap.size + 2) (heap_keep lCB.out hg3 (by simp [Value.ownBlock])) (by omega))
          | (refine step_people rfl (.tmp 67) (.tmp 72) rfl w7.heap.size v3 ([] ++ m.take k) (by simp [Act.eval]) (ho3.alloc _) (w8.heap.size + 1) (some ⟨w8.heap.size, 0, none⟩) 1 1 [p] rfl rfl (lit_row (heap_alloc_new w8 _) (by omega)) (by simp; omega) (by have := hb8.size; simp; omega) ?_
             intro v4 w9 ho4 hg4
             have hb9 : Below w7.heap.size w7 w9 := below_own (hb8.alloc hb8.size _) (ho3.alloc _) hg4)
          | (refine step_people rfl (.tmp 67) (.tmp 72) rfl w7.heap.size v3 ([] ++ m.take k) (by simp [Act.eval]) ho3 (w7.heap.size + 2) (some ⟨w7.heap.size + 1, 0, none⟩) 1 1 [p] rfl rfl hlit (by simp; omega) (by have := hb8.size; simp; omega) ?_
             intro v4 w9 ho4 hg4
             have hb9 : Below w7.heap.size w7 w9 := below_own hb8 ho3 hg4)
          | (refine step_people rfl (.tmp 67) (.tmp 72) rfl w7.heap.size v3 ([] ++ m.take k) (by simp [Act.eval]) ho3 (w7.heap.size + 2) (some ⟨w7.heap.size, 0, none⟩) 1 1 [p] rfl rfl hlit (by simp; omega) (by have := hb8.size; simp; omega) ?_
             intro v4 w9 ho4 hg4
             have hb9 : Below w7.heap.size w7 w9 := below_own hb8 ho3 hg4)
          | (refine step_people rfl (.tmp 73) (.tmp 76) rfl w7.heap.size v4 ([] ++ m.take k ++ [p]) (by simp [Act.eval]) ho4 w7.heap.size B2 (m.length - k) (c1 - k) (m.drop k) N2.out rfl (r2.below hb9 (Nat.le_refl _)) (by simp; omega) hb9.size ?_
             intro v5 w10 ho5 hg5
             have hb10 : Below w7.heap.size w7 w10 := below_own hb9 ho4 hg5
             have HO5 := Lib.hid ho5
             clear ho3 ho4 ho5 hg3 hg4 hg5 hb8 hb9))
      all_goals
        have HBK := Lib.hid (show ([] ++ m.take k ++ [p]) ++ m.drop k = l by rw [List.nil_append]; exact HBK0.out)
        obtain ⟨A5, c5, rfl, hc5, hc5', hr10, hA5⟩ := (HBK.out ▸ HO5.out : Own w10 w7.heap.size v5 l).form
        have hrow10 := hrow7.moved hb10
        clear b0 bA bC bAB bCB oA oAB oCB lAB lCB hr7 hrow7 hA5
        obtain ⟨_, f0, f1, f2, f3⟩ := HF.out w10 hb10
        go_wp2_with fail
        refine (same_at l _ _ rfl rfl A5 (some ⟨b, o, none⟩) c5 d (by omega) _ hr10 hrow10).mono ?_
        rintro e w11 ⟨rfl, hb11⟩
        go_wp2
        go_ret
        exact ⟨rfl, bth HB7.out (bth hb10 hb11)⟩
end Go.Proofs.Ytcfcimfhpbjjnaa
