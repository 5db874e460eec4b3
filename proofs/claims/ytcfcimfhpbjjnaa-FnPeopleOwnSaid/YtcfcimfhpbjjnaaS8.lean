import Derived.Test.YtcfcimfhpbjjnaaS5
namespace Go.Proofs.Ytcfcimfhpbjjnaa
open Go.RowKit
theorem okP_codes {p : Pn} (h : okP p = true) : 0 ≤ p.area ∧ p.area < 4 ∧ 0 ≤ p.job ∧ p.job < 4 ∧ 0 ≤ p.sex ∧ p.sex < 2 := by
  simp [okP, inC] at h; omega
theorem fit3_own (p : Pn) : fit3 p p.area p.job p.sex = true := by simp [fit3, fit1]
theorem fit3_job (p : Pn) : fit3 p (-1) p.job (-1) = true := by simp [fit3, fit1]
theorem askOk_own {l : List Pn} {p : Pn} (h : okL l = true) (hp : okP p = true) : askOk l p.area p.job p.sex = true ∧ askOk l (-1) p.job (-1) = true := by
  have h2 := okP_codes hp
  simp [askOk, h, ask3, ask1]; omega
set_option maxHeartbeats 4000000 in
theorem w_PeopleOwn (A : Option Addr) (n c : Nat) (hnc : n ≤ c) (hn : n ≤ maxLen) (w : World) (hb : Bytes w w.heap.size A n) :
    Calls Try.prog 6 #[.slice A n c] w fun e w' => e = .returned (.bool true) ∧ Below w.heap.size w w' := by
  have hn2 := hn
  unfold maxLen at hn2
  by_cases hbig : 1048576 < n
  · go_enter Try.func6, Try.ntmps6
    go_wp2
    go_ret
    exact ⟨rfl, Below.refl _ _⟩
  · go_enter Try.func6, Try.ntmps6
    go_wp2_with fail
    refine (drawWithout_any A n c hnc hn _ hb).mono ?_
    rintro e W ⟨l, B, d, i, rfl, hrow, hl, hld, hd, hbd, i0, i1, hbW⟩
    have hlm : l.length ≤ maxLen := by simp only [maxLen]; omega
    have HBD := Lib.hid hbd; clear hbd
    have HBW := Lib.hid hbW; clear hbW
    rcases yes_or_no l i with ⟨hok, k, rfl, hkl⟩ | hno
    rotate_left
    · go_wp2_with fail
      refine (no_at l _ rfl B d i _ hrow hlm hno [] rfl).mono ?_
      rintro e w1 ⟨A1, c1, rfl, hr1, hlc1, hc1, hb1⟩
      go_wp2_with fail
      refine (sNo_at l _ rfl B d i _ (hrow.moved hb1) hlm hno [] rfl).mono ?_
      rintro e w2 ⟨A2, c2, rfl, hr2, hlc2, hc2, hb2⟩
      go_wp2_with fail
      refine (same_at [] _ _ rfl rfl A1 A2 c1 c2 (by simp) _ (hr1.moved hb2) hr2).mono ?_
      rintro e w3 ⟨rfl, hb3⟩
      go_wp2_with fail
      refine (same_at [] _ _ rfl rfl A1 A2 c1 c2 (by simp) _ ((hr1.moved hb2).moved hb3) (hr2.moved hb3)).mono ?_
      rintro e w4 ⟨rfl, hb4⟩
      go_wp2
      go_ret
      exact ⟨rfl, bth HBW.out (bth hb1 (bth hb2 (bth hb3 hb4)))⟩
    · have hm7 : (less1 l k).length < l.length := by have := less1_len hkl; omega
      have hm8 : (less1 l k).length ≤ 1000000 := by omega
      have hm9 : (less1 l k).length ≤ maxLen := by omega
      have hok' := less1_ok hkl hok
      have HLEN := Lib.hid (less1_len hkl)
      have HX := Lib.hid (cnt_less1 hkl l[k].area l[k].job l[k].sex)
      have HY := Lib.hid (cnt_less1 hkl (-1) l[k].job (-1))
      have hpk0 : okP l[k] = true := List.all_eq_true.1 (okL_all hok).2 _ (List.getElem_mem hkl)
      have ha := Lib.hid (askOk_own hok hpk0)
      have ha' := Lib.hid (askOk_own hok' hpk0)
      have hcb := cnt_bd l l[k].area l[k].job l[k].sex
      have hcb' := cnt_bd (less1 l k) l[k].area l[k].job l[k].sex
      have hjb := cnt_bd l (-1) l[k].job (-1)
      have hjb' := cnt_bd (less1 l k) (-1) l[k].job (-1)
      have hkI : (k : Int) < (l.length : Int) := by omega
      clear hpk0
      go_wp2_with fail
      refine (yes_at l _ rfl B d k _ rfl hkl _ hrow hok _ rfl).mono ?_
      rintro e w1 ⟨A1, c1, rfl, hr1, hlc1, hc1, hb1⟩
      go_wp2_with fail
      refine (sYes_at l _ rfl B d k _ rfl hkl hld _ (hrow.moved hb1) hok _ rfl).mono ?_
      rintro e w2 ⟨A2, c2, rfl, hr2, hlc2, hc2, hb2⟩
      go_wp2_with fail
      refine (same_at (less1 l k) _ _ rfl rfl A1 A2 c1 c2 hm8 _ (hr1.moved hb2) hr2).mono ?_
      rintro e w3 ⟨rfl, hb3⟩
      have hrow3 := ((hrow.moved hb1).moved hb2).moved hb3
      have hr3 := (hr1.moved hb2).moved hb3
      have HB3 := Lib.hid (bth HBW.out (bth hb1 (bth hb2 hb3)))
      clear hrow hr1 hr2 hb1 hb2 hb3 HBW hb
      have HX1 := Lib.hid (show cnt l l[k].area l[k].job l[k].sex = cnt (less1 l k) l[k].area l[k].job l[k].sex + 1 by rw [HX.out, if_pos (fit3_own _)])
      have HY1 := Lib.hid (show cnt l (-1) l[k].job (-1) = cnt (less1 l k) (-1) l[k].job (-1) + 1 by rw [HY.out, if_pos (fit3_job _)])
      have HM := Lib.hid (many_pos ha.out.1); have HM' := Lib.hid (many_pos ha'.out.1)
      have HJ := Lib.hid (many_pos ha.out.2); have HJ' := Lib.hid (many_pos ha'.out.2)
      clear HX HY ha ha' hok hok' HLEN
      generalize hpk : l[k] = p at *
      generalize less1 l k = m at *
      obtain ⟨b, o, rfl, hbo, f0, f1, f2, f3⟩ := hrow3.at_ k hkl
      rw [hpk] at f0 f1 f2 f3
      clear hpk
      go_wp2_with fail
      obtain ⟨W5, hW5⟩ : ∃ W5, W5 = w3.alloc (.cells #[.int .i64 p.area, .int .i64 p.job, .int .i64 p.sex, .int .i64 p.pay] TP) := ⟨_, rfl⟩
      rw [← hW5]
      have hb5 : Below w3.heap.size w3 W5 := by rw [hW5]; exact (Below.refl _ _).alloc (Nat.le_refl _) _
      have hQ := Lib.hid (show W5.heap[w3.heap.size]? = some (.cells #[.int .i64 p.area, .int .i64 p.job, .int .i64 p.sex, .int .i64 p.pay] TP (0, 0)) by rw [hW5]; exact heap_alloc_new w3 _)
      have hrow5 := hrow3.moved hb5
      have hr5 := hr3.moved hb5
      have HB5 := Lib.hid (bth HB3.out hb5)
      clear hW5 hb5 hrow3 hr3 HB3 f0 f1 f2 f3
      generalize w3.heap.size = Q at *
      have hQ5 : Q < W5.heap.size := (Array.getElem?_eq_some_iff.1 hQ.out).1
      have HF := Lib.hid (show ∀ w' : World, Below W5.heap.size W5 w' → (Below W5.heap.size W5 w' ∧ w'.cell? ⟨Q, 0, none⟩ = some (.int .i64 p.area) ∧ w'.cell? ⟨Q, 1, none⟩ = some (.int .i64 p.job) ∧ w'.cell? ⟨Q, 2, none⟩ = some (.int .i64 p.sex) ∧ w'.cell? ⟨Q, 3, none⟩ = some (.int .i64 p.pay)) from fun w' h =>
        ⟨h, (h.cell (p := ⟨Q, 0, none⟩) hQ5).trans (cell_of_row W5 Q 0 _ _ _ hQ.out), (h.cell (p := ⟨Q, 1, none⟩) hQ5).trans (cell_of_row W5 Q 1 _ _ _ hQ.out), (h.cell (p := ⟨Q, 2, none⟩) hQ5).trans (cell_of_row W5 Q 2 _ _ _ hQ.out), (h.cell (p := ⟨Q, 3, none⟩) hQ5).trans (cell_of_row W5 Q 3 _ _ _ hQ.out)⟩)
      obtain ⟨_, f0, f1, f2, f3⟩ := HF.out W5 (Below.refl _ _)
      go_wp2_with fail
      refine (many_at W5 l _ rfl (some ⟨b, o, none⟩) d p.area p.job p.sex hrow5 hlm _ (Below.refl _ _)).mono ?_
      rintro e w6 ⟨rfl, hb6⟩
      rw [HM.out]
      generalize cnt l p.area p.job p.sex = x at *
      generalize cnt m p.area p.job p.sex = y at *
      generalize cnt l (-1) p.job (-1) = u at *
      generalize cnt m (-1) p.job (-1) = v at *
      have hx1 : (1 : Int) ≤ x := by have := HX1.out; omega
      have hxy : x - 1 = y := by have := HX1.out; omega
      have hwy : IntKind.i64.wrap y = y := IntWalk.i64_in _ (by omega)
      have huv : u - 1 = v := by have := HY1.out; omega
      have hwv : IntKind.i64.wrap v = v := IntWalk.i64_in _ (by omega)
      clear hcb hcb' hjb hjb' i0 i1 hn2 hnc hn hbig hm8 HX1 HY1 HM hQ hQ5 f0 f1 f2 f3
      have hb0 := hb6.drew
      go_wp2_with fail
      go_region_held3 (fun w' => Below W5.heap.size W5 w' ∧ w'.cell? ⟨Q, 0, none⟩ = some (.int .i64 p.area) ∧ w'.cell? ⟨Q, 1, none⟩ = some (.int .i64 p.job) ∧ w'.cell? ⟨Q, 2, none⟩ = some (.int .i64 p.sex) ∧ w'.cell? ⟨Q, 3, none⟩ = some (.int .i64 p.pay))
        (first | exact HF.out _ (by assumption) | exact HF.out _ hb0)
        (first
          | (go_at_call 24
             refine (many_at W5 _ _ rfl _ _ _ _ _ (by first | exact hr5 | exact hrow5) (by first | exact hm9 | exact hlm) _ (by assumption)).mono ?_
             rintro e w7 ⟨rfl, hb7⟩
             first | rw [HM'.out] | rw [HJ'.out] | rw [HJ.out]))
      all_goals
        go_wp2
        go_ret
        exact ⟨rfl, bth HB5.out (by assumption)⟩
end Go.Proofs.Ytcfcimfhpbjjnaa
