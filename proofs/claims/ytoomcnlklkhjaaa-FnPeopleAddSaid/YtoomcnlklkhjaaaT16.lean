import Derived.Test.YtoomcnlklkhjaaaT15
namespace Go.Proofs.Ytoomcnlklkhjaaa
open Go.RowKit
theorem lit_row {w : World} {g Bd : Nat} {p : Pn} (h : w.heap[g]? = some (.cells #[.int .i64 p.area, .int .i64 p.job, .int .i64 p.sex, .int .i64 p.pay] TP (0, 0))) (hg : g < Bd) : Row w Bd (some ⟨g, 0, none⟩) (pcells [p]) := by
  right
  refine ⟨g, 0, rfl, hg, fun j u hu => ?_⟩
  rw [Nat.zero_add, cell_of_row w g j _ _ _ h, ← hu]
  simp [pcells, Pn.cells]
/-- What both appends together leave: the people and one more, in a world in which nothing older has turned. -/
def Added (W5 : World) (l : List Pn) (p : Pn) (v : Value) (w : World) : Prop := Below W5.heap.size W5 w ∧ Own w W5.heap.size v (l ++ [p])
theorem own_lit (W5 w : World) (p : Pn) (hb : Below W5.heap.size W5 w) : Own ((w.alloc (.cells #[.int .i64 p.area, .int .i64 p.job, .int .i64 p.sex, .int .i64 p.pay] TP)).alloc (.cells #[] TP)) W5.heap.size (.slice (some ⟨w.heap.size + 1, 0, none⟩) 0 0) [] := by
  have h := World.ownsRow_made (base := W5.heap.size) (e := TP) (size := 4) (w.alloc (.cells #[.int .i64 p.area, .int .i64 p.job, .int .i64 p.sex, .int .i64 p.pay] TP)) #[] 0 (by have := hb.size; simp; omega) (by simp [maxLen]) rfl
  have e : (w.alloc (.cells #[.int .i64 p.area, .int .i64 p.job, .int .i64 p.sex, .int .i64 p.pay] TP)).heap.size = w.heap.size + 1 := by simp
  rw [e] at h
  exact h
theorem heap_keep {w w' : World} {row : Option Nat} {g : Nat} {o : Obj} (h : w.heap[g]? = some o) (hg : w.grownBy w' row) (hne : some g ≠ row) : w'.heap[g]? = some o :=
  (hg.block g (Array.getElem?_eq_some_iff.1 h).1 hne).trans h
theorem cnt_snoc (l : List Pn) (p : Pn) (a j s : Int) : cnt (l ++ [p]) a j s = cnt l a j s + ind (fit3 p a j s) := by rw [cnt_app, cnt_cons]; simp [cnt]
theorem psum_snoc (l : List Pn) (p : Pn) (a j s : Int) : psum (l ++ [p]) a j s = psum l a j s + ind (fit3 p a j s) * p.pay := by rw [psum_app, psum_cons]; simp [psum]
set_option maxHeartbeats 4000000 in
theorem w_PeopleAdd (A : Option Addr) (n c : Nat) (hnc : n ≤ c) (hn : n ≤ maxLen) (A2 : Option Addr) (m c2 : Nat) (_hmc : m ≤ c2) (hm : m ≤ maxLen) (w : World) (hb : Bytes w w.heap.size A n) (_hb2 : Bytes w w.heap.size A2 m) :
    Calls Try.prog 11 #[.slice A n c, .slice A2 m c2] w fun e w' => e = .returned (.bool true) ∧ Below w.heap.size w w' := by
  have hn2 := hn
  have hm2 := hm
  unfold maxLen at hn2 hm2
  have hall : 1048576 < n ∨ (¬ 1048576 < n ∧ 1048576 < m) ∨ ¬ 1048576 < n ∧ ¬ 1048576 < m := by omega
  rcases hall with hbig | ⟨hbig, hbig2⟩ | ⟨hbig, hbig2⟩
  · go_enter Try.func11, Try.ntmps11
    go_wp2
    go_ret
    exact ⟨rfl, Below.refl _ _⟩
  · go_enter Try.func11, Try.ntmps11
    go_wp2
    go_ret
    exact ⟨rfl, Below.refl _ _⟩
  · go_enter Try.func11, Try.ntmps11
    go_wp2_with fail
    refine (drawMany_any A n c hnc hn _ hb).mono ?_
    rintro e W ⟨l, B, d, a, j, s, rfl, hrow, hl, hld, hd, hbd, a0, a1, j0, j1, s0, s1, hbW⟩
    have hlm : l.length ≤ maxLen := by omega
    have HBD := Lib.hid hbd; clear hbd
    have HBW := Lib.hid hbW; clear hbW
    go_wp2_with fail
    refine (many_at W l _ rfl B d a j s hrow hlm _ (Below.refl _ _)).mono ?_
    rintro e w1 ⟨rfl, h1⟩
    go_wp2_with fail
    refine (sMany_at W l _ rfl B d a j s hrow hlm _ h1).mono ?_
    rintro e w2 ⟨rfl, h2⟩
    clear h1
    cases hok : askOk l a j s
    · rw [many_neg hok]
      go_wp2
      go_ret
      exact ⟨rfl, HBW.out.trans (h2.mono HBW.out.size)⟩
    · rw [many_pos hok]
      have hcb := cnt_bd l a j s
      have hps := psum_bd l a j s (okL_all (askOk_okL hok)).2
      have HOK := Lib.hid hok; clear hok
      have hne : ((l.length : Int) == 40) = false := by rw [beq_eq_false_iff_ne]; omega
      obtain ⟨p, hp⟩ : ∃ p : Pn, p = ⟨(m : Int) % 4, (m : Int) / 4 % 4, (m : Int) / 16 % 2, 1 + (m : Int) % 900⟩ := ⟨_, rfl⟩
      have hpo : okP p = true := by rw [hp]; simp [okP, inC]; omega
      obtain ⟨e1, e2, e3, e4⟩ : (m : Int) % 4 = p.area ∧ (m : Int) / 4 % 4 = p.job ∧ (m : Int) / 16 % 2 = p.sex ∧ 1 + (m : Int) % 900 = p.pay := by rw [hp]; exact ⟨rfl, rfl, rfl, rfl⟩
      have hpp : 1 ≤ p.pay ∧ p.pay ≤ 900 := by omega
      have E1 := Lib.hid e1; have E2 := Lib.hid e2; have E3 := Lib.hid e3; have E4 := Lib.hid e4
      have HPO := Lib.hid hpo
      clear hp hpo e1 e2 e3 e4
      go_wp2_with fail
      rw [E1.out, E2.out, E3.out, E4.out]
      obtain ⟨W5, hW5⟩ : ∃ W5, W5 = w2.alloc (.cells #[.int .i64 p.area, .int .i64 p.job, .int .i64 p.sex, .int .i64 p.pay] TP) := ⟨_, rfl⟩
      rw [← hW5]
      have hb5 : Below W.heap.size W W5 := by rw [hW5]; exact h2.alloc h2.size _
      have hQ := Lib.hid (show W5.heap[w2.heap.size]? = some (.cells #[.int .i64 p.area, .int .i64 p.job, .int .i64 p.sex, .int .i64 p.pay] TP (0, 0)) by rw [hW5]; exact heap_alloc_new w2 _)
      have hrow5 : Row W5 W5.heap.size B (pcells l) := (hrow.below hb5 (Nat.le_refl _)).more hb5.size
      have HB5 := Lib.hid (HBW.out.trans (hb5.mono HBW.out.size))
      clear hW5 hb5 h2 hrow
      generalize w2.heap.size = Q at *
      have hQ5 : Q < W5.heap.size := (Array.getElem?_eq_some_iff.1 hQ.out).1
      have HF := Lib.hid (show ∀ w' : World, Below W5.heap.size W5 w' → (Below W5.heap.size W5 w' ∧ w'.cell? ⟨Q, 0, none⟩ = some (.int .i64 p.area) ∧ w'.cell? ⟨Q, 1, none⟩ = some (.int .i64 p.job) ∧ w'.cell? ⟨Q, 2, none⟩ = some (.int .i64 p.sex) ∧ w'.cell? ⟨Q, 3, none⟩ = some (.int .i64 p.pay)) from fun w' h =>
        ⟨h, (h.cell (p := ⟨Q, 0, none⟩) hQ5).trans (cell_of_row W5 Q 0 _ _ _ hQ.out), (h.cell (p := ⟨Q, 1, none⟩) hQ5).trans (cell_of_row W5 Q 1 _ _ _ hQ.out), (h.cell (p := ⟨Q, 2, none⟩) hQ5).trans (cell_of_row W5 Q 2 _ _ _ hQ.out), (h.cell (p := ⟨Q, 3, none⟩) hQ5).trans (cell_of_row W5 Q 3 _ _ _ hQ.out)⟩)
      have b0 : Below W5.heap.size W5 W5.drew := (Below.refl _ _).drew
      have bA : Below W5.heap.size W5 ((W5.alloc (.cells #[] TP)).drew) := ((Below.refl _ _).alloc (Nat.le_refl _) _).drew
      have bC : Below W5.heap.size W5 ((W5.alloc (.cells #[.int .i64 p.area, .int .i64 p.job, .int .i64 p.sex, .int .i64 p.pay] TP)).drew) := ((Below.refl _ _).alloc (Nat.le_refl _) _).drew
      have bAB : Below W5.heap.size W5 (((W5.alloc (.cells #[] TP)).alloc (.cells #[.int .i64 p.area, .int .i64 p.job, .int .i64 p.sex, .int .i64 p.pay] TP)).drew) := (((Below.refl _ _).alloc (Nat.le_refl _) _).alloc (by simp) _).drew
      have bCB : Below W5.heap.size W5 (((W5.alloc (.cells #[.int .i64 p.area, .int .i64 p.job, .int .i64 p.sex, .int .i64 p.pay] TP)).alloc (.cells #[] TP)).drew) := (((Below.refl _ _).alloc (Nat.le_refl _) _).alloc (by simp) _).drew
      have oA : Own ((W5.alloc (.cells #[] TP)).drew) W5.heap.size (.slice (some ⟨W5.heap.size, 0, none⟩) 0 0) [] := own_new W5 W5 (Below.refl _ _)
      have oAB : Own (((W5.alloc (.cells #[] TP)).alloc (.cells #[.int .i64 p.area, .int .i64 p.job, .int .i64 p.sex, .int .i64 p.pay] TP)).drew) W5.heap.size (.slice (some ⟨W5.heap.size, 0, none⟩) 0 0) [] := Own.alloc oA _
      have oCB : Own (((W5.alloc (.cells #[.int .i64 p.area, .int .i64 p.job, .int .i64 p.sex, .int .i64 p.pay] TP)).alloc (.cells #[] TP)).drew) W5.heap.size (.slice (some ⟨W5.heap.size + 1, 0, none⟩) 0 0) [] := own_lit W5 W5 p (Below.refl _ _)
      have lAB := Lib.hid (show (((W5.alloc (.cells #[] TP)).alloc (.cells #[.int .i64 p.area, .int .i64 p.job, .int .i64 p.sex, .int .i64 p.pay] TP)).drew).heap[W5.heap.size + 1]? = some (.cells #[.int .i64 p.area, .int .i64 p.job, .int .i64 p.sex, .int .i64 p.pay] TP (0, 0)) from heap_alloc2_new W5 _ _)
      have lCB := Lib.hid (show (((W5.alloc (.cells #[.int .i64 p.area, .int .i64 p.job, .int .i64 p.sex, .int .i64 p.pay] TP)).alloc (.cells #[] TP)).drew).heap[W5.heap.size]? = some (.cells #[.int .i64 p.area, .int .i64 p.job, .int .i64 p.sex, .int .i64 p.pay] TP (0, 0)) from heap_alloc2_old W5 _ _)
      go_region_held3 (fun w' => Below W5.heap.size W5 w' ∧ w'.cell? ⟨Q, 0, none⟩ = some (.int .i64 p.area) ∧ w'.cell? ⟨Q, 1, none⟩ = some (.int .i64 p.job) ∧ w'.cell? ⟨Q, 2, none⟩ = some (.int .i64 p.sex) ∧ w'.cell? ⟨Q, 3, none⟩ = some (.int .i64 p.pay))
        (first | exact HF.out _ (by assumption) | exact HF.out _ b0 | exact HF.out _ bA | exact HF.out _ bC | exact HF.out _ bAB | exact HF.out _ bCB | exact HF.out _ (Below.alloc (by assumption) (Below.size (by assumption)) _))
        (first
          | (refine step_people rfl (.tmp 73) (.tmp 74) rfl W5.heap.size (.slice (some ⟨W5.heap.size, 0, none⟩) 0 0) [] rfl oA W5.heap.size B l.length d l rfl rfl (hrow5.below bA (Nat.le_refl _)) (by simp; omega) bA.size ?_
             intro v3 w3 ho3 hg3
             have hb3 : Below W5.heap.size W5 w3 := below_own bA oA hg3
             obtain ⟨A3, c3, rfl, hc3, hc3', hr3, hA3⟩ := ho3.form)
          | (refine step_people rfl (.tmp 73) (.tmp 74) rfl W5.heap.size (.slice (some ⟨W5.heap.size, 0, none⟩) 0 0) [] rfl oAB W5.heap.size B l.length d l rfl rfl (hrow5.below bAB (Nat.le_refl _)) (by simp; omega) bAB.size ?_
             intro v3 w3 ho3 hg3
             have hb3 : Below W5.heap.size W5 w3 := below_own bAB oAB hg3
             have hlit := lit_row (Bd := W5.heap.size + 2) (heap_keep lAB.out hg3 (by simp [Value.ownBlock])) (by omega)
             obtain ⟨A3, c3, rfl, hc3, hc3', hr3, hA3⟩ := ho3.form)
          | (refine step_people rfl (.tmp 73) (.tmp 74) rfl W5.heap.size (.slice (some ⟨W5.heap.size + 1, 0, none⟩) 0 0) [] rfl oCB W5.heap.size B l.length d l rfl rfl (hrow5.below bCB (Nat.le_refl _)) (by simp; omega) bCB.size ?_
             intro v3 w3 ho3 hg3
             have hb3 : Below W5.heap.size W5 w3 := below_own bCB oCB hg3
             have hlit := lit_row (Bd := W5.heap.size + 2) (heap_keep lCB.out hg3 (by simp [Value.ownBlock])) (by omega)
             obtain ⟨A3, c3, rfl, hc3, hc3', hr3, hA3⟩ := ho3.form)
          | (refine step_people rfl (.tmp 75) (.tmp 77) rfl W5.heap.size (.slice A3 ([] ++ l).length c3) ([] ++ l) (by simp [Act.eval]) (ho3.alloc _) (w3.heap.size + 1) (some ⟨w3.heap.size, 0, none⟩) 1 1 [p] rfl rfl (lit_row (heap_alloc_new w3 _) (by omega)) (by simp; omega) (by have := hb3.size; simp; omega) ?_
             intro v4 w4 ho4 hg4
             have hb4 : Below W5.heap.size W5 w4 := below_own (hb3.alloc hb3.size _) (ho3.alloc _) hg4
             obtain ⟨A4, c4, rfl, hc4, hc4', hr4, hA4⟩ := ho4.form)
          | (refine step_people rfl (.tmp 75) (.tmp 77) rfl W5.heap.size (.slice A3 ([] ++ l).length c3) ([] ++ l) (by simp [Act.eval]) ho3 (W5.heap.size + 2) (some ⟨W5.heap.size + 1, 0, none⟩) 1 1 [p] rfl rfl hlit (by simp; omega) hb3.size ?_
             intro v4 w4 ho4 hg4
             have hb4 : Below W5.heap.size W5 w4 := below_own hb3 ho3 hg4
             obtain ⟨A4, c4, rfl, hc4, hc4', hr4, hA4⟩ := ho4.form)
          | (refine step_people rfl (.tmp 75) (.tmp 77) rfl W5.heap.size (.slice A3 ([] ++ l).length c3) ([] ++ l) (by simp [Act.eval]) ho3 (W5.heap.size + 2) (some ⟨W5.heap.size, 0, none⟩) 1 1 [p] rfl rfl hlit (by simp; omega) hb3.size ?_
             intro v4 w4 ho4 hg4
             have hb4 : Below W5.heap.size W5 w4 := below_own hb3 ho3 hg4
             obtain ⟨A4, c4, rfl, hc4, hc4', hr4, hA4⟩ := ho4.form))
      all_goals
        have h3 := askOk_a3 HOK.out
        have hL := askOk_okL HOK.out
        have hL1 : okL [p] = true := by simp [okL, HPO.out]
        have HY := Lib.hid (askOk_app hL hL1 h3 (by simp; omega) : askOk (l ++ [p]) a j s = true)
        have HP := Lib.hid (pay_pos HOK.out)
        have r4 : Row w4 w4.heap.size A4 (pcells (l ++ [p])) := by simpa using hr4
        have ml : (l ++ [p]).length ≤ maxLen := by simp only [maxLen]; simp; omega
        clear h3 hL hL1 hr4 b0 bA bC bAB bCB oA oAB oCB lAB lCB
        go_wp2_with fail
        refine (many_at w4 (l ++ [p]) _ (by simp) A4 c4 a j s r4 ml _ (Below.refl _ _)).mono ?_
        rintro e w5 ⟨rfl, h5⟩
        rw [many_pos HY.out, cnt_snoc]
        cases hf : fit3 p a j s
        · have hi : ind false = 0 := rfl
          rw [hi]; clear hi
          go_wp2_with fail
          refine (pay_at w4 (l ++ [p]) _ (by simp) A4 c4 a j s r4 ml _ h5).mono ?_
          rintro e w6 ⟨rfl, h6⟩
          rw [pay_pos HY.out, psum_snoc, hf, show ind false = 0 from rfl]
          go_wp2_with fail
          refine (pay_at W5 l _ rfl B d a j s hrow5 hlm _ (hb4.trans (h6.mono hb4.size))).mono ?_
          rintro e w7 ⟨rfl, h7⟩
          rw [HP.out]
          clear hf
          simp only [Int.add_zero, Int.zero_mul]
          go_wp2
          go_ret
          exact ⟨retb (by simp), HB5.out.trans (h7.mono HB5.out.size)⟩
        · have hi : ind true = 1 := rfl
          rw [hi]; clear hi
          go_wp2_with fail
          refine (pay_at w4 (l ++ [p]) _ (by simp) A4 c4 a j s r4 ml _ h5).mono ?_
          rintro e w6 ⟨rfl, h6⟩
          rw [pay_pos HY.out, psum_snoc, hf, show ind true = 1 from rfl]
          go_wp2_with fail
          refine (pay_at W5 l _ rfl B d a j s hrow5 hlm _ (hb4.trans (h6.mono hb4.size))).mono ?_
          rintro e w7 ⟨rfl, h7⟩
          rw [HP.out]
          clear hf
          obtain ⟨_, c0, c1, c2, c3⟩ := HF.out w7 h7
          simp only [Int.one_mul]
          go_wp2
          go_ret
          exact ⟨retb (by simp; try omega), HB5.out.trans (h7.mono HB5.out.size)⟩

end Go.Proofs.Ytoomcnlklkhjaaa
