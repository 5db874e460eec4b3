/- Laws of chapter 3 that ask one number. -/
import Derived.Test.YtbbgakbobefplaaGC
import Derived.Test.YtbbgakbobefplaaGM
import Derived.Test.YtbbgakbobefplaaG13
import Derived.Test.YtbbgakbobefplaaAP
namespace Go.Proofs.Ytbbgakbobefplaa
open Go.RowKit
set_option maxHeartbeats 2000000 in
theorem w_GroupSizeFiner (A : Option Addr) (n c : Nat) (hnc : n ≤ c) (hn : n ≤ maxLen) (w : World) (hb : Bytes w w.heap.size A n) :
    Calls Try.prog 8 #[.slice A n c] w fun e w' => e = .returned (.bool true) ∧ Below w.heap.size w w' := by
  have hn2 := hn
  unfold maxLen at hn2
  rcases (show 1048576 < n ∨ ¬ 1048576 < n by omega) with hbig | hbig
  · go_enter Try.func8, Try.ntmps8
    go_wp2
    go_ret
    exact ⟨rfl, Below.refl _ _⟩
  · go_enter Try.func8, Try.ntmps8
    go_wp2_with fail
    refine (dGroupSize_any A n c hnc hn _ hb).mono ?_
    rintro e W ⟨l, v, ll, u, r, k, rfl, hv, hu, hl, hll, _, _, _, _, hbW⟩
    obtain ⟨W1, hW⟩ : ∃ W1, W1 = W.alloc (.cells #[.int .i64 r.area, .int .i64 r.job, .int .i64 r.sex] TRc) := ⟨_, rfl⟩
    have hb1 : Below W.heap.size W W1 := by rw [hW]; exact (Below.refl _ _).alloc (Nat.le_refl _) _
    have hzW : W.heap.size < W1.heap.size := by rw [hW]; simp
    have e0 : W1.cell? ⟨W.heap.size, 0, none⟩ = some (.int .i64 r.area) := by rw [hW]; simp [go_sem]
    have e1 : W1.cell? ⟨W.heap.size, 1, none⟩ = some (.int .i64 r.job) := by rw [hW]; simp [go_sem]
    have e2 : W1.cell? ⟨W.heap.size, 2, none⟩ = some (.int .i64 r.sex) := by rw [hW]; simp [go_sem]
    have HC := Lib.hid (show ∀ w', Below W1.heap.size W1 w' → w'.cell? ⟨W.heap.size, 0, none⟩ = some (.int .i64 r.area) ∧ w'.cell? ⟨W.heap.size, 1, none⟩ = some (.int .i64 r.job) ∧ w'.cell? ⟨W.heap.size, 2, none⟩ = some (.int .i64 r.sex) from
      fun w' h => ⟨(h.cell (p := ⟨W.heap.size, 0, none⟩) hzW).trans e0, (h.cell (p := ⟨W.heap.size, 1, none⟩) hzW).trans e1, (h.cell (p := ⟨W.heap.size, 2, none⟩) hzW).trans e2⟩)
    have HV := Lib.hid (hv.below hb1)
    have HU := Lib.hid (hu.below hb1)
    have HB := Lib.hid (hbW.trans (hb1.mono hbW.size))
    have b0 := Below.refl W1.heap.size W1
    clear e0 e1 e2 hv hu hbW hb hb1
    rcases (show gsize l ll r k < 0 ∨ 0 ≤ gsize l ll r k by omega) with hneg | hg0
    · have HG := Lib.hid (gsize_no hneg)
      clear hneg
      go_wp2_with fail
      rw [← hW]
      clear hW
      refine (iGSize_is W1 l _ HV.out ll _ HU.out r _ (-1) HG.out _ b0).mono ?_
      rintro e w1 ⟨rfl, b1⟩
      obtain ⟨c0, c1, c2⟩ := HC.out _ b1
      go_wp2_with fail
      refine (sGSize_is W1 l _ HV.out ll _ HU.out r _ (-1) HG.out _ b1).mono ?_
      rintro e w2 ⟨rfl, b2⟩
      go_wp2
      go_ret
      exact ⟨by first | rfl | exact retb (by simp) | exact retb (by simp; omega), HB.out.trans (b2.mono HB.out.size)⟩
    · obtain ⟨g, hg⟩ : ∃ g, gsize l ll r k = g := ⟨_, rfl⟩
      obtain ⟨t, b, ht, hb', f1, f2, f3⟩ := m_sizeFiner hg0
      rw [hg] at f1 f2 hg0
      have HG := Lib.hid hg; have HT := Lib.hid ht; have HL := Lib.hid hb'
      clear hg ht hb'
      obtain ⟨Au, cu, hu2, _, _, _⟩ := HU.out
      subst hu2
      go_wp2_with fail
      rw [← hW]
      clear hW
      refine (iGSize_is W1 l _ HV.out ll _ HU.out r _ _ HG.out _ b0).mono ?_
      rintro e w1 ⟨rfl, b1⟩
      obtain ⟨c0, c1, c2⟩ := HC.out _ b1
      go_wp2_with fail
      refine (sGSize_is W1 l _ HV.out ll _ HU.out r _ _ HG.out _ b1).mono ?_
      rintro e w2 ⟨rfl, b2⟩
      clear c0 c1 c2
      obtain ⟨c0, c1, c2⟩ := HC.out _ b2
      go_wp2_with fail
      refine (iGSize_is W1 l _ HV.out ll _ HU.out (rtop ll) k t HT.out _ b2).mono ?_
      rintro e w3 ⟨rfl, b3⟩
      go_wp2_with fail
      refine (iGSize_is W1 l _ HV.out ll _ HU.out rlow k b HL.out _ b3).mono ?_
      rintro e w4 ⟨rfl, b4⟩
      go_wp2
      go_ret
      exact ⟨by first | rfl | exact retb (by simp) | exact retb (by simp; omega), HB.out.trans (b4.mono HB.out.size)⟩
def fnd (l : List Pn) (ll : List (List Int)) (r : Rc) (g : Nat) (j : Nat) : Bool := decide (l.length = 0) || (List.range j).any fun i => decide (cnk l ll r i = g)
theorem fnd_succ (l : List Pn) (ll : List (List Int)) (r : Rc) (g j : Nat) : fnd l ll r g (j + 1) = (fnd l ll r g j || decide (cnk l ll r j = g)) := by
  unfold fnd; rw [List.range_succ, List.any_append]; simp [Bool.or_assoc]
theorem fnd_all (l : List Pn) (ll : List (List Int)) (r : Rc) : fnd l ll r (least1 (keysOf l ll r)) l.length = true := by
  unfold fnd
  by_cases h : l = []
  · subst h; rfl
  · obtain ⟨k, hk, he⟩ := least_is (ll := ll) (r := r) h
    rw [Bool.or_eq_true]; right
    exact List.any_eq_true.2 ⟨k, by simpa using hk, by simpa using he⟩
set_option maxHeartbeats 2000000 in
theorem w_GroupLeast (A : Option Addr) (n c : Nat) (hnc : n ≤ c) (hn : n ≤ maxLen) (w : World) (hb : Bytes w w.heap.size A n) :
    Calls Try.prog 11 #[.slice A n c] w fun e w' => e = .returned (.bool true) ∧ Below w.heap.size w w' := by
  have hn2 := hn
  unfold maxLen at hn2
  rcases (show 1048576 < n ∨ ¬ 1048576 < n by omega) with hbig | hbig
  · go_enter Try.func11, Try.ntmps11
    go_wp2
    go_ret
    exact ⟨rfl, Below.refl _ _⟩
  · go_enter Try.func11, Try.ntmps11
    go_wp2_with fail
    refine ((dGroupLeast_any A n c hnc hn _ hb).mono fun _ _ h => h.byW).mono ?_
    rintro e W ⟨l, v, ll, u, r, rfl, hv, hu, hl, hll, _, _, hbW⟩
    obtain ⟨W1, hW⟩ : ∃ W1, W1 = W.alloc (.cells #[.int .i64 r.area, .int .i64 r.job, .int .i64 r.sex] TRc) := ⟨_, rfl⟩
    have hb1 : Below W.heap.size W W1 := by rw [hW]; exact (Below.refl _ _).alloc (Nat.le_refl _) _
    have hzW : W.heap.size < W1.heap.size := by rw [hW]; simp
    have e0 : W1.cell? ⟨W.heap.size, 0, none⟩ = some (.int .i64 r.area) := by rw [hW]; simp [go_sem]
    have e1 : W1.cell? ⟨W.heap.size, 1, none⟩ = some (.int .i64 r.job) := by rw [hW]; simp [go_sem]
    have e2 : W1.cell? ⟨W.heap.size, 2, none⟩ = some (.int .i64 r.sex) := by rw [hW]; simp [go_sem]
    have HC := Lib.hid (show ∀ w', Below W1.heap.size W1 w' → w'.cell? ⟨W.heap.size, 0, none⟩ = some (.int .i64 r.area) ∧ w'.cell? ⟨W.heap.size, 1, none⟩ = some (.int .i64 r.job) ∧ w'.cell? ⟨W.heap.size, 2, none⟩ = some (.int .i64 r.sex) from
      fun w' h => ⟨(h.cell (p := ⟨W.heap.size, 0, none⟩) hzW).trans e0, (h.cell (p := ⟨W.heap.size, 1, none⟩) hzW).trans e1, (h.cell (p := ⟨W.heap.size, 2, none⟩) hzW).trans e2⟩)
    have HV := Lib.hid (hv.below hb1)
    have HU := Lib.hid (hu.below hb1)
    have HB := Lib.hid (hbW.trans (hb1.mono hbW.size))
    have b0 := Below.refl W1.heap.size W1
    clear e0 e1 e2 hv hu hbW hb hb1
    rcases (show gleast l ll r < 0 ∨ 0 ≤ gleast l ll r by omega) with hneg | hg0
    · have HG := Lib.hid (gleast_no hneg)
      clear hneg
      go_wp2_with fail
      rw [← hW]
      clear hW
      refine (iGLeast_is W1 l _ HV.out ll _ HU.out r (-1) HG.out _ b0).mono ?_
      rintro e w1 ⟨rfl, b1⟩
      obtain ⟨c0, c1, c2⟩ := HC.out _ b1
      go_wp2_with fail
      refine (sGLeast_is W1 l _ HV.out ll _ HU.out r (-1) HG.out _ b1).mono ?_
      rintro e w2 ⟨rfl, b2⟩
      go_wp2
      go_ret
      exact ⟨by first | rfl | exact retb (by simp) | exact retb (by simp; omega), HB.out.trans (b2.mono HB.out.size)⟩
    · obtain ⟨g, hg⟩ : ∃ g, gleast l ll r = g := ⟨_, rfl⟩
      have hok := gleast_in hg0
      obtain ⟨G, hG⟩ : ∃ G, least1 (keysOf l ll r) = G := ⟨_, rfl⟩
      have hgG : g = (G : Int) := by rw [← hg, gleast_at hok, hG]
      obtain ⟨T, hT⟩ : ∃ T, least1 (keysOf l ll (rtop ll)) = T := ⟨_, rfl⟩
      have hle : G ≤ T := by rw [← hG, ← hT]; exact least_top hok
      subst hgG
      have HT := Lib.hid (show gleast l ll (rtop ll) = (T : Int) by rw [gleast_at (gr_top hok), hT])
      have HFA := Lib.hid (show fnd l ll r G l.length = true by rw [← hG]; exact fnd_all l ll r)
      have HG := Lib.hid hg; have HOK := Lib.hid hok
      have HGL := Lib.hid hG
      have hF0 : fnd l ll r G 0 = decide (l.length = 0) := by simp [fnd]
      have hz0 : l.length = 0 → G = 0 := fun h => by rw [← hG, List.eq_nil_of_length_eq_zero h]; rfl
      have HF0 := Lib.hid hF0; have HZ0 := Lib.hid hz0
      clear hg hok hG hT hF0 hz0
      obtain ⟨Au, cu, hu2, _, _, _⟩ := HU.out
      subst hu2
      obtain ⟨Av, cv, hv2, _, _, _⟩ := HV.out
      subst hv2
      obtain ⟨q, hq⟩ : ∃ q, l.length = q := ⟨_, rfl⟩
      rw [hq] at HV HFA HF0 HZ0 hl ⊢
      have HQ := Lib.hid hq
      clear hq
      go_wp2_with fail
      rw [← hW]
      clear hW
      refine (iGLeast_is W1 l _ HV.out ll _ HU.out r _ HG.out _ b0).mono ?_
      rintro e w1 ⟨rfl, b1⟩
      obtain ⟨c0, c1, c2⟩ := HC.out _ b1
      go_wp2_with fail
      refine (sGLeast_is W1 l _ HV.out ll _ HU.out r _ HG.out _ b1).mono ?_
      rintro e w2 ⟨rfl, b2⟩
      clear c0 c1 c2
      obtain ⟨c0, c1, c2⟩ := HC.out _ b2
      clear c0 c1 c2
      have H2 := Lib.hid b2
      by_cases hq0 : q = 0
      · subst hq0
        have hG0 : ((G : Int) == 0) = true := by rw [beq_iff_eq]; have := HZ0.out rfl; omega
        go_wp2
        go_loopw [8, 9] (fun f i wr => i = .int .i64 0 ∧ f = .bool true ∧ Below W1.heap.size W1 wr) (fun _ _ _ => 0)
        case atStart => exact ⟨rfl, rfl, H2.out⟩
        case round =>
          obtain ⟨rfl, rfl, hb⟩ := hrel
          go_wp2_with fail
          refine (iGLeast_is W1 l _ HV.out ll _ HU.out (rtop ll) T HT.out _ hb).mono ?_
          rintro e w3 ⟨rfl, b3⟩
          have hTG : (G : Int) ≤ (T : Int) := by omega
          go_wp2
          go_ret
          exact ⟨by first | rfl | exact retb (by simp) | exact retb (by simp; omega), HB.out.trans (b3.mono HB.out.size)⟩
      · have hqb : ((q : Int) == 0) = false := by rw [beq_eq_false_iff_ne]; omega
        go_wp2
        go_loopw [8, 9] (fun f i wr => ∃ j : Nat, j ≤ q ∧ i = .int .i64 j ∧ f = .bool (fnd l ll r G j) ∧ Below W1.heap.size W1 wr) (fun _ i _ => q - (intOf i).toNat)
        case atStart => exact ⟨0, Nat.zero_le _, rfl, by rw [HF0.out]; first | (simp at hq0; simp [hq0]) | (simp at hqb; simp [hqb]), H2.out⟩
        case round =>
          obtain ⟨j, hj, rfl, rfl, hb⟩ := hrel
          by_cases hlt : j < q
          · have hji : (j : Int) < (q : Int) := by omega
            have hjl : j < l.length := by rw [HQ.out]; exact hlt
            have HS := Lib.hid (gsize_at HOK.out hjl)
            have hge : G ≤ cnk l ll r j := by rw [← HGL.out]; exact least_le hjl
            have HN := Lib.hid (fnd_succ l ll r G j)
            obtain ⟨s, hs⟩ : ∃ s, cnk l ll r j = s := ⟨_, rfl⟩
            rw [hs] at HS hge HN
            obtain ⟨f, hf⟩ : ∃ f, fnd l ll r G j = f := ⟨_, rfl⟩
            rw [hf] at HN ⊢
            clear hs hf hjl
            obtain ⟨c0, c1, c2⟩ := HC.out _ hb
            go_wp2_with fail
            refine (iGSize_is W1 l _ HV.out ll _ HU.out r j s HS.out _ hb).mono ?_
            rintro e w3 ⟨rfl, b3⟩
            have hge' : ¬ (s : Int) < (G : Int) := by omega
            cases f
            · by_cases hsg : s = G
              · have hb1 : ((s : Int) == (G : Int)) = true := by rw [beq_iff_eq]; omega
                clear c0 c1 c2
                go_wp2
                go_roundw
                case rel => exact ⟨j + 1, by omega, by go_num, by rw [HN.out]; simp [hsg], b3⟩
                case measure => simp [intOf]; omega
              · have hb1 : ((s : Int) == (G : Int)) = false := by rw [beq_eq_false_iff_ne]; omega
                clear c0 c1 c2
                go_wp2
                go_roundw
                case rel => exact ⟨j + 1, by omega, by go_num, by rw [HN.out]; simp [hsg], b3⟩
                case measure => simp [intOf]; omega
            · clear c0 c1 c2
              go_wp2
              go_roundw
              case rel => exact ⟨j + 1, by omega, by go_num, by rw [HN.out]; simp, b3⟩
              case measure => simp [intOf]; omega
          · have hjq : j = q := by omega
            have hji : ¬ (j : Int) < (q : Int) := by omega
            have hfa : fnd l ll r G j = true := by rw [hjq]; exact HFA.out
            rw [hfa]
            clear hfa
            go_wp2_with fail
            refine (iGLeast_is W1 l _ HV.out ll _ HU.out (rtop ll) T HT.out _ hb).mono ?_
            rintro e w3 ⟨rfl, b3⟩
            have hTG : (G : Int) ≤ (T : Int) := by omega
            go_wp2
            go_ret
            exact ⟨by first | rfl | exact retb (by simp) | exact retb (by simp; omega), HB.out.trans (b3.mono HB.out.size)⟩
theorem cnk_add {l : List Pn} {ll : List (List Int)} {r : Rc} {k : Nat} (hk : k < l.length) (p : Pn) : cnk (l ++ [p]) ll r k = cnk l ll r k + if key (rec1 ll r p) = ky ll r l k then 1 else 0 := by
  unfold cnk
  have e : ky ll r (l ++ [p]) k = ky ll r l k := by unfold ky; rw [List.getD_eq_getElem?_getD, List.getElem?_append_left hk, List.getD_eq_getElem?_getD]
  rw [e, keysOf_app, cn_app]
  congr 1
  simp [keysOf, keys, recL, cn_cons, cn_nil]
theorem m_sizeAdd {l : List Pn} {ll : List (List Int)} {r : Rc} (hok : grOk l ll r = true) {k : Nat} (hk : k < l.length) (h39 : l.length < 40) : gsize (l ++ [l[k]]) ll r k = gsize l ll r k + 1 := by
  have h1 := (gr_parts.1 hok).1
  have h2 : grOk (l ++ [l[k]]) ll r = true := gr_app hok (fun p hp => by rw [List.mem_singleton.1 hp]; exact okL_mem h1 _ (List.getElem_mem hk)) (by simp; omega)
  rw [gsize_at hok hk, gsize_at h2 (by simp; omega), cnk_add hk]
  have e : key (rec1 ll r l[k]) = ky ll r l k := by unfold ky; rw [List.getD_eq_getElem?_getD, List.getElem?_eq_getElem hk]; rfl
  rw [if_pos e]; omega
set_option maxHeartbeats 4000000 in
theorem w_GroupSizeAdd (A : Option Addr) (n c : Nat) (hnc : n ≤ c) (hn : n ≤ maxLen) (w : World) (hb : Bytes w w.heap.size A n) :
    Calls Try.prog 9 #[.slice A n c] w fun e w' => e = .returned (.bool true) ∧ Below w.heap.size w w' := by
  have hn2 := hn
  unfold maxLen at hn2
  rcases (show 1048576 < n ∨ ¬ 1048576 < n by omega) with hbig | hbig
  · go_enter Try.func9, Try.ntmps9
    go_wp2
    go_ret
    exact ⟨rfl, Below.refl _ _⟩
  · go_enter Try.func9, Try.ntmps9
    go_wp2_with fail
    refine (dGroupSize_any A n c hnc hn _ hb).mono ?_
    rintro e W ⟨l, v, ll, u, r, k, rfl, hv, hu, hl, hll, _, _, _, _, hbW⟩
    obtain ⟨W1, hW⟩ : ∃ W1, W1 = W.alloc (.cells #[.int .i64 r.area, .int .i64 r.job, .int .i64 r.sex] TRc) := ⟨_, rfl⟩
    have hb1 : Below W.heap.size W W1 := by rw [hW]; exact (Below.refl _ _).alloc (Nat.le_refl _) _
    have hzW : W.heap.size < W1.heap.size := by rw [hW]; simp
    have e0 : W1.cell? ⟨W.heap.size, 0, none⟩ = some (.int .i64 r.area) := by rw [hW]; simp [go_sem]
    have e1 : W1.cell? ⟨W.heap.size, 1, none⟩ = some (.int .i64 r.job) := by rw [hW]; simp [go_sem]
    have e2 : W1.cell? ⟨W.heap.size, 2, none⟩ = some (.int .i64 r.sex) := by rw [hW]; simp [go_sem]
    have HC := Lib.hid (show ∀ w', Below W1.heap.size W1 w' → w'.cell? ⟨W.heap.size, 0, none⟩ = some (.int .i64 r.area) ∧ w'.cell? ⟨W.heap.size, 1, none⟩ = some (.int .i64 r.job) ∧ w'.cell? ⟨W.heap.size, 2, none⟩ = some (.int .i64 r.sex) from
      fun w' h => ⟨(h.cell (p := ⟨W.heap.size, 0, none⟩) hzW).trans e0, (h.cell (p := ⟨W.heap.size, 1, none⟩) hzW).trans e1, (h.cell (p := ⟨W.heap.size, 2, none⟩) hzW).trans e2⟩)
    have HV := Lib.hid (hv.below hb1)
    have HU := Lib.hid (hu.below hb1)
    have HB := Lib.hid (hbW.trans (hb1.mono hbW.size))
    have b0 := Below.refl W1.heap.size W1
    clear e0 e1 e2 hv hu hbW hb hb1
    rcases (show gsize l ll r k < 0 ∨ 0 ≤ gsize l ll r k by omega) with hneg | hg0
    · have HG := Lib.hid (gsize_no hneg)
      clear hneg
      go_wp2_with fail
      rw [← hW]
      clear hW
      refine (iGSize_is W1 l _ HV.out ll _ HU.out r _ (-1) HG.out _ b0).mono ?_
      rintro e w1 ⟨rfl, b1⟩
      obtain ⟨c0, c1, c2⟩ := HC.out _ b1
      go_wp2_with fail
      refine (sGSize_is W1 l _ HV.out ll _ HU.out r _ (-1) HG.out _ b1).mono ?_
      rintro e w2 ⟨rfl, b2⟩
      go_wp2
      go_ret
      exact ⟨by first | rfl | exact retb (by simp) | exact retb (by simp; omega), HB.out.trans (b2.mono HB.out.size)⟩
    · obtain ⟨g, hg⟩ : ∃ g, gsize l ll r k = g := ⟨_, rfl⟩
      obtain ⟨hok, j, hkj, hj⟩ := gsize_in hg0
      subst hkj
      have h40 : l.length ≤ 40 := by omega
      have hS := m_sizeAdd hok hj (by omega)
      rw [hg] at hS hg0
      have hgl : g ≤ 40 := by rw [← hg, gsize_at hok hj]; have := cnk_le l ll r j; omega
      have HS := Lib.hid hS; have HG := Lib.hid hg
      clear hg hS
      obtain ⟨Al, d, hv2, hd1, hd2, hrow1⟩ := HV.out
      subst hv2
      have hlb : ((l.length : Int) == 40) = false := by rw [beq_eq_false_iff_ne]; omega
      go_wp2_with fail
      rw [← hW]
      clear hW
      refine (iGSize_is W1 l _ HV.out ll _ HU.out r _ _ HG.out _ b0).mono ?_
      rintro e w1 ⟨rfl, b1⟩
      obtain ⟨c0, c1, c2⟩ := HC.out _ b1
      go_wp2_with fail
      refine (sGSize_is W1 l _ HV.out ll _ HU.out r _ _ HG.out _ b1).mono ?_
      rintro e w2 ⟨rfl, b2⟩
      clear c0 c1 c2
      obtain ⟨c0, c1, c2⟩ := HC.out _ b2
      have hrow5 : Row w2 w2.heap.size Al (pcells l) := hrow1.below b2 (Nat.le_refl _) |>.more b2.size
      obtain ⟨bl, ol, hAl, hbl, q0, q1, q2, q3⟩ := hrow5.at_ j hj
      subst hAl
      have hzx : W.heap.size < w2.heap.size := by have := b2.size; omega
      obtain ⟨p, hp⟩ : ∃ p, l[j] = p := ⟨_, rfl⟩
      rw [hp] at q0 q1 q2 q3
      have HS2 := Lib.hid (show gsize (l ++ [p]) ll r j = g + 1 by rw [← hp]; exact HS.out)
      have hji : (j : Int) < (l.length : Int) := by omega
      clear HS hp
      have HF := Lib.hid (show ∀ w' : World, Below w2.heap.size w2 w' → (Below w2.heap.size w2 w' ∧ w'.cell? ⟨bl, ol + j * 4, none⟩ = some (.int .i64 p.area) ∧ w'.cell? ⟨bl, ol + j * 4 + 1, none⟩ = some (.int .i64 p.job) ∧ w'.cell? ⟨bl, ol + j * 4 + 2, none⟩ = some (.int .i64 p.sex) ∧ w'.cell? ⟨bl, ol + j * 4 + 3, none⟩ = some (.int .i64 p.pay) ∧ w'.cell? ⟨W.heap.size, 0, none⟩ = some (.int .i64 r.area) ∧ w'.cell? ⟨W.heap.size, 1, none⟩ = some (.int .i64 r.job) ∧ w'.cell? ⟨W.heap.size, 2, none⟩ = some (.int .i64 r.sex)) from fun w' h => ⟨h, (h.cell (p := ⟨bl, ol + j * 4, none⟩) hbl).trans q0, (h.cell (p := ⟨bl, ol + j * 4 + 1, none⟩) hbl).trans q1, (h.cell (p := ⟨bl, ol + j * 4 + 2, none⟩) hbl).trans q2, (h.cell (p := ⟨bl, ol + j * 4 + 3, none⟩) hbl).trans q3, (h.cell (p := ⟨W.heap.size, 0, none⟩) hzx).trans c0, (h.cell (p := ⟨W.heap.size, 1, none⟩) hzx).trans c1, (h.cell (p := ⟨W.heap.size, 2, none⟩) hzx).trans c2⟩)
      have b0 : Below w2.heap.size w2 w2.drew := (Below.refl _ _).drew
      have bA : Below w2.heap.size w2 ((w2.alloc (.cells #[] TP)).drew) := ((Below.refl _ _).alloc (Nat.le_refl _) _).drew
      have bC : Below w2.heap.size w2 ((w2.alloc (lit1 p)).drew) := ((Below.refl _ _).alloc (Nat.le_refl _) _).drew
      have bAB : Below w2.heap.size w2 (((w2.alloc (.cells #[] TP)).alloc (lit1 p)).drew) := (((Below.refl _ _).alloc (Nat.le_refl _) _).alloc (by simp) _).drew
      have bCB : Below w2.heap.size w2 (((w2.alloc (lit1 p)).alloc (.cells #[] TP)).drew) := (((Below.refl _ _).alloc (Nat.le_refl _) _).alloc (by simp) _).drew
      have oA : Own ((w2.alloc (.cells #[] TP)).drew) w2.heap.size (.slice (some ⟨w2.heap.size, 0, none⟩) 0 0) [] := own_new w2 w2 (Below.refl _ _)
      have oAB : Own (((w2.alloc (.cells #[] TP)).alloc (lit1 p)).drew) w2.heap.size (.slice (some ⟨w2.heap.size, 0, none⟩) 0 0) [] := Own.alloc oA _
      have oCB : Own (((w2.alloc (lit1 p)).alloc (.cells #[] TP)).drew) w2.heap.size (.slice (some ⟨w2.heap.size + 1, 0, none⟩) 0 0) [] := ownA p
      have lAB := Lib.hid (show (((w2.alloc (.cells #[] TP)).alloc (lit1 p)).drew).heap[w2.heap.size + 1]? = some (lit1 p) from heap_alloc2_new w2 _ _)
      have lCB := Lib.hid (show (((w2.alloc (lit1 p)).alloc (.cells #[] TP)).drew).heap[w2.heap.size]? = some (lit1 p) from heap_alloc2_old w2 _ _)
      clear q0 q1 q2 q3 c0 c1 c2
      go_wp2
      go_region_held3 (fun w' => Below w2.heap.size w2 w' ∧ w'.cell? ⟨bl, ol + j * 4, none⟩ = some (.int .i64 p.area) ∧ w'.cell? ⟨bl, ol + j * 4 + 1, none⟩ = some (.int .i64 p.job) ∧ w'.cell? ⟨bl, ol + j * 4 + 2, none⟩ = some (.int .i64 p.sex) ∧ w'.cell? ⟨bl, ol + j * 4 + 3, none⟩ = some (.int .i64 p.pay) ∧ w'.cell? ⟨W.heap.size, 0, none⟩ = some (.int .i64 r.area) ∧ w'.cell? ⟨W.heap.size, 1, none⟩ = some (.int .i64 r.job) ∧ w'.cell? ⟨W.heap.size, 2, none⟩ = some (.int .i64 r.sex))
        (first | exact HF.out _ (by assumption) | exact HF.out _ b0 | exact HF.out _ bA | exact HF.out _ bC | exact HF.out _ bAB | exact HF.out _ bCB | exact HF.out _ (Below.alloc (by assumption) (Below.size (by assumption)) _))
        (first
          | (refine step_people rfl (.tmp 44) (.tmp 45) rfl w2.heap.size (.slice (some ⟨w2.heap.size, 0, none⟩) 0 0) [] rfl oA w2.heap.size (some ⟨bl, ol, none⟩) l.length d l rfl rfl (hrow5.below bA (Nat.le_refl _)) (by simp; omega) bA.size ?_
             intro v3 w3 ho3 hg3
             have hb3 : Below w2.heap.size w2 w3 := below_own bA oA hg3)
          | (refine step_people rfl (.tmp 44) (.tmp 45) rfl w2.heap.size (.slice (some ⟨w2.heap.size, 0, none⟩) 0 0) [] rfl oAB w2.heap.size (some ⟨bl, ol, none⟩) l.length d l rfl rfl (hrow5.below bAB (Nat.le_refl _)) (by simp; omega) bAB.size ?_
             intro v3 w3 ho3 hg3
             have hb3 : Below w2.heap.size w2 w3 := below_own bAB oAB hg3
             have hlit := rowA (Bd := w2.heap.size + 2) (keepA lAB.out hg3 (by simp [Value.ownBlock])) (by omega))
          | (refine step_people rfl (.tmp 44) (.tmp 45) rfl w2.heap.size (.slice (some ⟨w2.heap.size + 1, 0, none⟩) 0 0) [] rfl oCB w2.heap.size (some ⟨bl, ol, none⟩) l.length d l rfl rfl (hrow5.below bCB (Nat.le_refl _)) (by simp; omega) bCB.size ?_
             intro v3 w3 ho3 hg3
             have hb3 : Below w2.heap.size w2 w3 := below_own bCB oCB hg3
             have hlit := rowA (Bd := w2.heap.size + 2) (keepA lCB.out hg3 (by simp [Value.ownBlock])) (by omega))
          | (refine step_people rfl (.tmp 46) (.tmp 51) rfl w2.heap.size v3 ([] ++ l) (by simp [Act.eval]) (ho3.alloc _) (w3.heap.size + 1) (some ⟨w3.heap.size, 0, none⟩) 1 1 [p] rfl rfl (rowA (heap_alloc_new w3 _) (by omega)) (by simp; omega) (by have := hb3.size; simp; omega) ?_
             intro v4 w4 ho4 hg4
             have hb4 : Below w2.heap.size w2 w4 := below_own (hb3.alloc hb3.size _) (ho3.alloc _) hg4)
          | (refine step_people rfl (.tmp 46) (.tmp 51) rfl w2.heap.size v3 ([] ++ l) (by simp [Act.eval]) ho3 (w2.heap.size + 2) (some ⟨w2.heap.size + 1, 0, none⟩) 1 1 [p] rfl rfl hlit (by simp; omega) hb3.size ?_
             intro v4 w4 ho4 hg4
             have hb4 : Below w2.heap.size w2 w4 := below_own hb3 ho3 hg4)
          | (refine step_people rfl (.tmp 46) (.tmp 51) rfl w2.heap.size v3 ([] ++ l) (by simp [Act.eval]) ho3 (w2.heap.size + 2) (some ⟨w2.heap.size, 0, none⟩) 1 1 [p] rfl rfl hlit (by simp; omega) hb3.size ?_
             intro v4 w4 ho4 hg4
             have hb4 : Below w2.heap.size w2 w4 := below_own hb3 ho3 hg4)
          | (go_at_call 23
             refine (iGSize_is w4 (l ++ [p]) v4 (by simpa using ho4.isP') ll _ (HU.out.below (b2.trans (hb4.mono b2.size))) r j (g + 1) HS2.out _ (Below.refl _ _)).mono ?_
             rintro e w5 ⟨rfl, h5⟩
             have h6 : Below w2.heap.size w2 w5 := hb4.trans (h5.mono hb4.size)))
      all_goals
        go_wp2
        go_ret
        exact ⟨retb (by simp [IntWalk.i64_in (g + 1) (by omega)]), HB.out.trans ((b2.trans ((hb4.trans (h5.mono hb4.size)).mono b2.size)).mono HB.out.size)⟩
theorem m_leastAdd {l : List Pn} {ll : List (List Int)} {r : Rc} (hok : grOk l ll r = true) {k : Nat} (hk : k < l.length) (h39 : l.length < 40) : gleast (l ++ [l[k]]) ll r = gleast l ll r ∨ gleast (l ++ [l[k]]) ll r = gleast l ll r + 1 := by
  have h1 := (gr_parts.1 hok).1
  have h2 : grOk (l ++ [l[k]]) ll r = true := gr_app hok (fun p hp => by rw [List.mem_singleton.1 hp]; exact okL_mem h1 _ (List.getElem_mem hk)) (by simp; omega)
  rw [gleast_at hok, gleast_at h2, keysOf_app]
  have e : keysOf [l[k]] ll r = [ky ll r l k] := by unfold keysOf keys recL ky; rw [List.getD_eq_getElem?_getD, List.getElem?_eq_getElem hk]; rfl
  rw [e]
  have := least_add (ky_mem ll r l k hk)
  omega
set_option maxHeartbeats 4000000 in
theorem w_GroupLeastAdd (A : Option Addr) (n c : Nat) (hnc : n ≤ c) (hn : n ≤ maxLen) (A2 : Option Addr) (m c2 : Nat) (_hmc : m ≤ c2) (hm : m ≤ maxLen) (w : World) (hb : Bytes w w.heap.size A n) (_hb2 : Bytes w w.heap.size A2 m) :
    Calls Try.prog 12 #[.slice A n c, .slice A2 m c2] w fun e w' => e = .returned (.bool true) ∧ Below w.heap.size w w' := by
  have hn2 := hn
  have hm2 := hm
  unfold maxLen at hn2 hm2
  rcases (show 1048576 < n ∨ (¬ 1048576 < n ∧ 1048576 < m) ∨ ¬ 1048576 < n ∧ ¬ 1048576 < m by omega) with hbig | ⟨hbig, hbig2⟩ | ⟨hbig, hbig2⟩
  · go_enter Try.func12, Try.ntmps12
    go_wp2
    go_ret
    exact ⟨rfl, Below.refl _ _⟩
  · go_enter Try.func12, Try.ntmps12
    go_wp2
    go_ret
    exact ⟨rfl, Below.refl _ _⟩
  · go_enter Try.func12, Try.ntmps12
    go_wp2_with fail
    refine ((dGroupLeast_any A n c hnc hn _ hb).mono fun _ _ h => h.byW).mono ?_
    rintro e W ⟨l, v, ll, u, r, rfl, hv, hu, hl, hll, _, _, hbW⟩
    obtain ⟨W1, hW⟩ : ∃ W1, W1 = W.alloc (.cells #[.int .i64 r.area, .int .i64 r.job, .int .i64 r.sex] TRc) := ⟨_, rfl⟩
    have hb1 : Below W.heap.size W W1 := by rw [hW]; exact (Below.refl _ _).alloc (Nat.le_refl _) _
    have hzW : W.heap.size < W1.heap.size := by rw [hW]; simp
    have e0 : W1.cell? ⟨W.heap.size, 0, none⟩ = some (.int .i64 r.area) := by rw [hW]; simp [go_sem]
    have e1 : W1.cell? ⟨W.heap.size, 1, none⟩ = some (.int .i64 r.job) := by rw [hW]; simp [go_sem]
    have e2 : W1.cell? ⟨W.heap.size, 2, none⟩ = some (.int .i64 r.sex) := by rw [hW]; simp [go_sem]
    have HC := Lib.hid (show ∀ w', Below W1.heap.size W1 w' → w'.cell? ⟨W.heap.size, 0, none⟩ = some (.int .i64 r.area) ∧ w'.cell? ⟨W.heap.size, 1, none⟩ = some (.int .i64 r.job) ∧ w'.cell? ⟨W.heap.size, 2, none⟩ = some (.int .i64 r.sex) from
      fun w' h => ⟨(h.cell (p := ⟨W.heap.size, 0, none⟩) hzW).trans e0, (h.cell (p := ⟨W.heap.size, 1, none⟩) hzW).trans e1, (h.cell (p := ⟨W.heap.size, 2, none⟩) hzW).trans e2⟩)
    have HV := Lib.hid (hv.below hb1)
    have HU := Lib.hid (hu.below hb1)
    have HB := Lib.hid (hbW.trans (hb1.mono hbW.size))
    have b0 := Below.refl W1.heap.size W1
    clear e0 e1 e2 hv hu hbW hb hb1
    rcases (show gleast l ll r < 0 ∨ 0 ≤ gleast l ll r by omega) with hneg | hg0
    · have HG := Lib.hid (gleast_no hneg)
      clear hneg
      go_wp2_with fail
      rw [← hW]
      clear hW
      refine (iGLeast_is W1 l _ HV.out ll _ HU.out r (-1) HG.out _ b0).mono ?_
      rintro e w1 ⟨rfl, b1⟩
      obtain ⟨c0, c1, c2⟩ := HC.out _ b1
      go_wp2_with fail
      refine (sGLeast_is W1 l _ HV.out ll _ HU.out r (-1) HG.out _ b1).mono ?_
      rintro e w2 ⟨rfl, b2⟩
      go_wp2
      go_ret
      exact ⟨by first | rfl | exact retb (by simp) | exact retb (by simp; omega), HB.out.trans (b2.mono HB.out.size)⟩
    · obtain ⟨g, hg⟩ : ∃ g, gleast l ll r = g := ⟨_, rfl⟩
      have hok := gleast_in hg0
      have h40 : l.length ≤ 40 := by omega
      rw [hg] at hg0
      have HG := Lib.hid hg
      obtain ⟨Al, d, hv2, hd1, hd2, hrow1⟩ := HV.out
      subst hv2
      by_cases hl0 : l.length = 0
      · have hlb : ((l.length : Int) == 0) = true := by rw [beq_iff_eq]; omega
        clear hg hl0
        go_wp2_with fail
        rw [← hW]
        clear hW
        refine (iGLeast_is W1 l _ HV.out ll _ HU.out r _ HG.out _ b0).mono ?_
        rintro e w1 ⟨rfl, b1⟩
        obtain ⟨c0, c1, c2⟩ := HC.out _ b1
        go_wp2_with fail
        refine (sGLeast_is W1 l _ HV.out ll _ HU.out r _ HG.out _ b1).mono ?_
        rintro e w2 ⟨rfl, b2⟩
        go_wp2
        go_ret
        exact ⟨by first | rfl | exact retb (by simp) | exact retb (by simp; omega), HB.out.trans (b2.mono HB.out.size)⟩
      · have hlb : ((l.length : Int) == 0) = false := by rw [beq_eq_false_iff_ne]; omega
        have hlb2 : ((l.length : Int) == 40) = false := by rw [beq_eq_false_iff_ne]; omega
        obtain ⟨j, hj'⟩ : ∃ j, j = m % l.length := ⟨_, rfl⟩
        have hj : j < l.length := by rw [hj']; exact Nat.mod_lt _ (by omega)
        have hk : (m : Int) % (l.length : Int) = (j : Int) := by rw [hj']; simp
        have hS := m_leastAdd hok hj (by omega)
        rw [hg] at hS
        obtain ⟨s, hs⟩ : ∃ s, gleast (l ++ [l[j]]) ll r = s := ⟨_, rfl⟩
        rw [hs] at hS
        have HS := Lib.hid hs
        have hgl : g ≤ 40 := by rw [← hg, gleast_at hok]; have := least_le (ll := ll) (r := r) hj; have := cnk_le l ll r j; omega
        have HK := Lib.hid hk
        clear hg hs hk hj'
        go_wp2_with fail
        rw [← hW]
        clear hW
        refine (iGLeast_is W1 l _ HV.out ll _ HU.out r _ HG.out _ b0).mono ?_
        rintro e w1 ⟨rfl, b1⟩
        obtain ⟨c0, c1, c2⟩ := HC.out _ b1
        go_wp2_with fail
        refine (sGLeast_is W1 l _ HV.out ll _ HU.out r _ HG.out _ b1).mono ?_
        rintro e w2 ⟨rfl, b2⟩
        clear c0 c1 c2
        obtain ⟨c0, c1, c2⟩ := HC.out _ b2
        have hrow5 : Row w2 w2.heap.size Al (pcells l) := hrow1.below b2 (Nat.le_refl _) |>.more b2.size
        obtain ⟨bl, ol, hAl, hbl, q0, q1, q2, q3⟩ := hrow5.at_ j hj
        subst hAl
        have hzx : W.heap.size < w2.heap.size := by have := b2.size; omega
        obtain ⟨p, hp⟩ : ∃ p, l[j] = p := ⟨_, rfl⟩
        rw [hp] at q0 q1 q2 q3
        have HS2 := Lib.hid (show gleast (l ++ [p]) ll r = s by rw [← hp]; exact HS.out)
        have hji : (j : Int) < (l.length : Int) := by omega
        clear HS hp
        have hwg : IntKind.i64.wrap (g + 1) = g + 1 := IntWalk.i64_in _ (by omega)
        have hm0 : (0 : Int) < (l.length : Int) := by omega
        have hk := HK.out
        have hkt : (m : Int).tmod (l.length : Int) = (j : Int) := by rw [Int.tmod_eq_emod_of_nonneg (by omega)]; exact HK.out
        have HF := Lib.hid (show ∀ w' : World, Below w2.heap.size w2 w' → (Below w2.heap.size w2 w' ∧ w'.cell? ⟨bl, ol + j * 4, none⟩ = some (.int .i64 p.area) ∧ w'.cell? ⟨bl, ol + j * 4 + 1, none⟩ = some (.int .i64 p.job) ∧ w'.cell? ⟨bl, ol + j * 4 + 2, none⟩ = some (.int .i64 p.sex) ∧ w'.cell? ⟨bl, ol + j * 4 + 3, none⟩ = some (.int .i64 p.pay) ∧ w'.cell? ⟨W.heap.size, 0, none⟩ = some (.int .i64 r.area) ∧ w'.cell? ⟨W.heap.size, 1, none⟩ = some (.int .i64 r.job) ∧ w'.cell? ⟨W.heap.size, 2, none⟩ = some (.int .i64 r.sex)) from fun w' h => ⟨h, (h.cell (p := ⟨bl, ol + j * 4, none⟩) hbl).trans q0, (h.cell (p := ⟨bl, ol + j * 4 + 1, none⟩) hbl).trans q1, (h.cell (p := ⟨bl, ol + j * 4 + 2, none⟩) hbl).trans q2, (h.cell (p := ⟨bl, ol + j * 4 + 3, none⟩) hbl).trans q3, (h.cell (p := ⟨W.heap.size, 0, none⟩) hzx).trans c0, (h.cell (p := ⟨W.heap.size, 1, none⟩) hzx).trans c1, (h.cell (p := ⟨W.heap.size, 2, none⟩) hzx).trans c2⟩)
        have b0 : Below w2.heap.size w2 w2.drew := (Below.refl _ _).drew
        have bA : Below w2.heap.size w2 ((w2.alloc (.cells #[] TP)).drew) := ((Below.refl _ _).alloc (Nat.le_refl _) _).drew
        have bC : Below w2.heap.size w2 ((w2.alloc (lit1 p)).drew) := ((Below.refl _ _).alloc (Nat.le_refl _) _).drew
        have bAB : Below w2.heap.size w2 (((w2.alloc (.cells #[] TP)).alloc (lit1 p)).drew) := (((Below.refl _ _).alloc (Nat.le_refl _) _).alloc (by simp) _).drew
        have bCB : Below w2.heap.size w2 (((w2.alloc (lit1 p)).alloc (.cells #[] TP)).drew) := (((Below.refl _ _).alloc (Nat.le_refl _) _).alloc (by simp) _).drew
        have oA : Own ((w2.alloc (.cells #[] TP)).drew) w2.heap.size (.slice (some ⟨w2.heap.size, 0, none⟩) 0 0) [] := own_new w2 w2 (Below.refl _ _)
        have oAB : Own (((w2.alloc (.cells #[] TP)).alloc (lit1 p)).drew) w2.heap.size (.slice (some ⟨w2.heap.size, 0, none⟩) 0 0) [] := Own.alloc oA _
        have oCB : Own (((w2.alloc (lit1 p)).alloc (.cells #[] TP)).drew) w2.heap.size (.slice (some ⟨w2.heap.size + 1, 0, none⟩) 0 0) [] := ownA p
        have lAB := Lib.hid (show (((w2.alloc (.cells #[] TP)).alloc (lit1 p)).drew).heap[w2.heap.size + 1]? = some (lit1 p) from heap_alloc2_new w2 _ _)
        have lCB := Lib.hid (show (((w2.alloc (lit1 p)).alloc (.cells #[] TP)).drew).heap[w2.heap.size]? = some (lit1 p) from heap_alloc2_old w2 _ _)
        clear q0 q1 q2 q3 c0 c1 c2
        go_wp2
        go_region_held3 (fun w' => Below w2.heap.size w2 w' ∧ w'.cell? ⟨bl, ol + j * 4, none⟩ = some (.int .i64 p.area) ∧ w'.cell? ⟨bl, ol + j * 4 + 1, none⟩ = some (.int .i64 p.job) ∧ w'.cell? ⟨bl, ol + j * 4 + 2, none⟩ = some (.int .i64 p.sex) ∧ w'.cell? ⟨bl, ol + j * 4 + 3, none⟩ = some (.int .i64 p.pay) ∧ w'.cell? ⟨W.heap.size, 0, none⟩ = some (.int .i64 r.area) ∧ w'.cell? ⟨W.heap.size, 1, none⟩ = some (.int .i64 r.job) ∧ w'.cell? ⟨W.heap.size, 2, none⟩ = some (.int .i64 r.sex))
          (first | exact HF.out _ (by assumption) | exact HF.out _ b0 | exact HF.out _ bA | exact HF.out _ bC | exact HF.out _ bAB | exact HF.out _ bCB | exact HF.out _ (Below.alloc (by assumption) (Below.size (by assumption)) _))
          (first
            | (refine step_people rfl (.tmp 53) (.tmp 54) rfl w2.heap.size (.slice (some ⟨w2.heap.size, 0, none⟩) 0 0) [] rfl oA w2.heap.size (some ⟨bl, ol, none⟩) l.length d l rfl rfl (hrow5.below bA (Nat.le_refl _)) (by simp; omega) bA.size ?_
               intro v3 w3 ho3 hg3
               have hb3 : Below w2.heap.size w2 w3 := below_own bA oA hg3)
            | (refine step_people rfl (.tmp 53) (.tmp 54) rfl w2.heap.size (.slice (some ⟨w2.heap.size, 0, none⟩) 0 0) [] rfl oAB w2.heap.size (some ⟨bl, ol, none⟩) l.length d l rfl rfl (hrow5.below bAB (Nat.le_refl _)) (by simp; omega) bAB.size ?_
               intro v3 w3 ho3 hg3
               have hb3 : Below w2.heap.size w2 w3 := below_own bAB oAB hg3
               have hlit := rowA (Bd := w2.heap.size + 2) (keepA lAB.out hg3 (by simp [Value.ownBlock])) (by omega))
            | (refine step_people rfl (.tmp 53) (.tmp 54) rfl w2.heap.size (.slice (some ⟨w2.heap.size + 1, 0, none⟩) 0 0) [] rfl oCB w2.heap.size (some ⟨bl, ol, none⟩) l.length d l rfl rfl (hrow5.below bCB (Nat.le_refl _)) (by simp; omega) bCB.size ?_
               intro v3 w3 ho3 hg3
               have hb3 : Below w2.heap.size w2 w3 := below_own bCB oCB hg3
               have hlit := rowA (Bd := w2.heap.size + 2) (keepA lCB.out hg3 (by simp [Value.ownBlock])) (by omega))
            | (refine step_people rfl (.tmp 55) (.tmp 64) rfl w2.heap.size v3 ([] ++ l) (by simp [Act.eval]) (ho3.alloc _) (w3.heap.size + 1) (some ⟨w3.heap.size, 0, none⟩) 1 1 [p] rfl rfl (rowA (heap_alloc_new w3 _) (by omega)) (by simp; omega) (by have := hb3.size; simp; omega) ?_
               intro v4 w4 ho4 hg4
               have hb4 : Below w2.heap.size w2 w4 := below_own (hb3.alloc hb3.size _) (ho3.alloc _) hg4)
            | (refine step_people rfl (.tmp 55) (.tmp 64) rfl w2.heap.size v3 ([] ++ l) (by simp [Act.eval]) ho3 (w2.heap.size + 2) (some ⟨w2.heap.size + 1, 0, none⟩) 1 1 [p] rfl rfl hlit (by simp; omega) hb3.size ?_
               intro v4 w4 ho4 hg4
               have hb4 : Below w2.heap.size w2 w4 := below_own hb3 ho3 hg4)
            | (refine step_people rfl (.tmp 55) (.tmp 64) rfl w2.heap.size v3 ([] ++ l) (by simp [Act.eval]) ho3 (w2.heap.size + 2) (some ⟨w2.heap.size, 0, none⟩) 1 1 [p] rfl rfl hlit (by simp; omega) hb3.size ?_
               intro v4 w4 ho4 hg4
               have hb4 : Below w2.heap.size w2 w4 := below_own hb3 ho3 hg4)
            | (go_at_call 26
               refine (iGLeast_is w4 (l ++ [p]) v4 (by simpa using ho4.isP') ll _ (HU.out.below (b2.trans (hb4.mono b2.size))) r s HS2.out _ (Below.refl _ _)).mono ?_
               rintro e w5 ⟨rfl, h5⟩
               have h6 : Below w2.heap.size w2 w5 := hb4.trans (h5.mono hb4.size)))
        all_goals
          rcases hS with rfl | rfl
          · go_wp2
            go_ret
            exact ⟨by first | rfl | exact retb (by simp), HB.out.trans ((b2.trans ((hb4.trans (h5.mono hb4.size)).mono b2.size)).mono HB.out.size)⟩
          · have hne : (g + 1 == g) = false := by rw [beq_eq_false_iff_ne]; omega
            go_wp2
            go_ret
            exact ⟨by first | rfl | exact retb (by simp), HB.out.trans ((b2.trans ((hb4.trans (h5.mono hb4.size)).mono b2.size)).mono HB.out.size)⟩
set_option maxHeartbeats 4000000 in
theorem w_GroupOrder (A : Option Addr) (n c : Nat) (hnc : n ≤ c) (hn : n ≤ maxLen) (A2 : Option Addr) (m c2 : Nat) (_hmc : m ≤ c2) (hm : m ≤ maxLen) (w : World) (hb : Bytes w w.heap.size A n) (_hb2 : Bytes w w.heap.size A2 m) :
    Calls Try.prog 13 #[.slice A n c, .slice A2 m c2] w fun e w' => e = .returned (.bool true) ∧ Below w.heap.size w w' := by
  have hn2 := hn
  have hm2 := hm
  unfold maxLen at hn2 hm2
  rcases (show 1048576 < n ∨ (¬ 1048576 < n ∧ 1048576 < m) ∨ ¬ 1048576 < n ∧ ¬ 1048576 < m by omega) with hbig | ⟨hbig, hbig2⟩ | ⟨hbig, hbig2⟩
  · go_enter Try.func13, Try.ntmps13
    go_wp2
    go_ret
    exact ⟨rfl, Below.refl _ _⟩
  · go_enter Try.func13, Try.ntmps13
    go_wp2
    go_ret
    exact ⟨rfl, Below.refl _ _⟩
  · go_enter Try.func13, Try.ntmps13
    go_wp2_with fail
    refine ((dGroupLeast_any A n c hnc hn _ hb).mono fun _ _ h => h.byW).mono ?_
    rintro e W ⟨l, v, ll, u, r, rfl, hv, hu, hl, hll, _, _, hbW⟩
    obtain ⟨W1, hW⟩ : ∃ W1, W1 = W.alloc (.cells #[.int .i64 r.area, .int .i64 r.job, .int .i64 r.sex] TRc) := ⟨_, rfl⟩
    have hb1 : Below W.heap.size W W1 := by rw [hW]; exact (Below.refl _ _).alloc (Nat.le_refl _) _
    have hzW : W.heap.size < W1.heap.size := by rw [hW]; simp
    have e0 : W1.cell? ⟨W.heap.size, 0, none⟩ = some (.int .i64 r.area) := by rw [hW]; simp [go_sem]
    have e1 : W1.cell? ⟨W.heap.size, 1, none⟩ = some (.int .i64 r.job) := by rw [hW]; simp [go_sem]
    have e2 : W1.cell? ⟨W.heap.size, 2, none⟩ = some (.int .i64 r.sex) := by rw [hW]; simp [go_sem]
    have HC := Lib.hid (show ∀ w', Below W1.heap.size W1 w' → w'.cell? ⟨W.heap.size, 0, none⟩ = some (.int .i64 r.area) ∧ w'.cell? ⟨W.heap.size, 1, none⟩ = some (.int .i64 r.job) ∧ w'.cell? ⟨W.heap.size, 2, none⟩ = some (.int .i64 r.sex) from
      fun w' h => ⟨(h.cell (p := ⟨W.heap.size, 0, none⟩) hzW).trans e0, (h.cell (p := ⟨W.heap.size, 1, none⟩) hzW).trans e1, (h.cell (p := ⟨W.heap.size, 2, none⟩) hzW).trans e2⟩)
    have HV := Lib.hid (hv.below hb1)
    have HU := Lib.hid (hu.below hb1)
    have HB := Lib.hid (hbW.trans (hb1.mono hbW.size))
    have b0 := Below.refl W1.heap.size W1
    clear e0 e1 e2 hv hu hbW hb hb1
    rcases (show gleast l ll r < 0 ∨ 0 ≤ gleast l ll r by omega) with hneg | hg0
    · have HG := Lib.hid (gleast_no hneg)
      clear hneg
      go_wp2_with fail
      rw [← hW]
      clear hW
      refine (iGLeast_is W1 l _ HV.out ll _ HU.out r (-1) HG.out _ b0).mono ?_
      rintro e w1 ⟨rfl, b1⟩
      obtain ⟨c0, c1, c2⟩ := HC.out _ b1
      go_wp2_with fail
      refine (sGLeast_is W1 l _ HV.out ll _ HU.out r (-1) HG.out _ b1).mono ?_
      rintro e w2 ⟨rfl, b2⟩
      go_wp2
      go_ret
      exact ⟨by first | rfl | exact retb (by simp) | exact retb (by simp; omega), HB.out.trans (b2.mono HB.out.size)⟩
    · obtain ⟨g, hg⟩ : ∃ g, gleast l ll r = g := ⟨_, rfl⟩
      have hok := gleast_in hg0
      have h40 : l.length ≤ 40 := by omega
      rw [hg] at hg0
      have HG := Lib.hid hg
      clear hg
      obtain ⟨Al, d, hv2, hd1, hd2, hrow1⟩ := HV.out
      subst hv2
      obtain ⟨k, hk, hkl⟩ := modCutA m l.length
      have HK := Lib.hid hk; clear hk
      have hperm : (l.drop k ++ l.take k).Perm l := by have h := List.perm_append_comm (l₁ := l.drop k) (l₂ := l.take k); rwa [List.take_append_drop] at h
      obtain ⟨mm, hmm⟩ : ∃ z, gmany l ll r = z := ⟨_, rfl⟩
      obtain ⟨uu, huu⟩ : ∃ z, guniq l ll r = z := ⟨_, rfl⟩
      have hok2 := gr_perm hok hperm
      have HL := Lib.hid (show gleast (l.drop k ++ l.take k) ll r = g by rw [gleast_at hok2, least1_perm (keysOf_perm hperm ll r), ← gleast_at hok]; exact HG.out)
      have HM1 := Lib.hid hmm; have HQ1 := Lib.hid huu
      have HM2 := Lib.hid (show gmany (l.drop k ++ l.take k) ll r = mm by rw [gmany_at hok2, many1_perm (keysOf_perm hperm ll r), ← gmany_at hok]; exact hmm)
      have HQ2 := Lib.hid (show guniq (l.drop k ++ l.take k) ll r = uu by rw [guniq_at hok2, uniq1_perm (keysOf_perm hperm ll r), ← guniq_at hok]; exact huu)
      clear hmm huu hok hok2 hperm
      go_wp2_with fail
      rw [← hW]
      clear hW
      refine (iGLeast_is W1 l _ HV.out ll _ HU.out r _ HG.out _ b0).mono ?_
      rintro e w1 ⟨rfl, b1⟩
      obtain ⟨c0, c1, c2⟩ := HC.out _ b1
      go_wp2_with fail
      refine (sGLeast_is W1 l _ HV.out ll _ HU.out r _ HG.out _ b1).mono ?_
      rintro e w2 ⟨rfl, b2⟩
      clear c0 c1 c2
      obtain ⟨c0, c1, c2⟩ := HC.out _ b2
      clear c0 c1 c2
      go_wp2_with fail
      rw [HK.out]
      have hkd : k ≤ d := by omega
      have hkd2 : (k : Int) ≤ (d : Int) := by omega
      have hkl2 : (k : Int) ≤ (l.length : Int) := by omega
      have hrow2 : Row w2 w2.heap.size Al (pcells l) := (hrow1.below b2 (Nat.le_refl _)).more b2.size
      have r1 := hrow2.frontA (k := k)
      obtain ⟨B2, hsl, hB2⟩ := sliceTailA Al l.length d k hkl hd1
      have r2 := hB2 w2 _ l rfl hrow2
      clear hB2
      have n1 : k = (l.take k).length := by simp; omega
      have n2 : l.length - k = (l.drop k).length := by simp
      have N1 := Lib.hid n1; have N2 := Lib.hid n2; clear n1 n2
      have o0 : Own ((w2.alloc (.cells #[] TP)).drew) w2.heap.size (.slice (some ⟨w2.heap.size, 0, none⟩) 0 0) [] := own_new w2 w2 (Below.refl _ _)
      have b0' : Below w2.heap.size w2 ((w2.alloc (.cells #[] TP)).drew) := ((Below.refl _ _).alloc (Nat.le_refl _) _).drew
      go_region_law (first
        | (refine step_people rfl (.tmp 50) (.tmp 53) rfl w2.heap.size (.slice (some ⟨w2.heap.size, 0, none⟩) 0 0) [] rfl o0 w2.heap.size B2 (l.length - k) (d - k) (l.drop k) N2.out rfl (r2.below b0' (Nat.le_refl _)) (by simp; omega) b0'.size ?_
           intro v3 w3 ho3 hg3
           have hb3 : Below w2.heap.size w2 w3 := below_own b0' o0 hg3)
        | (refine step_people rfl (.tmp 54) (.tmp 57) rfl w2.heap.size v3 ([] ++ l.drop k) (by simp [Act.eval]) ho3 w2.heap.size Al k d (l.take k) N1.out rfl (r1.below hb3 (Nat.le_refl _)) (by simp; omega) hb3.size ?_
           intro v4 w4 ho4 hg4
           have hb4 : Below w2.heap.size w2 w4 := below_own hb3 ho3 hg4
           clear ho3 hg3 hg4))
      have b4 : Below W1.heap.size W1 w4 := b2.trans (hb4.mono b2.size)
      have HV4 := Lib.hid (show IsP w4 v4 (l.drop k ++ l.take k) by simpa using ho4.isP')
      have HVL := Lib.hid (HV.out.below b4)
      have HU4 := Lib.hid (HU.out.below b4)
      clear ho4 hb4 hb3 b0' o0 r1 r2 hsl hrow2
      have hz4 : W.heap.size < w4.heap.size := by have := b4.size; omega
      obtain ⟨c0, c1, c2⟩ := HC.out _ b4
      have HF := Lib.hid (show ∀ w' : World, Below w4.heap.size w4 w' → (Below w4.heap.size w4 w' ∧ w'.cell? ⟨W.heap.size, 0, none⟩ = some (.int .i64 r.area) ∧ w'.cell? ⟨W.heap.size, 1, none⟩ = some (.int .i64 r.job) ∧ w'.cell? ⟨W.heap.size, 2, none⟩ = some (.int .i64 r.sex)) from
        fun w' h => ⟨h, (h.cell (p := ⟨W.heap.size, 0, none⟩) hz4).trans c0, (h.cell (p := ⟨W.heap.size, 1, none⟩) hz4).trans c1, (h.cell (p := ⟨W.heap.size, 2, none⟩) hz4).trans c2⟩)
      clear c0 c1 c2
      have bd : Below w4.heap.size w4 w4.drew := (Below.refl _ _).drew
      go_wp2
      go_region_held3 (fun w' => Below w4.heap.size w4 w' ∧ w'.cell? ⟨W.heap.size, 0, none⟩ = some (.int .i64 r.area) ∧ w'.cell? ⟨W.heap.size, 1, none⟩ = some (.int .i64 r.job) ∧ w'.cell? ⟨W.heap.size, 2, none⟩ = some (.int .i64 r.sex))
        (first | exact HF.out _ (by assumption) | exact HF.out _ bd)
        (first
          | (go_at_call 26
             refine (iGLeast_is w4 _ v4 HV4.out ll _ HU4.out r _ HL.out _ bd).mono ?_
             rintro e w5 ⟨rfl, b5⟩)
          | (go_at_call 28
             with_reducible refine (iGMany_is w4 _ v4 HV4.out ll _ HU4.out r _ HM2.out _ b5).mono ?_
             rintro e w6 ⟨rfl, b6⟩)
          | (go_at_call 28
             with_reducible refine (iGMany_is w4 l _ HVL.out ll _ HU4.out r _ HM1.out _ b6).mono ?_
             rintro e w7 ⟨rfl, b7⟩)
          | (go_at_call 29
             with_reducible refine (iGUniq_is w4 _ v4 HV4.out ll _ HU4.out r _ HQ2.out _ b7).mono ?_
             rintro e w8 ⟨rfl, b8⟩)
          | (go_at_call 29
             with_reducible refine (iGUniq_is w4 l _ HVL.out ll _ HU4.out r _ HQ1.out _ b8).mono ?_
             rintro e w9 ⟨rfl, b9⟩))
      go_wp2
      go_ret
      exact ⟨by first | rfl | exact retb (by simp), HB.out.trans ((b4.trans (b9.mono b4.size)).mono HB.out.size)⟩
end Go.Proofs.Ytbbgakbobefplaa
