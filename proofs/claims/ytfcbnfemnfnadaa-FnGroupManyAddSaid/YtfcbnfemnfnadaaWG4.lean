/- Laws of chapter 3 that count groups. -/
import Derived.Test.YtfcbnfemnfnadaaGC
import Derived.Test.YtfcbnfemnfnadaaGM
import Derived.Test.YtfcbnfemnfnadaaG13
import Derived.Test.YtfcbnfemnfnadaaAP
namespace Go.Proofs.Ytfcbnfemnfnadaa
open Go.RowKit
theorem keys_range (l : List Pn) (ll : List (List Int)) (r : Rc) : keysOf l ll r = (List.range l.length).map (ky ll r l) := by
  refine List.ext_getElem (by rw [keysOf_len]; simp) fun i h1 h2 => ?_
  have hi : i < l.length := by rwa [keysOf_len] at h1
  simp only [List.getElem_map, List.getElem_range]
  unfold ky
  rw [List.getD_eq_getElem?_getD, List.getElem?_eq_getElem hi]
  simp [keysOf, keys, recL]
/-- Shares of the first k people. -/
def ssum (l : List Pn) (ll : List (List Int)) (r : Rc) (k : Nat) : Nat := ((List.range k).map fun i => 2520 / cnk l ll r i).sum
theorem ssum_succ (l : List Pn) (ll : List (List Int)) (r : Rc) (k : Nat) : ssum l ll r (k + 1) = ssum l ll r k + 2520 / cnk l ll r k := by
  unfold ssum; rw [List.range_succ, List.map_append, List.sum_append]; simp
theorem ssum_le (l : List Pn) (ll : List (List Int)) (r : Rc) (k : Nat) : ssum l ll r k ≤ k * 2520 := by
  induction k with
  | zero => simp [ssum]
  | succ k ih => rw [ssum_succ]; have := Nat.div_le_self 2520 (cnk l ll r k); omega
theorem ssum_all {l : List Pn} {ll : List (List Int)} {r : Rc} (h : ∀ i, i < l.length → cnk l ll r i ≤ 10) : ssum l ll r l.length = 2520 * many1 (keysOf l ll r) := by
  rw [← many_shares (keysOf l ll r) (fun a ha => by obtain ⟨k, hk, rfl⟩ := mem_ky ha; exact h k hk)]
  unfold ssum wsum
  conv => rhs; arg 1; arg 2; rw [keys_range]
  rw [List.map_map]; rfl
/-- How many of the first k are alone. -/
def usum (l : List Pn) (ll : List (List Int)) (r : Rc) (k : Nat) : Nat := ((List.range k).filter fun i => decide (cnk l ll r i = 1)).length
theorem usum_succ (l : List Pn) (ll : List (List Int)) (r : Rc) (k : Nat) : usum l ll r (k + 1) = usum l ll r k + if cnk l ll r k = 1 then 1 else 0 := by
  unfold usum; rw [List.range_succ, List.filter_append, List.length_append]
  congr 1
  by_cases h : cnk l ll r k = 1 <;> simp [h]
theorem usum_le (l : List Pn) (ll : List (List Int)) (r : Rc) (k : Nat) : usum l ll r k ≤ k := by
  unfold usum; have := List.length_filter_le (fun i => decide (cnk l ll r i = 1)) (List.range k); simp at this; omega
theorem usum_all (l : List Pn) (ll : List (List Int)) (r : Rc) : usum l ll r l.length = uniq1 (keysOf l ll r) := by
  unfold usum uniq1
  conv => rhs; arg 1; arg 2; rw [keys_range]
  rw [List.filter_map, List.length_map]; rfl
theorem keysOf_twice (l : List Pn) (ll : List (List Int)) (r : Rc) : keysOf (l ++ l) ll r = keysOf l ll r ++ keysOf l ll r := keysOf_app l l ll r
theorem m_manyAdd {l : List Pn} {ll : List (List Int)} {r : Rc} (hok : grOk l ll r = true) {p : Pn} (hp : okP p = true) (h39 : l.length < 40) : gmany (l ++ [p]) ll r = gmany l ll r ∨ gmany (l ++ [p]) ll r = gmany l ll r + 1 := by
  have h2 : grOk (l ++ [p]) ll r = true := gr_app hok (fun q hq => by rw [List.mem_singleton.1 hq]; exact hp) (by simp; omega)
  rw [gmany_at hok, gmany_at h2, keysOf_app]
  have e : keysOf [p] ll r = [key (rec1 ll r p)] := rfl
  rw [e]
  have := many_add (keysOf l ll r) (key (rec1 ll r p))
  omega
set_option maxHeartbeats 2000000 in
theorem w_GroupMany (A : Option Addr) (n c : Nat) (hnc : n ≤ c) (hn : n ≤ maxLen) (w : World) (hb : Bytes w w.heap.size A n) :
    Calls Try.prog 3 #[.slice A n c] w fun e w' => e = .returned (.bool true) ∧ Below w.heap.size w w' := by
  have hn2 := hn
  unfold maxLen at hn2
  rcases (show 1048576 < n ∨ ¬ 1048576 < n by omega) with hbig | hbig
  · go_enter Try.func3, Try.ntmps3
    go_wp2
    go_ret
    exact ⟨rfl, Below.refl _ _⟩
  · go_enter Try.func3, Try.ntmps3
    go_wp2_with fail
    refine ((dGroupMany_any A n c hnc hn _ hb).mono fun _ _ h => h.byW).mono ?_
    rintro e W ⟨l, v, ll, u, r, rfl, hv, hu, hl, hll, _, _, hbW⟩
    obtain ⟨W1, hW⟩ : ∃ W1, W1 = W.alloc (.cells #[.int .i64 r.area, .int .i64 r.job, .int .i64 r.sex] TRc) := ⟨_, rfl⟩
    have hb1 : Below W.heap.size W W1 := by rw [hW]; exact (Below.refl _ _).alloc (Nat.le_refl _) _
    have hzW : W.heap.size < W1.heap.size := by rw [hW]; simp
    have e0 : W1.cell? ⟨W.heap.size, 0, none⟩ = some (.int .i64 r.area) := by rw [hW]; simp [go_sem]
    have e1 : W1.cell? ⟨W.heap.size, 1, none⟩ = some (.int .i64 r.job) := by rw [hW]; simp [go_sem]
    have e2 : W1.cell? ⟨W.heap.size, 2, none⟩ = some (.int .i64 r.sex) := by rw [hW]; simp [go_sem]
    have HC := Lib.hid (show ∀ w', Below W1.heap.size W1 w' → w'.cell? ⟨W.heap.size, 0, none⟩ = some (.int .i64 r.area) ∧ w'.cell? ⟨W.heap.size, 1, none⟩ = some (.int .i64 r.job) ∧ w'.cell? ⟨W.heap.size, 2, none⟩ = some (.int .i64 r.sex) from
      fun w' h => ⟨(h.cell (p := ⟨W.heap.size, 0, none⟩) hzW).trans e0, (h.cell (p := ⟨W.heap.size, 1, none⟩) hzW).trans e1, (h.cell (p := ⟨W.heap.size, 2, none⟩) hzW).trans e2⟩)
    have HV := Lib.hid (hv.below hb1)
    have HU := Lib.hid (hu.below hb1)
    have HB := Lib.hid (hbW.trans (hb1.mono hbW.size))
    have b0 := Below.refl W1.heap.size W1
    clear e0 e1 e2 hv hu hbW hb hb1
    rcases (show gmany l ll r < 0 ∨ 0 ≤ gmany l ll r by omega) with hneg | hg0
    · have HG := Lib.hid (gmany_no hneg)
      clear hneg
      go_wp2_with fail
      rw [← hW]
      clear hW
      refine (iGMany_is W1 l _ HV.out ll _ HU.out r (-1) HG.out _ b0).mono ?_
      rintro e w1 ⟨rfl, b1⟩
      obtain ⟨c0, c1, c2⟩ := HC.out _ b1
      go_wp2_with fail
      refine (sGMany_is W1 l _ HV.out ll _ HU.out r (-1) HG.out _ b1).mono ?_
      rintro e w2 ⟨rfl, b2⟩
      go_wp2
      go_ret
      exact ⟨by first | rfl | exact retb (by simp) | exact retb (by simp; omega), HB.out.trans (b2.mono HB.out.size)⟩
    · obtain ⟨g, hg⟩ : ∃ g, gmany l ll r = g := ⟨_, rfl⟩
      have hok := gmany_in hg0
      obtain ⟨G, hG⟩ : ∃ G, many1 (keysOf l ll r) = G := ⟨_, rfl⟩
      have hgG : g = (G : Int) := by rw [← hg, gmany_at hok, hG]
      subst hgG
      obtain ⟨L, hL⟩ : ∃ L, least1 (keysOf l ll r) = L := ⟨_, rfl⟩
      obtain ⟨T, hT⟩ : ∃ T, many1 (keysOf l ll (rtop ll)) = T := ⟨_, rfl⟩
      have f1 : G * L ≤ l.length := by rw [← hG, ← hL]; have := many_least (keysOf l ll r); rwa [keysOf_len] at this
      have f2 : G ≤ l.length := by rw [← hG]; have := many1_le (keysOf l ll r); rwa [keysOf_len] at this
      have f3 : T ≤ G := by rw [← hG, ← hT]; exact many_top hok
      have HT := Lib.hid (show gmany l ll (rtop ll) = (T : Int) by rw [gmany_at (gr_top hok), hT])
      have HL := Lib.hid (show gleast l ll r = (L : Int) by rw [gleast_at hok, hL])
      have HG := Lib.hid hg
      obtain ⟨P, hP⟩ : ∃ P, G * L = P := ⟨_, rfl⟩
      rw [hP] at f1
      have hPi : (G : Int) * (L : Int) = (P : Int) := by rw [← hP]; simp
      clear hg hok hG hL hT hP
      obtain ⟨Au, cu, hu2, _, _, _⟩ := HU.out
      subst hu2
      obtain ⟨Av, cv, hv2, hd1, hd2, hrow1⟩ := HV.out
      subst hv2
      go_wp2_with fail
      rw [← hW]
      clear hW
      refine (iGMany_is W1 l _ HV.out ll _ HU.out r _ HG.out _ b0).mono ?_
      rintro e w1 ⟨rfl, b1⟩
      obtain ⟨c0, c1, c2⟩ := HC.out _ b1
      go_wp2_with fail
      refine (sGMany_is W1 l _ HV.out ll _ HU.out r _ HG.out _ b1).mono ?_
      rintro e w2 ⟨rfl, b2⟩
      clear c0 c1 c2
      obtain ⟨c0, c1, c2⟩ := HC.out _ b2
      go_wp2_with fail
      refine (iGMany_is W1 l _ HV.out ll _ HU.out (rtop ll) (T : Int) HT.out _ b2).mono ?_
      rintro e w3 ⟨rfl, b3⟩
      clear c0 c1 c2
      obtain ⟨c0, c1, c2⟩ := HC.out _ b3
      go_wp2_with fail
      refine (iGLeast_is W1 l _ HV.out ll _ HU.out r (L : Int) HL.out _ b3).mono ?_
      rintro e w4 ⟨rfl, b4⟩
      clear c0 c1 c2
      go_wp2
      go_ret
      exact ⟨by first | rfl | exact retb (by simp; omega), HB.out.trans (b4.mono HB.out.size)⟩
set_option maxHeartbeats 2000000 in
theorem w_UniquesAll (A : Option Addr) (n c : Nat) (hnc : n ≤ c) (hn : n ≤ maxLen) (w : World) (hb : Bytes w w.heap.size A n) :
    Calls Try.prog 8 #[.slice A n c] w fun e w' => e = .returned (.bool true) ∧ Below w.heap.size w w' := by
  have hn2 := hn
  unfold maxLen at hn2
  rcases (show 1048576 < n ∨ ¬ 1048576 < n by omega) with hbig | hbig
  · go_enter Try.func8, Try.ntmps8
    go_wp2
    go_ret
    exact ⟨rfl, Below.refl _ _⟩
  · go_enter Try.func8, Try.ntmps8
    go_wp2_with fail
    refine ((dGroupUniques_any A n c hnc hn _ hb).mono fun _ _ h => h.byW).mono ?_
    rintro e W ⟨l, v, ll, u, r, rfl, hv, hu, hl, hll, _, _, hbW⟩
    obtain ⟨W1, hW⟩ : ∃ W1, W1 = W.alloc (.cells #[.int .i64 r.area, .int .i64 r.job, .int .i64 r.sex] TRc) := ⟨_, rfl⟩
    have hb1 : Below W.heap.size W W1 := by rw [hW]; exact (Below.refl _ _).alloc (Nat.le_refl _) _
    have hzW : W.heap.size < W1.heap.size := by rw [hW]; simp
    have e0 : W1.cell? ⟨W.heap.size, 0, none⟩ = some (.int .i64 r.area) := by rw [hW]; simp [go_sem]
    have e1 : W1.cell? ⟨W.heap.size, 1, none⟩ = some (.int .i64 r.job) := by rw [hW]; simp [go_sem]
    have e2 : W1.cell? ⟨W.heap.size, 2, none⟩ = some (.int .i64 r.sex) := by rw [hW]; simp [go_sem]
    have HC := Lib.hid (show ∀ w', Below W1.heap.size W1 w' → w'.cell? ⟨W.heap.size, 0, none⟩ = some (.int .i64 r.area) ∧ w'.cell? ⟨W.heap.size, 1, none⟩ = some (.int .i64 r.job) ∧ w'.cell? ⟨W.heap.size, 2, none⟩ = some (.int .i64 r.sex) from
      fun w' h => ⟨(h.cell (p := ⟨W.heap.size, 0, none⟩) hzW).trans e0, (h.cell (p := ⟨W.heap.size, 1, none⟩) hzW).trans e1, (h.cell (p := ⟨W.heap.size, 2, none⟩) hzW).trans e2⟩)
    have HV := Lib.hid (hv.below hb1)
    have HU := Lib.hid (hu.below hb1)
    have HB := Lib.hid (hbW.trans (hb1.mono hbW.size))
    have b0 := Below.refl W1.heap.size W1
    clear e0 e1 e2 hv hu hbW hb hb1
    rcases (show guniq l ll r < 0 ∨ 0 ≤ guniq l ll r by omega) with hneg | hg0
    · have HG := Lib.hid (guniq_no hneg)
      clear hneg
      go_wp2_with fail
      rw [← hW]
      clear hW
      refine (iGUniq_is W1 l _ HV.out ll _ HU.out r (-1) HG.out _ b0).mono ?_
      rintro e w1 ⟨rfl, b1⟩
      obtain ⟨c0, c1, c2⟩ := HC.out _ b1
      go_wp2_with fail
      refine (sGUniq_is W1 l _ HV.out ll _ HU.out r (-1) HG.out _ b1).mono ?_
      rintro e w2 ⟨rfl, b2⟩
      go_wp2
      go_ret
      exact ⟨by first | rfl | exact retb (by simp) | exact retb (by simp; omega), HB.out.trans (b2.mono HB.out.size)⟩
    · obtain ⟨g, hg⟩ : ∃ g, guniq l ll r = g := ⟨_, rfl⟩
      have hok := guniq_in hg0
      obtain ⟨U, hU⟩ : ∃ U, uniq1 (keysOf l ll r) = U := ⟨_, rfl⟩
      have hgU : g = (U : Int) := by rw [← hg, guniq_at hok, hU]
      subst hgU
      obtain ⟨L, hL⟩ : ∃ L, least1 (keysOf l ll r) = L := ⟨_, rfl⟩
      obtain ⟨G, hG⟩ : ∃ G, many1 (keysOf l ll r) = G := ⟨_, rfl⟩
      have f1 : U = l.length ↔ G = l.length := by have h := uniq_all (keysOf l ll r); rwa [keysOf_len, hU, hG] at h
      have f2 : 0 < U ↔ L = 1 := by rw [← hU, ← hL]; exact ⟨uniq_pos, least_one⟩
      have HM := Lib.hid (show gmany l ll r = (G : Int) by rw [gmany_at hok, hG])
      have HL := Lib.hid (show gleast l ll r = (L : Int) by rw [gleast_at hok, hL])
      have HG := Lib.hid hg
      have HF1 := Lib.hid f1; have HF2 := Lib.hid f2
      obtain ⟨q, hq⟩ : ∃ q, l.length = q := ⟨_, rfl⟩
      clear hg hok hU hL hG f1 f2
      obtain ⟨Au, cu, hu2, _, _, _⟩ := HU.out
      subst hu2
      obtain ⟨Av, cv, hv2, hd1, hd2, hrow1⟩ := HV.out
      subst hv2
      rw [hq] at HV HF1 ⊢
      clear hq
      have hu1 : (((U : Int) == (q : Int)) == ((G : Int) == (q : Int))) = true := by
        rw [beq_iff_eq, Bool.eq_iff_iff, beq_iff_eq, beq_iff_eq]; have := HF1.out; omega
      have hu2 : ((decide ((0 : Int) < (U : Int))) == ((L : Int) == 1)) = true := by
        rw [beq_iff_eq, Bool.eq_iff_iff, beq_iff_eq, decide_eq_true_eq]; have := HF2.out; omega
      have HU1 := Lib.hid hu1; have HU2 := Lib.hid hu2
      clear hu1 hu2
      go_wp2_with fail
      rw [← hW]
      clear hW
      refine (iGUniq_is W1 l _ HV.out ll _ HU.out r _ HG.out _ b0).mono ?_
      rintro e w1 ⟨rfl, b1⟩
      obtain ⟨c0, c1, c2⟩ := HC.out _ b1
      go_wp2_with fail
      refine (sGUniq_is W1 l _ HV.out ll _ HU.out r _ HG.out _ b1).mono ?_
      rintro e w2 ⟨rfl, b2⟩
      clear c0 c1 c2
      obtain ⟨c0, c1, c2⟩ := HC.out _ b2
      go_wp2_with fail
      refine (iGMany_is W1 l _ HV.out ll _ HU.out r (G : Int) HM.out _ b2).mono ?_
      rintro e w3 ⟨rfl, b3⟩
      clear c0 c1 c2
      obtain ⟨c0, c1, c2⟩ := HC.out _ b3
      have hcase : ((U : Int) = q ∧ (G : Int) = q) ∨ (¬ (U : Int) = q ∧ ¬ (G : Int) = q) := by have := HF1.out; omega
      have hcase2 : ((0 : Int) < U ∧ (L : Int) = 1) ∨ (¬ (0 : Int) < U ∧ ¬ (L : Int) = 1) := by have := HF2.out; omega
      have HC2 := Lib.hid hcase2; clear hcase2
      have e1 : ((U : Int) == (q : Int)) = ((G : Int) == (q : Int)) := by rw [Bool.eq_iff_iff, beq_iff_eq, beq_iff_eq]; omega
      clear hcase
      go_wp2_with fail
      refine (iGLeast_is W1 l _ HV.out ll _ HU.out r (L : Int) HL.out _ b3).mono ?_
      rintro e w4 ⟨rfl, b4⟩
      clear c0 c1 c2
      have hcase2 := HC2.out
      rcases hcase2 with ⟨k1, k2⟩ | ⟨k1, k2⟩
      all_goals
        go_wp2
        go_ret
        exact ⟨retb (by first | (simp; omega) | (simp; rw [Bool.eq_iff_iff]; simp; omega)), HB.out.trans (b4.mono HB.out.size)⟩
set_option maxRecDepth 100000 in
set_option maxHeartbeats 2000000 in
theorem w_GroupManySum (A : Option Addr) (n c : Nat) (hnc : n ≤ c) (hn : n ≤ maxLen) (w : World) (hb : Bytes w w.heap.size A n) :
    Calls Try.prog 4 #[.slice A n c] w fun e w' => e = .returned (.bool true) ∧ Below w.heap.size w w' := by
  have hn2 := hn
  unfold maxLen at hn2
  rcases (show 1048576 < n ∨ ¬ 1048576 < n by omega) with hbig | hbig
  · go_enter Try.func4, Try.ntmps4
    go_wp2
    go_ret
    exact ⟨rfl, Below.refl _ _⟩
  · go_enter Try.func4, Try.ntmps4
    go_wp2_with fail
    refine ((dGroupMany_any A n c hnc hn _ hb).mono fun _ _ h => h.byW).mono ?_
    rintro e W ⟨l, v, ll, u, r, rfl, hv, hu, hl, hll, _, _, hbW⟩
    obtain ⟨W1, hW⟩ : ∃ W1, W1 = W.alloc (.cells #[.int .i64 r.area, .int .i64 r.job, .int .i64 r.sex] TRc) := ⟨_, rfl⟩
    have hb1 : Below W.heap.size W W1 := by rw [hW]; exact (Below.refl _ _).alloc (Nat.le_refl _) _
    have hzW : W.heap.size < W1.heap.size := by rw [hW]; simp
    have e0 : W1.cell? ⟨W.heap.size, 0, none⟩ = some (.int .i64 r.area) := by rw [hW]; simp [go_sem]
    have e1 : W1.cell? ⟨W.heap.size, 1, none⟩ = some (.int .i64 r.job) := by rw [hW]; simp [go_sem]
    have e2 : W1.cell? ⟨W.heap.size, 2, none⟩ = some (.int .i64 r.sex) := by rw [hW]; simp [go_sem]
    have HC := Lib.hid (show ∀ w', Below W1.heap.size W1 w' → w'.cell? ⟨W.heap.size, 0, none⟩ = some (.int .i64 r.area) ∧ w'.cell? ⟨W.heap.size, 1, none⟩ = some (.int .i64 r.job) ∧ w'.cell? ⟨W.heap.size, 2, none⟩ = some (.int .i64 r.sex) from
      fun w' h => ⟨(h.cell (p := ⟨W.heap.size, 0, none⟩) hzW).trans e0, (h.cell (p := ⟨W.heap.size, 1, none⟩) hzW).trans e1, (h.cell (p := ⟨W.heap.size, 2, none⟩) hzW).trans e2⟩)
    have HV := Lib.hid (hv.below hb1)
    have HU := Lib.hid (hu.below hb1)
    have HB := Lib.hid (hbW.trans (hb1.mono hbW.size))
    have b0 := Below.refl W1.heap.size W1
    clear e0 e1 e2 hv hu hbW hb hb1
    rcases (show gmany l ll r < 0 ∨ 0 ≤ gmany l ll r by omega) with hneg | hg0
    · have HG := Lib.hid (gmany_no hneg)
      clear hneg
      go_wp2_with fail
      rw [← hW]
      clear hW
      refine (iGMany_is W1 l _ HV.out ll _ HU.out r (-1) HG.out _ b0).mono ?_
      rintro e w1 ⟨rfl, b1⟩
      obtain ⟨c0, c1, c2⟩ := HC.out _ b1
      go_wp2_with fail
      refine (sGMany_is W1 l _ HV.out ll _ HU.out r (-1) HG.out _ b1).mono ?_
      rintro e w2 ⟨rfl, b2⟩
      go_wp2
      go_ret
      exact ⟨by first | rfl | exact retb (by simp) | exact retb (by simp; omega), HB.out.trans (b2.mono HB.out.size)⟩
    · obtain ⟨g, hg⟩ : ∃ g, gmany l ll r = g := ⟨_, rfl⟩
      have hok := gmany_in hg0
      obtain ⟨G, hG⟩ : ∃ G, many1 (keysOf l ll r) = G := ⟨_, rfl⟩
      have hgG : g = (G : Int) := by rw [← hg, gmany_at hok, hG]
      subst hgG
      have f2 : G ≤ l.length := by rw [← hG]; have := many1_le (keysOf l ll r); rwa [keysOf_len] at this
      have HS := Lib.hid (fun h => ssum_all (l := l) (ll := ll) (r := r) h)
      rw [hG] at HS
      have HG := Lib.hid hg; have HOK := Lib.hid hok
      obtain ⟨q, hq⟩ : ∃ q, l.length = q := ⟨_, rfl⟩
      have HQ := Lib.hid hq
      clear hg hok hG
      obtain ⟨Au, cu, hu2, _, _, _⟩ := HU.out
      subst hu2
      obtain ⟨Av, cv, hv2, hd1, hd2, hrow1⟩ := HV.out
      subst hv2
      rw [hq] at HV HS f2 hl ⊢
      clear hq
      go_wp2_with fail
      rw [← hW]
      clear hW
      refine (iGMany_is W1 l _ HV.out ll _ HU.out r _ HG.out _ b0).mono ?_
      rintro e w1 ⟨rfl, b1⟩
      obtain ⟨c0, c1, c2⟩ := HC.out _ b1
      go_wp2_with fail
      refine (sGMany_is W1 l _ HV.out ll _ HU.out r _ HG.out _ b1).mono ?_
      rintro e w2 ⟨rfl, b2⟩
      clear c0 c1 c2
      obtain ⟨c0, c1, c2⟩ := HC.out _ b2
      clear c0 c1 c2
      have HB2 := Lib.hid b2
      go_wp2
      go_loopw [8, 9] (fun s i wr => ∃ k : Nat, k ≤ q ∧ i = .int .i64 k ∧ s = .int .i64 (ssum l ll r k : Nat) ∧ (∀ j, j < k → cnk l ll r j ≤ 10) ∧ Below W1.heap.size W1 wr) (fun _ i _ => q - (intOf i).toNat)
      case atStart => exact ⟨0, Nat.zero_le _, rfl, rfl, fun j h => by omega, HB2.out⟩
      case round =>
        obtain ⟨k, hk, rfl, rfl, hall, hb⟩ := hrel
        have HALL := Lib.hid hall; clear hall
        have hsl := ssum_le l ll r k
        have HN := Lib.hid (ssum_succ l ll r k)
        by_cases hlt : k < q
        · have hki : (k : Int) < (q : Int) := by omega
          have hkl : k < l.length := by rw [HQ.out]; exact hlt
          have hz := gsize_at HOK.out hkl
          have hpos := cnk_pos (ll := ll) (r := r) hkl
          obtain ⟨s, hs⟩ : ∃ s, ssum l ll r k = s := ⟨_, rfl⟩
          obtain ⟨c, hc⟩ : ∃ c, cnk l ll r k = c := ⟨_, rfl⟩
          rw [hs] at hsl HN ⊢
          rw [hc] at hz hpos HN
          have HZ := Lib.hid hz; have HC2 := Lib.hid hc
          obtain ⟨c0, c1, c2⟩ := HC.out _ hb
          clear hs hc hz hkl
          go_wp2_with fail
          refine (iGSize_is W1 l _ HV.out ll _ HU.out r k (c : Int) HZ.out _ hb).mono ?_
          rintro e w3 ⟨rfl, b3⟩
          have hc1 : ¬ (c : Int) < 1 := by omega
          clear c0 c1 c2
          by_cases hc10 : c ≤ 10
          · have hc2 : ¬ (10 : Int) < (c : Int) := by omega
            obtain ⟨D, hD⟩ : ∃ D, 2520 / c = D := ⟨_, rfl⟩
            have hDl : D ≤ 2520 := by rw [← hD]; exact Nat.div_le_self _ _
            have hdi : (2520 : Int) / (c : Int) = (D : Int) := by rw [← hD]; rfl
            have hc0 : ¬ c = 0 := by omega
            have hks : k * 2520 ≤ 100 * 2520 := by omega
            rw [hD] at HN
            clear hD
            go_wp2
            go_roundw
            case rel => exact ⟨k + 1, by omega, by go_num, by rw [HN.out]; go_num, fun j hj => by
              rcases Nat.lt_succ_iff_lt_or_eq.1 hj with h | rfl
              · exact HALL.out j h
              · rw [HC2.out]; exact hc10, b3⟩
            case measure => simp [intOf]; omega
          · have hc2 : (10 : Int) < (c : Int) := by omega
            go_wp2
            go_ret
            exact ⟨by first | rfl | exact retb (by simp), HB.out.trans (b3.mono HB.out.size)⟩
        · have hki : ¬ (k : Int) < (q : Int) := by omega
          obtain rfl : k = q := by omega
          rw [HS.out HALL.out]
          have e : ((2520 * G : Nat) : Int) = 2520 * (G : Int) := by simp
          rw [e]
          go_wp2
          go_ret
          exact ⟨by first | rfl | exact retb (by simp), HB.out.trans (hb.mono HB.out.size)⟩
set_option maxHeartbeats 2000000 in
theorem w_Uniques (A : Option Addr) (n c : Nat) (hnc : n ≤ c) (hn : n ≤ maxLen) (w : World) (hb : Bytes w w.heap.size A n) :
    Calls Try.prog 5 #[.slice A n c] w fun e w' => e = .returned (.bool true) ∧ Below w.heap.size w w' := by
  have hn2 := hn
  unfold maxLen at hn2
  rcases (show 1048576 < n ∨ ¬ 1048576 < n by omega) with hbig | hbig
  · go_enter Try.func5, Try.ntmps5
    go_wp2
    go_ret
    exact ⟨rfl, Below.refl _ _⟩
  · go_enter Try.func5, Try.ntmps5
    go_wp2_with fail
    refine ((dGroupUniques_any A n c hnc hn _ hb).mono fun _ _ h => h.byW).mono ?_
    rintro e W ⟨l, v, ll, u, r, rfl, hv, hu, hl, hll, _, _, hbW⟩
    obtain ⟨W1, hW⟩ : ∃ W1, W1 = W.alloc (.cells #[.int .i64 r.area, .int .i64 r.job, .int .i64 r.sex] TRc) := ⟨_, rfl⟩
    have hb1 : Below W.heap.size W W1 := by rw [hW]; exact (Below.refl _ _).alloc (Nat.le_refl _) _
    have hzW : W.heap.size < W1.heap.size := by rw [hW]; simp
    have e0 : W1.cell? ⟨W.heap.size, 0, none⟩ = some (.int .i64 r.area) := by rw [hW]; simp [go_sem]
    have e1 : W1.cell? ⟨W.heap.size, 1, none⟩ = some (.int .i64 r.job) := by rw [hW]; simp [go_sem]
    have e2 : W1.cell? ⟨W.heap.size, 2, none⟩ = some (.int .i64 r.sex) := by rw [hW]; simp [go_sem]
    have HC := Lib.hid (show ∀ w', Below W1.heap.size W1 w' → w'.cell? ⟨W.heap.size, 0, none⟩ = some (.int .i64 r.area) ∧ w'.cell? ⟨W.heap.size, 1, none⟩ = some (.int .i64 r.job) ∧ w'.cell? ⟨W.heap.size, 2, none⟩ = some (.int .i64 r.sex) from
      fun w' h => ⟨(h.cell (p := ⟨W.heap.size, 0, none⟩) hzW).trans e0, (h.cell (p := ⟨W.heap.size, 1, none⟩) hzW).trans e1, (h.cell (p := ⟨W.heap.size, 2, none⟩) hzW).trans e2⟩)
    have HV := Lib.hid (hv.below hb1)
    have HU := Lib.hid (hu.below hb1)
    have HB := Lib.hid (hbW.trans (hb1.mono hbW.size))
    have b0 := Below.refl W1.heap.size W1
    clear e0 e1 e2 hv hu hbW hb hb1
    rcases (show guniq l ll r < 0 ∨ 0 ≤ guniq l ll r by omega) with hneg | hg0
    · have HG := Lib.hid (guniq_no hneg)
      clear hneg
      go_wp2_with fail
      rw [← hW]
      clear hW
      refine (iGUniq_is W1 l _ HV.out ll _ HU.out r (-1) HG.out _ b0).mono ?_
      rintro e w1 ⟨rfl, b1⟩
      obtain ⟨c0, c1, c2⟩ := HC.out _ b1
      go_wp2_with fail
      refine (sGUniq_is W1 l _ HV.out ll _ HU.out r (-1) HG.out _ b1).mono ?_
      rintro e w2 ⟨rfl, b2⟩
      go_wp2
      go_ret
      exact ⟨by first | rfl | exact retb (by simp) | exact retb (by simp; omega), HB.out.trans (b2.mono HB.out.size)⟩
    · obtain ⟨g, hg⟩ : ∃ g, guniq l ll r = g := ⟨_, rfl⟩
      have hok := guniq_in hg0
      obtain ⟨U, hU⟩ : ∃ U, uniq1 (keysOf l ll r) = U := ⟨_, rfl⟩
      have hgU : g = (U : Int) := by rw [← hg, guniq_at hok, hU]
      subst hgU
      obtain ⟨L, hL⟩ : ∃ L, least1 (keysOf l ll r) = L := ⟨_, rfl⟩
      obtain ⟨G, hG⟩ : ∃ G, many1 (keysOf l ll r) = G := ⟨_, rfl⟩
      have f1 : U ≤ G := by rw [← hU, ← hG]; exact uniq_le _
      have f2 : L ≤ 1 ∨ U = 0 := (Nat.eq_zero_or_pos U).elim .inr (fun h => .inl (by rw [← hL, uniq_pos (by rw [hU]; exact h)]; exact Nat.le_refl _))
      have HM := Lib.hid (show gmany l ll r = (G : Int) by rw [gmany_at hok, hG])
      have HL := Lib.hid (show gleast l ll r = (L : Int) by rw [gleast_at hok, hL])
      have HUS := Lib.hid (show usum l ll r l.length = U by rw [usum_all, hU])
      have HG := Lib.hid hg; have HOK := Lib.hid hok
      have HF2 := Lib.hid f2
      obtain ⟨q, hq⟩ : ∃ q, l.length = q := ⟨_, rfl⟩
      have HQ := Lib.hid hq
      clear hg hok hU hL hG f2
      obtain ⟨Au, cu, hu2, _, _, _⟩ := HU.out
      subst hu2
      obtain ⟨Av, cv, hv2, hd1, hd2, hrow1⟩ := HV.out
      subst hv2
      rw [hq] at HV HUS hl ⊢
      clear hq
      go_wp2_with fail
      rw [← hW]
      clear hW
      refine (iGUniq_is W1 l _ HV.out ll _ HU.out r _ HG.out _ b0).mono ?_
      rintro e w1 ⟨rfl, b1⟩
      obtain ⟨c0, c1, c2⟩ := HC.out _ b1
      go_wp2_with fail
      refine (sGUniq_is W1 l _ HV.out ll _ HU.out r _ HG.out _ b1).mono ?_
      rintro e w2 ⟨rfl, b2⟩
      clear c0 c1 c2
      obtain ⟨c0, c1, c2⟩ := HC.out _ b2
      clear c0 c1 c2
      have HB2 := Lib.hid b2
      go_wp2
      go_loopw [8, 9] (fun s i wr => ∃ k : Nat, k ≤ q ∧ i = .int .i64 k ∧ s = .int .i64 (usum l ll r k : Nat) ∧ Below W1.heap.size W1 wr) (fun _ i _ => q - (intOf i).toNat)
      case atStart => exact ⟨0, Nat.zero_le _, rfl, rfl, HB2.out⟩
      case round =>
        obtain ⟨k, hk, rfl, rfl, hb⟩ := hrel
        have hsl := usum_le l ll r k
        have HN := Lib.hid (usum_succ l ll r k)
        by_cases hlt : k < q
        · have hki : (k : Int) < (q : Int) := by omega
          have hkl : k < l.length := by rw [HQ.out]; exact hlt
          have HZ := Lib.hid (gsize_at HOK.out hkl)
          obtain ⟨s, hs⟩ : ∃ s, usum l ll r k = s := ⟨_, rfl⟩
          obtain ⟨c, hc⟩ : ∃ c, cnk l ll r k = c := ⟨_, rfl⟩
          rw [hs] at hsl HN ⊢
          rw [hc] at HZ HN
          obtain ⟨c0, c1, c2⟩ := HC.out _ hb
          clear hs hc hkl
          go_wp2_with fail
          refine (iGSize_is W1 l _ HV.out ll _ HU.out r k (c : Int) HZ.out _ hb).mono ?_
          rintro e w3 ⟨rfl, b3⟩
          clear c0 c1 c2
          by_cases hc1 : c = 1
          · have hcb : ((c : Int) == 1) = true := by rw [beq_iff_eq]; omega
            have HN2 := Lib.hid (show usum l ll r (k + 1) = s + 1 by rw [HN.out, if_pos hc1])
            clear hc1
            go_wp2
            go_roundw
            case rel => exact ⟨k + 1, by omega, by go_num, by rw [HN2.out]; go_num, b3⟩
            case measure => simp [intOf]; omega
          · have hcb : ((c : Int) == 1) = false := by rw [beq_eq_false_iff_ne]; omega
            have HN2 := Lib.hid (show usum l ll r (k + 1) = s by rw [HN.out, if_neg hc1]; rfl)
            clear hc1
            go_wp2
            go_roundw
            case rel => exact ⟨k + 1, by omega, by go_num, by rw [HN2.out], b3⟩
            case measure => simp [intOf]; omega
        · have hki : ¬ (k : Int) < (q : Int) := by omega
          obtain rfl : k = q := by omega
          rw [HUS.out]
          obtain ⟨c0, c1, c2⟩ := HC.out _ hb
          have hug : (U : Int) ≤ (G : Int) := by omega
          go_wp2_with fail
          refine (iGMany_is W1 l _ HV.out ll _ HU.out r (G : Int) HM.out _ hb).mono ?_
          rintro e w3 ⟨rfl, b3⟩
          clear c0 c1 c2
          obtain ⟨c0, c1, c2⟩ := HC.out _ b3
          go_wp2_with fail
          refine (iGLeast_is W1 l _ HV.out ll _ HU.out r (L : Int) HL.out _ b3).mono ?_
          rintro e w4 ⟨rfl, b4⟩
          clear c0 c1 c2
          have hf2 := HF2.out
          by_cases hL1 : L ≤ 1
          · have hL2 : (L : Int) ≤ 1 := by omega
            go_wp2
            go_ret
            exact ⟨by first | rfl | exact retb (by simp), HB.out.trans (b4.mono HB.out.size)⟩
          · have hL2 : ¬ (L : Int) ≤ 1 := by omega
            have hU0 : ((U : Int) == 0) = true := by rw [beq_iff_eq]; omega
            go_wp2
            go_ret
            exact ⟨by first | rfl | exact retb (by simp), HB.out.trans (b4.mono HB.out.size)⟩
set_option maxHeartbeats 4000000 in
theorem w_UniquesTwice (A : Option Addr) (n c : Nat) (hnc : n ≤ c) (hn : n ≤ maxLen) (w : World) (hb : Bytes w w.heap.size A n) :
    Calls Try.prog 6 #[.slice A n c] w fun e w' => e = .returned (.bool true) ∧ Below w.heap.size w w' := by
  have hn2 := hn
  unfold maxLen at hn2
  rcases (show 1048576 < n ∨ ¬ 1048576 < n by omega) with hbig | hbig
  · go_enter Try.func6, Try.ntmps6
    go_wp2
    go_ret
    exact ⟨rfl, Below.refl _ _⟩
  · go_enter Try.func6, Try.ntmps6
    go_wp2_with fail
    refine ((dGroupUniques_any A n c hnc hn _ hb).mono fun _ _ h => h.byW).mono ?_
    rintro e W ⟨l, v, ll, u, r, rfl, hv, hu, hl, hll, _, _, hbW⟩
    obtain ⟨W1, hW⟩ : ∃ W1, W1 = W.alloc (.cells #[.int .i64 r.area, .int .i64 r.job, .int .i64 r.sex] TRc) := ⟨_, rfl⟩
    have hb1 : Below W.heap.size W W1 := by rw [hW]; exact (Below.refl _ _).alloc (Nat.le_refl _) _
    have hzW : W.heap.size < W1.heap.size := by rw [hW]; simp
    have e0 : W1.cell? ⟨W.heap.size, 0, none⟩ = some (.int .i64 r.area) := by rw [hW]; simp [go_sem]
    have e1 : W1.cell? ⟨W.heap.size, 1, none⟩ = some (.int .i64 r.job) := by rw [hW]; simp [go_sem]
    have e2 : W1.cell? ⟨W.heap.size, 2, none⟩ = some (.int .i64 r.sex) := by rw [hW]; simp [go_sem]
    have HC := Lib.hid (show ∀ w', Below W1.heap.size W1 w' → w'.cell? ⟨W.heap.size, 0, none⟩ = some (.int .i64 r.area) ∧ w'.cell? ⟨W.heap.size, 1, none⟩ = some (.int .i64 r.job) ∧ w'.cell? ⟨W.heap.size, 2, none⟩ = some (.int .i64 r.sex) from
      fun w' h => ⟨(h.cell (p := ⟨W.heap.size, 0, none⟩) hzW).trans e0, (h.cell (p := ⟨W.heap.size, 1, none⟩) hzW).trans e1, (h.cell (p := ⟨W.heap.size, 2, none⟩) hzW).trans e2⟩)
    have HV := Lib.hid (hv.below hb1)
    have HU := Lib.hid (hu.below hb1)
    have HB := Lib.hid (hbW.trans (hb1.mono hbW.size))
    have b0 := Below.refl W1.heap.size W1
    clear e0 e1 e2 hv hu hbW hb hb1
    rcases (show guniq l ll r < 0 ∨ 0 ≤ guniq l ll r by omega) with hneg | hg0
    · have HG := Lib.hid (guniq_no hneg)
      clear hneg
      go_wp2_with fail
      rw [← hW]
      clear hW
      refine (iGUniq_is W1 l _ HV.out ll _ HU.out r (-1) HG.out _ b0).mono ?_
      rintro e w1 ⟨rfl, b1⟩
      obtain ⟨c0, c1, c2⟩ := HC.out _ b1
      go_wp2_with fail
      refine (sGUniq_is W1 l _ HV.out ll _ HU.out r (-1) HG.out _ b1).mono ?_
      rintro e w2 ⟨rfl, b2⟩
      go_wp2
      go_ret
      exact ⟨by first | rfl | exact retb (by simp) | exact retb (by simp; omega), HB.out.trans (b2.mono HB.out.size)⟩
    · obtain ⟨g, hg⟩ : ∃ g, guniq l ll r = g := ⟨_, rfl⟩
      have hok := guniq_in hg0
      have hl0 := hl
      obtain ⟨L, hL⟩ : ∃ L, least1 (keysOf l ll r) = L := ⟨_, rfl⟩
      obtain ⟨G, hG⟩ : ∃ G, many1 (keysOf l ll r) = G := ⟨_, rfl⟩
      have hok2 : grOk (l ++ l) ll r = true := gr_app hok (okL_mem (gr_parts.1 hok).1) (by simp; omega)
      have HU2 := Lib.hid (show guniq (l ++ l) ll r = 0 by rw [guniq_at hok2, keysOf_twice, uniq_twice]; rfl)
      have HL2 := Lib.hid (show gleast (l ++ l) ll r = 2 * (L : Int) by rw [gleast_at hok2, keysOf_twice, least_twice, hL]; simp)
      have HL1 := Lib.hid (show gleast l ll r = (L : Int) by rw [gleast_at hok, hL])
      have HM2 := Lib.hid (show gmany (l ++ l) ll r = (G : Int) by rw [gmany_at hok2, keysOf_twice, many_twice, hG])
      have HM1 := Lib.hid (show gmany l ll r = (G : Int) by rw [gmany_at hok, hG])
      have hLl : L ≤ 10 := by
        by_cases h : l = []
        · subst h; rw [← hL]; exact Nat.zero_le _
        · obtain ⟨k, hk, he⟩ := least_is (ll := ll) (r := r) h
          have := cnk_le l ll r k; omega
      have HG := Lib.hid hg
      rw [hg] at hg0
      clear hg hok hok2 hL hG
      obtain ⟨Au, cu, hu2, _, _, _⟩ := HU.out
      subst hu2
      obtain ⟨Av, cv, hv2, hd1, hd2, hrow1⟩ := HV.out
      subst hv2
      have h2l : ¬ (40 : Int) < 2 * (l.length : Int) := by omega
      go_wp2_with fail
      rw [← hW]
      clear hW
      refine (iGUniq_is W1 l _ HV.out ll _ HU.out r _ HG.out _ b0).mono ?_
      rintro e w1 ⟨rfl, b1⟩
      obtain ⟨c0, c1, c2⟩ := HC.out _ b1
      go_wp2_with fail
      refine (sGUniq_is W1 l _ HV.out ll _ HU.out r _ HG.out _ b1).mono ?_
      rintro e w2 ⟨rfl, b2⟩
      clear c0 c1 c2
      obtain ⟨c0, c1, c2⟩ := HC.out _ b2
      clear c0 c1 c2
      have hrow2 : Row w2 w2.heap.size Av (pcells l) := (hrow1.below b2 (Nat.le_refl _)).more b2.size
      have o0 : Own (w2.alloc (.cells #[] TP)) w2.heap.size (.slice (some ⟨w2.heap.size, 0, none⟩) 0 0) [] := own_new w2 w2 (Below.refl _ _)
      have b0' : Below w2.heap.size w2 (w2.alloc (.cells #[] TP)) := (Below.refl _ _).alloc (Nat.le_refl _) _
      go_wp2_with (first
        | (at_builtin
           refine appP rfl (.tmp 44) (.tmp 45) rfl w2.heap.size (.slice (some ⟨w2.heap.size, 0, none⟩) 0 0) [] rfl o0 w2.heap.size Av l.length cv l rfl rfl (hrow2.below b0' (Nat.le_refl _)) (by simp; omega) b0'.size ?_
           intro v3 w3 ho3 hg3
           have hb3 : Below w2.heap.size w2 w3 := below_own b0' o0 hg3)
        | (at_builtin
           refine appP rfl (.tmp 46) (.tmp 47) rfl w2.heap.size v3 ([] ++ l) rfl ho3 w2.heap.size Av l.length cv l rfl rfl (hrow2.below hb3 (Nat.le_refl _)) (by simp; omega) hb3.size ?_
           intro v4 w4 ho4 hg4
           have hb4 : Below w2.heap.size w2 w4 := below_own hb3 ho3 hg4
           have b4 : Below W1.heap.size W1 w4 := b2.trans (hb4.mono b2.size)
           have HV4 := Lib.hid (show IsP w4 v4 (l ++ l) by simpa using ho4.isP')
           have HVL := Lib.hid (HV.out.below b4)
           have HU4 := Lib.hid (HU.out.below b4)
           have hz4 : W.heap.size < w4.heap.size := by have := b4.size; omega
           obtain ⟨c0, c1, c2⟩ := HC.out _ b4
           have HF := Lib.hid (show ∀ w' : World, Below w4.heap.size w4 w' → (Below w4.heap.size w4 w' ∧ w'.cell? ⟨W.heap.size, 0, none⟩ = some (.int .i64 r.area) ∧ w'.cell? ⟨W.heap.size, 1, none⟩ = some (.int .i64 r.job) ∧ w'.cell? ⟨W.heap.size, 2, none⟩ = some (.int .i64 r.sex)) from
             fun w' h => ⟨h, (h.cell (p := ⟨W.heap.size, 0, none⟩) hz4).trans c0, (h.cell (p := ⟨W.heap.size, 1, none⟩) hz4).trans c1, (h.cell (p := ⟨W.heap.size, 2, none⟩) hz4).trans c2⟩)
           clear ho3 hg3 ho4 hg4 hb3 o0 b0' hrow2 c0 c1 c2))
      have bd : Below w4.heap.size w4 w4.drew := (Below.refl _ _).drew
      have hwr : IntKind.i64.wrap (2 * (L : Int)) = 2 * (L : Int) := IntWalk.i64_in _ (by omega)
      go_region_held3 (fun w' => Below w4.heap.size w4 w' ∧ w'.cell? ⟨W.heap.size, 0, none⟩ = some (.int .i64 r.area) ∧ w'.cell? ⟨W.heap.size, 1, none⟩ = some (.int .i64 r.job) ∧ w'.cell? ⟨W.heap.size, 2, none⟩ = some (.int .i64 r.sex))
        (first | exact HF.out _ (by assumption) | exact HF.out _ bd)
        (first
          | (go_at_call 19
             refine (iGUniq_is w4 _ v4 HV4.out ll _ HU4.out r _ HU2.out _ bd).mono ?_
             rintro e w5 ⟨rfl, b5⟩)
          | (go_at_call 16
             with_reducible refine (iGLeast_is w4 _ v4 HV4.out ll _ HU4.out r _ HL2.out _ b5).mono ?_
             rintro e w6 ⟨rfl, b6⟩)
          | (go_at_call 16
             with_reducible refine (iGLeast_is w4 l _ HVL.out ll _ HU4.out r _ HL1.out _ b6).mono ?_
             rintro e w7 ⟨rfl, b7⟩)
          | (go_at_call 14
             with_reducible refine (iGMany_is w4 _ v4 HV4.out ll _ HU4.out r _ HM2.out _ b7).mono ?_
             rintro e w8 ⟨rfl, b8⟩)
          | (go_at_call 14
             with_reducible refine (iGMany_is w4 l _ HVL.out ll _ HU4.out r _ HM1.out _ b8).mono ?_
             rintro e w9 ⟨rfl, b9⟩))
      go_wp2
      go_ret
      exact ⟨by first | rfl | exact retb (by simp), HB.out.trans ((b4.trans (b9.mono b4.size)).mono HB.out.size)⟩
set_option maxHeartbeats 4000000 in
theorem w_GroupManyAdd (A : Option Addr) (n c : Nat) (hnc : n ≤ c) (hn : n ≤ maxLen) (A2 : Option Addr) (m c2 : Nat) (_hmc : m ≤ c2) (hm : m ≤ maxLen) (w : World) (hb : Bytes w w.heap.size A n) (_hb2 : Bytes w w.heap.size A2 m) :
    Calls Try.prog 7 #[.slice A n c, .slice A2 m c2] w fun e w' => e = .returned (.bool true) ∧ Below w.heap.size w w' := by
  have hn2 := hn
  have hm2 := hm
  unfold maxLen at hn2 hm2
  rcases (show 1048576 < n ∨ (¬ 1048576 < n ∧ 1048576 < m) ∨ ¬ 1048576 < n ∧ ¬ 1048576 < m by omega) with hbig | ⟨hbig, hbig2⟩ | ⟨hbig, hbig2⟩
  · go_enter Try.func7, Try.ntmps7
    go_wp2
    go_ret
    exact ⟨rfl, Below.refl _ _⟩
  · go_enter Try.func7, Try.ntmps7
    go_wp2
    go_ret
    exact ⟨rfl, Below.refl _ _⟩
  · go_enter Try.func7, Try.ntmps7
    go_wp2_with fail
    refine ((dGroupMany_any A n c hnc hn _ hb).mono fun _ _ h => h.byW).mono ?_
    rintro e W ⟨l, v, ll, u, r, rfl, hv, hu, hl, hll, _, _, hbW⟩
    obtain ⟨W1, hW⟩ : ∃ W1, W1 = W.alloc (.cells #[.int .i64 r.area, .int .i64 r.job, .int .i64 r.sex] TRc) := ⟨_, rfl⟩
    have hb1 : Below W.heap.size W W1 := by rw [hW]; exact (Below.refl _ _).alloc (Nat.le_refl _) _
    have hzW : W.heap.size < W1.heap.size := by rw [hW]; simp
    have e0 : W1.cell? ⟨W.heap.size, 0, none⟩ = some (.int .i64 r.area) := by rw [hW]; simp [go_sem]
    have e1 : W1.cell? ⟨W.heap.size, 1, none⟩ = some (.int .i64 r.job) := by rw [hW]; simp [go_sem]
    have e2 : W1.cell? ⟨W.heap.size, 2, none⟩ = some (.int .i64 r.sex) := by rw [hW]; simp [go_sem]
    have HC := Lib.hid (show ∀ w', Below W1.heap.size W1 w' → w'.cell? ⟨W.heap.size, 0, none⟩ = some (.int .i64 r.area) ∧ w'.cell? ⟨W.heap.size, 1, none⟩ = some (.int .i64 r.job) ∧ w'.cell? ⟨W.heap.size, 2, none⟩ = some (.int .i64 r.sex) from
      fun w' h => ⟨(h.cell (p := ⟨W.heap.size, 0, none⟩) hzW).trans e0, (h.cell (p := ⟨W.heap.size, 1, none⟩) hzW).trans e1, (h.cell (p := ⟨W.heap.size, 2, none⟩) hzW).trans e2⟩)
    have HV := Lib.hid (hv.below hb1)
    have HU := Lib.hid (hu.below hb1)
    have HB := Lib.hid (hbW.trans (hb1.mono hbW.size))
    have b0 := Below.refl W1.heap.size W1
    clear e0 e1 e2 hv hu hbW hb hb1
    rcases (show gmany l ll r < 0 ∨ 0 ≤ gmany l ll r by omega) with hneg | hg0
    · have HG := Lib.hid (gmany_no hneg)
      clear hneg
      go_wp2_with fail
      rw [← hW]
      clear hW
      refine (iGMany_is W1 l _ HV.out ll _ HU.out r (-1) HG.out _ b0).mono ?_
      rintro e w1 ⟨rfl, b1⟩
      obtain ⟨c0, c1, c2⟩ := HC.out _ b1
      go_wp2_with fail
      refine (sGMany_is W1 l _ HV.out ll _ HU.out r (-1) HG.out _ b1).mono ?_
      rintro e w2 ⟨rfl, b2⟩
      go_wp2
      go_ret
      exact ⟨by first | rfl | exact retb (by simp) | exact retb (by simp; omega), HB.out.trans (b2.mono HB.out.size)⟩
    · obtain ⟨g, hg⟩ : ∃ g, gmany l ll r = g := ⟨_, rfl⟩
      have hok := gmany_in hg0
      obtain ⟨p, hp⟩ : ∃ p : Pn, p = ⟨(m : Int) % 4, (m : Int) / 4 % 4, (m : Int) / 16 % 2, 0⟩ := ⟨_, rfl⟩
      have hpo : okP p = true := by rw [hp]; simp [okP, inC]; omega
      obtain ⟨e1, e2, e3, e4⟩ : (m : Int) % 4 = p.area ∧ (m : Int) / 4 % 4 = p.job ∧ (m : Int) / 16 % 2 = p.sex ∧ (0 : Int) = p.pay := by rw [hp]; exact ⟨rfl, rfl, rfl, rfl⟩
      have hS := m_manyAdd hok hpo (by omega)
      rw [hg] at hS hg0
      obtain ⟨s, hs⟩ : ∃ s, gmany (l ++ [p]) ll r = s := ⟨_, rfl⟩
      rw [hs] at hS
      have HS := Lib.hid hs
      have hgl : g ≤ 40 := by rw [← hg, gmany_at hok]; have := many1_le (keysOf l ll r); rw [keysOf_len] at this; omega
      have E1 := Lib.hid e1; have E2 := Lib.hid e2; have E3 := Lib.hid e3; have E4 := Lib.hid e4
      have HG := Lib.hid hg
      clear hg hs hp hpo e1 e2 e3 e4 hok
      obtain ⟨Au, cu, hu2, _, _, _⟩ := HU.out
      subst hu2
      obtain ⟨Av, cv, hv2, hd1, hd2, hrow1⟩ := HV.out
      subst hv2
      have hlb2 : ((l.length : Int) == 40) = false := by rw [beq_eq_false_iff_ne]; omega
      go_wp2_with fail
      rw [← hW]
      clear hW
      refine (iGMany_is W1 l _ HV.out ll _ HU.out r _ HG.out _ b0).mono ?_
      rintro e w1 ⟨rfl, b1⟩
      obtain ⟨c0, c1, c2⟩ := HC.out _ b1
      go_wp2_with fail
      refine (sGMany_is W1 l _ HV.out ll _ HU.out r _ HG.out _ b1).mono ?_
      rintro e w2 ⟨rfl, b2⟩
      clear c0 c1 c2
      obtain ⟨c0, c1, c2⟩ := HC.out _ b2
      clear c0 c1 c2
      go_wp2_with fail
      rw [E1.out, E2.out, E3.out]
      obtain ⟨W5, hW5⟩ : ∃ W5, W5 = w2.alloc (.cells #[.int .i64 p.area, .int .i64 p.job, .int .i64 p.sex, .int .i64 0] TP) := ⟨_, rfl⟩
      rw [← hW5]
      have hb5 : Below w2.heap.size w2 W5 := by rw [hW5]; exact (Below.refl _ _).alloc (Nat.le_refl _) _
      have hQ := Lib.hid (show W5.heap[w2.heap.size]? = some (lit1 p) by rw [hW5, lit1, ← E4.out]; exact heap_alloc_new w2 _)
      have b5 : Below W1.heap.size W1 W5 := b2.trans (hb5.mono b2.size)
      have hrow5 : Row W5 W5.heap.size Av (pcells l) := (hrow1.below b5 (Nat.le_refl _)).more b5.size
      clear hW5 hb5
      generalize w2.heap.size = Q at *
      have hQ5 : Q < W5.heap.size := (Array.getElem?_eq_some_iff.1 hQ.out).1
      have q0 := cell_of_row W5 Q 0 _ _ _ hQ.out
      have q1 := cell_of_row W5 Q 1 _ _ _ hQ.out
      have q2 := cell_of_row W5 Q 2 _ _ _ hQ.out
      have q3 := cell_of_row W5 Q 3 _ _ _ hQ.out
      obtain ⟨c0, c1, c2⟩ := HC.out _ b5
      have hzx : W.heap.size < W5.heap.size := by have := b5.size; omega
      have hwg : IntKind.i64.wrap (g + 1) = g + 1 := IntWalk.i64_in _ (by omega)
      have HF := Lib.hid (show ∀ w' : World, Below W5.heap.size W5 w' → (Below W5.heap.size W5 w' ∧ w'.cell? ⟨Q, 0, none⟩ = some (.int .i64 p.area) ∧ w'.cell? ⟨Q, 1, none⟩ = some (.int .i64 p.job) ∧ w'.cell? ⟨Q, 2, none⟩ = some (.int .i64 p.sex) ∧ w'.cell? ⟨Q, 3, none⟩ = some (.int .i64 p.pay) ∧ w'.cell? ⟨W.heap.size, 0, none⟩ = some (.int .i64 r.area) ∧ w'.cell? ⟨W.heap.size, 1, none⟩ = some (.int .i64 r.job) ∧ w'.cell? ⟨W.heap.size, 2, none⟩ = some (.int .i64 r.sex)) from fun w' h => ⟨h, (h.cell (p := ⟨Q, 0, none⟩) hQ5).trans q0, (h.cell (p := ⟨Q, 1, none⟩) hQ5).trans q1, (h.cell (p := ⟨Q, 2, none⟩) hQ5).trans q2, (h.cell (p := ⟨Q, 3, none⟩) hQ5).trans q3, (h.cell (p := ⟨W.heap.size, 0, none⟩) hzx).trans c0, (h.cell (p := ⟨W.heap.size, 1, none⟩) hzx).trans c1, (h.cell (p := ⟨W.heap.size, 2, none⟩) hzx).trans c2⟩)
      have b0 : Below W5.heap.size W5 W5.drew := (Below.refl _ _).drew
      have bA : Below W5.heap.size W5 ((W5.alloc (.cells #[] TP)).drew) := ((Below.refl _ _).alloc (Nat.le_refl _) _).drew
      have bC : Below W5.heap.size W5 ((W5.alloc (lit1 p)).drew) := ((Below.refl _ _).alloc (Nat.le_refl _) _).drew
      have bAB : Below W5.heap.size W5 (((W5.alloc (.cells #[] TP)).alloc (lit1 p)).drew) := (((Below.refl _ _).alloc (Nat.le_refl _) _).alloc (by simp) _).drew
      have bCB : Below W5.heap.size W5 (((W5.alloc (lit1 p)).alloc (.cells #[] TP)).drew) := (((Below.refl _ _).alloc (Nat.le_refl _) _).alloc (by simp) _).drew
      have oA : Own ((W5.alloc (.cells #[] TP)).drew) W5.heap.size (.slice (some ⟨W5.heap.size, 0, none⟩) 0 0) [] := own_new W5 W5 (Below.refl _ _)
      have oAB : Own (((W5.alloc (.cells #[] TP)).alloc (lit1 p)).drew) W5.heap.size (.slice (some ⟨W5.heap.size, 0, none⟩) 0 0) [] := Own.alloc oA _
      have oCB : Own (((W5.alloc (lit1 p)).alloc (.cells #[] TP)).drew) W5.heap.size (.slice (some ⟨W5.heap.size + 1, 0, none⟩) 0 0) [] := ownA p
      have lAB := Lib.hid (show (((W5.alloc (.cells #[] TP)).alloc (lit1 p)).drew).heap[W5.heap.size + 1]? = some (lit1 p) from heap_alloc2_new W5 _ _)
      have lCB := Lib.hid (show (((W5.alloc (lit1 p)).alloc (.cells #[] TP)).drew).heap[W5.heap.size]? = some (lit1 p) from heap_alloc2_old W5 _ _)
      clear q0 q1 q2 q3 c0 c1 c2
      go_wp2
      go_region_held3 (fun w' => Below W5.heap.size W5 w' ∧ w'.cell? ⟨Q, 0, none⟩ = some (.int .i64 p.area) ∧ w'.cell? ⟨Q, 1, none⟩ = some (.int .i64 p.job) ∧ w'.cell? ⟨Q, 2, none⟩ = some (.int .i64 p.sex) ∧ w'.cell? ⟨Q, 3, none⟩ = some (.int .i64 p.pay) ∧ w'.cell? ⟨W.heap.size, 0, none⟩ = some (.int .i64 r.area) ∧ w'.cell? ⟨W.heap.size, 1, none⟩ = some (.int .i64 r.job) ∧ w'.cell? ⟨W.heap.size, 2, none⟩ = some (.int .i64 r.sex))
        (first | exact HF.out _ (by assumption) | exact HF.out _ b0 | exact HF.out _ bA | exact HF.out _ bC | exact HF.out _ bAB | exact HF.out _ bCB | exact HF.out _ (Below.alloc (by assumption) (Below.size (by assumption)) _))
        (first
          | (refine step_people rfl (.tmp 61) (.tmp 62) rfl W5.heap.size (.slice (some ⟨W5.heap.size, 0, none⟩) 0 0) [] rfl oA W5.heap.size Av l.length cv l rfl rfl (hrow5.below bA (Nat.le_refl _)) (by simp; omega) bA.size ?_
             intro v3 w3 ho3 hg3
             have hb3 : Below W5.heap.size W5 w3 := below_own bA oA hg3)
          | (refine step_people rfl (.tmp 61) (.tmp 62) rfl W5.heap.size (.slice (some ⟨W5.heap.size, 0, none⟩) 0 0) [] rfl oAB W5.heap.size Av l.length cv l rfl rfl (hrow5.below bAB (Nat.le_refl _)) (by simp; omega) bAB.size ?_
             intro v3 w3 ho3 hg3
             have hb3 : Below W5.heap.size W5 w3 := below_own bAB oAB hg3
             have hlit := rowA (Bd := W5.heap.size + 2) (keepA lAB.out hg3 (by simp [Value.ownBlock])) (by omega))
          | (refine step_people rfl (.tmp 61) (.tmp 62) rfl W5.heap.size (.slice (some ⟨W5.heap.size + 1, 0, none⟩) 0 0) [] rfl oCB W5.heap.size Av l.length cv l rfl rfl (hrow5.below bCB (Nat.le_refl _)) (by simp; omega) bCB.size ?_
             intro v3 w3 ho3 hg3
             have hb3 : Below W5.heap.size W5 w3 := below_own bCB oCB hg3
             have hlit := rowA (Bd := W5.heap.size + 2) (keepA lCB.out hg3 (by simp [Value.ownBlock])) (by omega))
          | (refine step_people rfl (.tmp 63) (.tmp 65) rfl W5.heap.size v3 ([] ++ l) (by simp [Act.eval]) (ho3.alloc _) (w3.heap.size + 1) (some ⟨w3.heap.size, 0, none⟩) 1 1 [p] rfl rfl (rowA (heap_alloc_new w3 _) (by omega)) (by simp; omega) (by have := hb3.size; simp; omega) ?_
             intro v4 w4 ho4 hg4
             have hb4 : Below W5.heap.size W5 w4 := below_own (hb3.alloc hb3.size _) (ho3.alloc _) hg4)
          | (refine step_people rfl (.tmp 63) (.tmp 65) rfl W5.heap.size v3 ([] ++ l) (by simp [Act.eval]) ho3 (W5.heap.size + 2) (some ⟨W5.heap.size + 1, 0, none⟩) 1 1 [p] rfl rfl hlit (by simp; omega) hb3.size ?_
             intro v4 w4 ho4 hg4
             have hb4 : Below W5.heap.size W5 w4 := below_own hb3 ho3 hg4)
          | (refine step_people rfl (.tmp 63) (.tmp 65) rfl W5.heap.size v3 ([] ++ l) (by simp [Act.eval]) ho3 (W5.heap.size + 2) (some ⟨W5.heap.size, 0, none⟩) 1 1 [p] rfl rfl hlit (by simp; omega) hb3.size ?_
             intro v4 w4 ho4 hg4
             have hb4 : Below W5.heap.size W5 w4 := below_own hb3 ho3 hg4)
          | (go_at_call 14
             refine (iGMany_is w4 (l ++ [p]) v4 (by simpa using ho4.isP') ll _ (HU.out.below (b5.trans (hb4.mono b5.size))) r s HS.out _ (Below.refl _ _)).mono ?_
             rintro e w5 ⟨rfl, h5⟩
             have h6 : Below W5.heap.size W5 w5 := hb4.trans (h5.mono hb4.size)))
      all_goals
        rcases hS with rfl | rfl
        · go_wp2
          go_ret
          exact ⟨by first | rfl | exact retb (by simp), HB.out.trans ((b5.trans ((hb4.trans (h5.mono hb4.size)).mono b5.size)).mono HB.out.size)⟩
        · have hne : (g + 1 == g) = false := by rw [beq_eq_false_iff_ne]; omega
          go_wp2
          go_ret
          exact ⟨by first | rfl | exact retb (by simp), HB.out.trans ((b5.trans ((hb4.trans (h5.mono hb4.size)).mono b5.size)).mono HB.out.size)⟩
end Go.Proofs.Ytfcbnfemnfnadaa
