/- Contracts of the program: diversity. -/
import Derived.Test.YtaaljmmnfgghfaaDI5
import Derived.Test.YtaaljmmnfgghfaaAI2
namespace Go.Proofs.Ytaaljmmnfgghfaa
open Go.RowKit Go.Maps
theorem key_at {l : List Pn} (ll : List (List Int)) (r : Rc) {j : Nat} (hj : j < l.length) : key ((recL ll r l)[j]'(by rw [recL_len]; exact hj)) = ky ll r l j := by
  have h := getD_rec ll r l j hj
  rw [List.getD_eq_getElem?_getD, List.getElem?_eq_getElem (by rw [recL_len]; exact hj), Option.getD_some] at h
  rw [h]; rfl
theorem ub_rec (l : List Pn) (ll : List (List Int)) (r : Rc) : ub (prs l) = ub (prsOf l ll r) := by
  unfold prsOf ub prs recL
  rw [List.map_map, List.map_map, List.map_map]
  exact List.map_congr_left fun p _ => rfl
theorem at_no {l : List Pn} {ll : List (List Int)} {r : Rc} {k : Int} (h : (grOk l ll r && in3 k 0 (l.length - 1)) = false) : dsize l ll r k = -1 ∧ dfarI l ll r k = -1 := by
  unfold dsize dfarI; rw [if_neg (by rw [h]; simp), if_neg (by rw [h]; simp)]; exact ⟨rfl, rfl⟩
theorem at_yes {l : List Pn} {ll : List (List Int)} {r : Rc} {k : Int} (h : (grOk l ll r && in3 k 0 (l.length - 1)) = true) : grOk l ll r = true ∧ ∃ j : Nat, k = j ∧ j < l.length := by
  simp only [Bool.and_eq_true, in3, decide_eq_true_eq] at h
  exact ⟨h.1, k.toNat, by omega, by omega⟩
set_option maxHeartbeats 1000000 in
theorem iAround_no (W : World) (l : List Pn) (v : Value) (hv : IsP W v l) (ll : List (List Int)) (u : Value) (hu : IsR W u ll) (r : Rc) (k : Int) (hno : (grOk l ll r && in3 k 0 (l.length - 1)) = false) (w : World) (hb : Below W.heap.size W w) :
    Calls Try.prog 26 #[v, u, r.val, .int .i64 k] w (Back (.tuple #[.pointer none, .bool false]) W) := by
  obtain ⟨W1, hW, hb1, hz, hc⟩ := boxed hb r
  have HV := Lib.hid (hv.below hb1)
  have HU := Lib.hid (hu.below hb1)
  have HB1 := Lib.hid hb1
  have HNO := Lib.hid hno
  clear hv hu hb hc hb1 hno
  go_enter Try.func26, Try.ntmps26
  go_wp2_with fail
  rw [← hW]
  clear hW
  refine (iRecP_is W1 l v HV.out ll u HU.out r (recOut l ll r) (grOk l ll r) rfl rfl _ (Below.refl _ _)).mono ?_
  rintro e w2 ⟨x, rfl, hx, h2⟩
  have HB2 := Lib.hid (HB1.out.trans (h2.mono HB1.out.size))
  clear h2
  cases hok : grOk l ll r
  · clear hok hx
    go_wp2
    go_ret2
    exact ⟨rfl, HB2.out⟩
  have hxi : IsP w2 x (recL ll r l) := by have h := hx.is; rwa [recOut, if_pos hok] at h
  obtain ⟨A, c, rfl, _, _, _⟩ := hxi
  have hl := recL_len ll r l
  obtain ⟨q, hq⟩ : ∃ q, (recL ll r l).length = q := ⟨_, rfl⟩
  have hno := HNO.out
  rw [hok, Bool.true_and, in3] at hno
  simp only [Bool.and_eq_false_iff, decide_eq_false_iff_not] at hno
  rw [hq] at hl ⊢
  rw [← hl] at hno
  clear hx hok hq hl
  by_cases hk0 : k < 0
  · clear hno
    go_wp2
    go_ret2
    exact ⟨rfl, HB2.out⟩
  · have hkq : (q : Int) ≤ k := by omega
    have hkq2 : ¬ k < (q : Int) := by omega
    clear hno
    go_wp2
    go_ret2
    exact ⟨rfl, HB2.out⟩
set_option maxHeartbeats 1000000 in
theorem iAround_yes (W : World) (l : List Pn) (v : Value) (hv : IsP W v l) (ll : List (List Int)) (u : Value) (hu : IsR W u ll) (r : Rc) (hok : grOk l ll r = true) (k : Nat) (hk : k < l.length) (m : List Int) (hm : rowB (prsOf l ll r) (ky ll r l k) = m) (w : World) (hb : Below W.heap.size W w) :
    Calls Try.prog 26 #[v, u, r.val, .int .i64 k] w fun e w' => ∃ B, e = .returned (.tuple #[.pointer (some ⟨B, 0, none⟩), .bool true]) ∧ BB w' B m ∧ Below W.heap.size W w' := by
  obtain ⟨W1, hW, hb1, hz, hc⟩ := boxed hb r
  have HV := Lib.hid (hv.below hb1)
  have HU := Lib.hid (hu.below hb1)
  have HB1 := Lib.hid hb1
  have HM := Lib.hid hm
  clear hv hu hb hc hb1 hm
  go_enter Try.func26, Try.ntmps26
  go_wp2_with fail
  rw [← hW]
  clear hW
  refine (iRecP_is W1 l v HV.out ll u HU.out r (recOut l ll r) (grOk l ll r) rfl rfl _ (Below.refl _ _)).mono ?_
  rintro e w2 ⟨x, rfl, hx, h2⟩
  have HB2 := Lib.hid (HB1.out.trans (h2.mono HB1.out.size))
  clear h2
  have hxi : IsP w2 x (recL ll r l) := by have h := hx.is; rwa [recOut, if_pos hok] at h
  have HKY := Lib.hid (key_at ll r hk)
  have HXO := Lib.hid (recL_ok hok)
  have hlen := recL_len ll r l
  rw [prsOf] at HM
  clear hx
  obtain ⟨X, hX⟩ : ∃ X, recL ll r l = X := ⟨_, rfl⟩
  have hkx : k < X.length := by rw [← hX, hlen]; exact hk
  have HKX := Lib.hid (show key X[k] = ky ll r l k by have h := HKY.out; simp only [hX] at h; exact h)
  rw [hX] at hxi HM HXO
  clear HKY hlen
  obtain ⟨Ax, cx, rfl, hx1, hx2, hx3⟩ := hxi
  obtain ⟨q, hq⟩ : ∃ q, q = X.length := ⟨_, rfl⟩
  have HXL := Lib.hid hq
  have HRX := Lib.hid hx3
  have hkq : (k : Int) < (q : Int) := by omega
  rw [← hq, hok]
  clear hq hx1 hx2 hx3 hX hk hok
  obtain ⟨bq, o, rfl, hbw, c0, c1, c2', c3⟩ := HRX.out.at_ k hkx
  have HIN := Lib.hid (show key X[k] ∈ (prs X).map Prod.fst by rw [prs_keys]; exact List.mem_map.2 ⟨_, List.getElem_mem hkx, rfl⟩)
  obtain ⟨p, hp⟩ : ∃ p, X[k] = p := ⟨_, rfl⟩
  rw [hp] at c0 c1 c2' c3 HKX HIN
  rw [← HKX.out] at HM
  clear hp hkx HKX
  have HF := Lib.hid (show ∀ w' : World, Below w2.heap.size w2 w' → (Below w2.heap.size w2 w' ∧ w'.cell? ⟨bq, o + k * 4, none⟩ = some (.int .i64 p.area) ∧ w'.cell? ⟨bq, o + k * 4 + 1, none⟩ = some (.int .i64 p.job) ∧ w'.cell? ⟨bq, o + k * 4 + 2, none⟩ = some (.int .i64 p.sex) ∧ w'.cell? ⟨bq, o + k * 4 + 3, none⟩ = some (.int .i64 p.pay)) from
    fun w' h => ⟨h, (h.cell hbw).trans c0, (h.cell hbw).trans c1, (h.cell hbw).trans c2', (h.cell hbw).trans c3⟩)
  have HB0 := Lib.hid (show Below w2.heap.size w2 w2.drew from (Below.refl _ _).drew)
  clear c0 c1 c2' c3 hbw
  go_wp2
  go_region_held3 (fun w' => Below w2.heap.size w2 w' ∧ w'.cell? ⟨bq, o + k * 4, none⟩ = some (.int .i64 p.area) ∧ w'.cell? ⟨bq, o + k * 4 + 1, none⟩ = some (.int .i64 p.job) ∧ w'.cell? ⟨bq, o + k * 4 + 2, none⟩ = some (.int .i64 p.sex) ∧ w'.cell? ⟨bq, o + k * 4 + 3, none⟩ = some (.int .i64 p.pay))
    (first | exact HF.out _ HB0.out | exact HF.out _ HBc.out | exact HF.out _ HBs.out | assumption)
    (first
      | (go_at_call 33
         have HBn := Lib.hid (And.left (by assumption))
         refine (iCodes_any p _).mono ?_
         rintro e wc ⟨rfl, hc⟩
         have HBc := Lib.hid (HBn.out.trans (hc.mono HBn.out.size))
         first | (have r2 : (Instr.lookup TMp (.map (some w2.heap.size)) (.agg #[.int .i64 p.area, .int .i64 p.job, .int .i64 p.sex]) false).run Try.prog wc = .ok (.pointer (some ⟨B, 0, none⟩)) wc := HLK.out wc (hc.block _ HLT.out)
                  have HEND := Lib.hid (HBB.out.keep (hc.block _ HBB.out.lt))) | skip
         clear hc HBn)
      | (go_at_call 40
         have HBn := Lib.hid (And.left (by assumption))
         refine (iGroups_any X _ HXL.out HXO.out _ cx _ (HRX.out.moved HBn.out)).mono ?_
         rintro e ws ⟨rfl, hgs, hs⟩
         have HBs := Lib.hid (HBn.out.trans (hs.mono HBn.out.size))
         obtain ⟨B, hbB, hBB, hlk, hadd⟩ := hgs.in_ HIN.out
         have HLK := Lib.hid hlk
         have HLT := Lib.hid hgs.lt
         have HBB := Lib.hid hBB
         have r1 := HLK.out ws rfl
         clear hs hgs HBn hlk hadd hBB))
  all_goals
    go_wp2
    go_ret2
    exact ⟨B, rfl, by rw [← HM.out]; first | exact HEND.out | exact HBB.out, HB2.out.trans (Below.mono (And.left (by assumption)) HB2.out.size)⟩
theorem row_nn (l : List Pn) (ll : List (List Int)) (r : Rc) (j : Nat) : ∀ v ∈ rowB (prsOf l ll r) (ky ll r l j), 0 ≤ v := rowB_nn _ _
set_option maxHeartbeats 1000000 in
theorem iDSize_is (W : World) (l : List Pn) (v : Value) (hv : IsP W v l) (ll : List (List Int)) (u : Value) (hu : IsR W u ll) (r : Rc) (k : Int) (g : Int) (hg : dsize l ll r k = g) (w : World) (hb : Below W.heap.size W w) :
    Calls Try.prog 14 #[v, u, r.val, .int .i64 k] w (Back (.int .i64 g) W) := by
  obtain ⟨W1, hW, hb1, hz, hc⟩ := boxed hb r
  have HV := Lib.hid (hv.below hb1)
  have HU := Lib.hid (hu.below hb1)
  have HB1 := Lib.hid hb1
  have HG := Lib.hid hg
  clear hv hu hb hc hb1 hg
  cases hok : grOk l ll r && in3 k 0 (l.length - 1)
  · have HE := Lib.hid (show g = -1 by rw [← HG.out]; exact (at_no hok).1)
    have HOK := Lib.hid hok
    clear hok
    go_enter Try.func14, Try.ntmps14
    go_wp2_with fail
    rw [← hW]
    clear hW
    refine (iAround_no W1 l v HV.out ll u HU.out r k HOK.out _ (Below.refl _ _)).mono ?_
    rintro e w2 ⟨rfl, h2⟩
    have HB2 := Lib.hid (HB1.out.trans (h2.mono HB1.out.size))
    clear h2
    go_wp2
    go_ret
    exact ⟨reti HE.out.symm, HB2.out⟩
  · obtain ⟨hgr, j, rfl, hj⟩ := at_yes hok
    have HE := Lib.hid (show manyI (rowB (prsOf l ll r) (ky ll r l j)) = g by rw [manyI_row, ← HG.out, dsize_at hgr hj]; rfl)
    have HOK := Lib.hid hgr
    have HJ := Lib.hid hj
    clear hok hgr hj
    go_enter Try.func14, Try.ntmps14
    go_wp2_with fail
    rw [← hW]
    clear hW
    refine (iAround_yes W1 l v HV.out ll u HU.out r HOK.out j HJ.out _ rfl _ (Below.refl _ _)).mono ?_
    rintro e w2 ⟨B, rfl, hBB, h2⟩
    have HB2 := Lib.hid (HB1.out.trans (h2.mono HB1.out.size))
    have HBB := Lib.hid hBB
    clear h2 hBB
    go_wp2_with fail
    refine (iDiff_any _ (rowB_len _ _) (row_nn l ll r j) g HE.out B w2 HBB.out).mono ?_
    rintro e w' ⟨rfl, rfl⟩
    go_wp2
    go_ret
    exact ⟨rfl, HB2.out⟩
set_option maxHeartbeats 1000000 in
theorem iDFar_is (W : World) (l : List Pn) (v : Value) (hv : IsP W v l) (ll : List (List Int)) (u : Value) (hu : IsR W u ll) (r : Rc) (k : Int) (g : Int) (hg : dfarI l ll r k = g) (w : World) (hb : Below W.heap.size W w) :
    Calls Try.prog 17 #[v, u, r.val, .int .i64 k] w (Back (.int .i64 g) W) := by
  obtain ⟨W1, hW, hb1, hz, hc⟩ := boxed hb r
  have HV := Lib.hid (hv.below hb1)
  have HU := Lib.hid (hu.below hb1)
  have HB1 := Lib.hid hb1
  have HG := Lib.hid hg
  clear hv hu hb hc hb1 hg
  cases hok : grOk l ll r && in3 k 0 (l.length - 1)
  · have HE := Lib.hid (show g = -1 by rw [← HG.out]; exact (at_no hok).2)
    have HOK := Lib.hid hok
    clear hok
    go_enter Try.func17, Try.ntmps17
    go_wp2_with fail
    rw [← hW]
    clear hW
    refine (iAround_no W1 l v HV.out ll u HU.out r k HOK.out _ (Below.refl _ _)).mono ?_
    rintro e w2 ⟨rfl, h2⟩
    have HB2 := Lib.hid (HB1.out.trans (h2.mono HB1.out.size))
    clear h2
    go_wp2
    go_ret
    exact ⟨reti HE.out.symm, HB2.out⟩
  · obtain ⟨hgr, j, rfl, hj⟩ := at_yes hok
    have HE := Lib.hid (show ((dfar (prsOf l ll r) (ky ll r l j) : Nat) : Int) = g by rw [← HG.out, dfarI_at hgr hj]; rfl)
    have HOK := Lib.hid hgr
    have HJ := Lib.hid hj
    have HLO := Lib.hid (gr_parts.1 hgr).1
    have HBN := Lib.hid (prsOf_bn hgr)
    have HPL := Lib.hid (show (prsOf l ll r).length ≤ 40 by rw [prsOf_len]; exact (okL_all (gr_parts.1 hgr).1).1)
    clear hok hgr hj
    go_enter Try.func17, Try.ntmps17
    go_wp2_with fail
    rw [← hW]
    clear hW
    refine (iAround_yes W1 l v HV.out ll u HU.out r HOK.out j HJ.out _ rfl _ (Below.refl _ _)).mono ?_
    rintro e w2 ⟨B, rfl, hBB, h2⟩
    have HB2 := Lib.hid (HB1.out.trans (h2.mono HB1.out.size))
    have HBB := Lib.hid hBB
    have hv2 := HV.out.below h2
    obtain ⟨A, c, rfl, a1, a2, a3⟩ := hv2
    obtain ⟨q, hq⟩ : ∃ q, q = l.length := ⟨_, rfl⟩
    have HQ := Lib.hid hq
    have HR := Lib.hid a3
    rw [← hq]
    clear h2 hBB a1 a2 a3 hq
    go_wp2_with fail
    refine (iCount_any l q HQ.out HLO.out A c w2 HR.out).mono ?_
    rintro e w3 ⟨rfl, hCC, h3⟩
    rw [ub_rec l ll r] at hCC
    have HCC := Lib.hid hCC
    have HB3 := Lib.hid (HBB.out.keep (h3.block _ HBB.out.lt))
    have HW3 := Lib.hid (HB2.out.trans (h3.mono HB2.out.size))
    clear h3 hCC
    go_wp2_with fail
    refine (iFar_any (prsOf l ll r) HBN.out HPL.out (ky ll r l j) g HE.out B w2.heap.size w3 HB3.out HCC.out).mono ?_
    rintro e w4 ⟨rfl, h4⟩
    have HW4 := Lib.hid (HW3.out.trans (h4.mono HW3.out.size))
    clear h4
    go_wp2
    go_ret
    exact ⟨rfl, HW4.out⟩
section
variable (w : World) {ops : Array Oper} {rest : List Oper} {o : Oper} {a : Act} {Q : Exit → Act → World → Prop}
theorem next_ptr (hg : o.guard = none) (it : Operand) (hop : o.op = Op.next it false) (b r n : Nat) (D : Dm) (left : Lit → Bool) (cnt : Nat) (x : List Key) (f : Key → Nat) (hit : a.eval it = .pointer (some ⟨r, 0, none⟩)) (h : w.ranges Try.prog TK ePtr b r n D left cnt) (ht : PTells D x f)
    (hDone : (∀ l, left l = false) → wpList Try.prog ops Q rest (a.put o.dst (.tuple #[.bool false])) w)
    (hMore : ∀ (q : Key) (w' : World) (cnt' : Nat), wfK q → q ∈ x → left (kl q) = true → w'.ranges Try.prog TK ePtr b r n D (fun z => left z && !z.sameKey (kl q)) cnt' → cnt' < cnt → w.grownBy w' (some r) →
      (Instr.entry (.pointer (some ⟨r, 0, none⟩))).run Try.prog w' = .ok (.tuple #[kv q, .pointer (some ⟨f q, 0, none⟩)]) w' → wpList Try.prog ops Q rest (a.put o.dst (.tuple #[.bool true, kv q, .pointer (some ⟨f q, 0, none⟩)])) w') :
    wpList Try.prog ops Q (o :: rest) a w :=
  wpList_next_ranges w hg it hop TK kLaw ePtr kv (fun v : Value => v) (fun key l hkey => by obtain ⟨q, e, _⟩ := kInv hkey; exact ⟨q, e⟩) (fun v y _ => ⟨v, rfl⟩)
    b r n D left cnt hit h (fun _ hl => hDone hl) (fun q c l y w' cnt' hkey hlk hv hat hrg hlt hgr _ hen => by
      obtain ⟨q', e1, hq, rfl⟩ := kInv hkey
      have e2 : q = q' := by
        obtain ⟨q1, q2, q3⟩ := q
        obtain ⟨p1, p2, p3⟩ := q'
        simpa using e1
      subst e2
      have hin : q ∈ x := by have h1 := Maps.has_true_of_atKey hat; rw [ht.has q hq] at h1; simpa using h1
      have e4 := hat .nil
      rw [ht.at_ q hq, if_pos hin] at e4
      rcases ePtr_inv hv with ⟨_, rfl⟩ | ⟨c', rfl, rfl⟩
      · simp at e4
      · have e5 : f q = c' := by simp at e4; omega
        subst e5
        exact hMore q w' cnt' hq hin hlk hrg hlt hgr hen)
end
end Go.Proofs.Ytaaljmmnfgghfaa
