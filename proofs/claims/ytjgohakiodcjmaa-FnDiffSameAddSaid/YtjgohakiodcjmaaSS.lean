/- The model's differences of people. -/
import Derived.Test.YtjgohakiodcjmaaPF
import Derived.Test.YtjgohakiodcjmaaIP2
import Derived.Test.YtjgohakiodcjmaaIM6
import Derived.BigQuiet
set_option maxRecDepth 100000
namespace Go.Proofs.Ytjgohakiodcjmaa
open Go.RowKit
theorem set_at {α : Type} (l : List α) (i j : Nat) (x : α) (h : i ≠ j) : (l.set i x)[j]? = l[j]? := by rw [List.getElem?_set_ne h]
theorem pn_ne {p q : Pn} (h : ¬ p = q) : ¬ p.area = q.area ∨ ¬ p.job = q.job ∨ ¬ p.sex = q.sex ∨ ¬ p.pay = q.pay := by
  obtain ⟨a, b, c, d⟩ := p
  obtain ⟨e, f, g, i⟩ := q
  simp only [Pn.mk.injEq] at h
  simp only
  omega
theorem bcells_at {us : List Bool} {k : Nat} {f : Bool} (h : us[k]? = some f) : (bcells us)[k]? = some (.bool f) := by
  simp [bcells, h]
theorem bcells_set (us : List Bool) (k : Nat) (f : Bool) : (bcells us).set k (.bool f) = bcells (us.set k f) := by simp [bcells, List.map_set]
theorem sPV_is (W : World) (l : List Pn) (v : Value) (hv : IsP W v l) (g : Bool) (hg : okL l = g) (w : World) (hb : Below W.heap.size W w) :
    Calls Try.prog 31 #[v] w (Back (.bool g) W) := by
  obtain ⟨A, c, rfl, h1, h2, h3⟩ := hv.below hb
  rw [← hg]
  exact (sValid_any l A c w h3 (Nat.le_trans h1 h2)).mono fun e w' h => ⟨h.1, hb.trans (h.2.mono hb.size)⟩
set_option maxRecDepth 100000 in
set_option maxHeartbeats 2000000 in
theorem sSame_is (W : World) (a : List Pn) (v : Value) (hv : IsP W v a) (b : List Pn) (v2 : Value) (hv2 : IsP W v2 b) (ha4 : a.length ≤ 40) (hb4 : b.length ≤ 40) (g : Int) (hg : (smN a b : Nat) = g) (w : World) (hb : Below W.heap.size W w) :
    Calls Try.prog 39 #[v, v2] w (Back (.int .i64 g) W) := by
  have HG := Lib.hid (show ((smN b a : Nat) : Int) = g by rw [smN_comm]; exact hg)
  have HB0 := Lib.hid hb
  have hW0 := hb.size
  have hv0 := hv.below hb
  have hu0 := hv2.below hb
  clear hv hv2 hb hg
  obtain ⟨A, c, rfl, _, _, a3⟩ := hv0
  obtain ⟨A', c', rfl, _, _, e3⟩ := hu0
  obtain ⟨q, hq⟩ : ∃ q, q = a.length := ⟨_, rfl⟩
  obtain ⟨n, hn⟩ : ∃ n, n = b.length := ⟨_, rfl⟩
  have HQ := Lib.hid hq
  have HN := Lib.hid hn
  have HA := Lib.hid a3
  have HS := Lib.hid e3
  rw [← hq] at ha4 ⊢
  rw [← hn] at hb4 ⊢
  obtain ⟨i0, hi0, hz0, hs0, hs1⟩ := info_parts (P := Try.prog) (e := TBo) (z := (Value.bool false)) (size := 1) (bytes := 1) (by kernel_rfl)
  clear a3 e3 hq hn
  go_enter Try.func39, Try.ntmps39
  go_wp2_with (at_make
               go_loud (refine wpList_make_full _ rfl _ _ 88 rfl w.heap.size TBo i0 (Value.bool false) 1 Try.underlying88 hi0 hz0 hs0 _ _ _ _ n rfl rfl rfl rfl (by rw [hs1]; omega) (by simp only [maxLen]; omega) (Nat.le_refl _) ?_)
               intro w1 ho hg
               have ho1 : Own1 TBo w1 w.heap.size (.slice (some ⟨w.heap.size, 0, none⟩) n n) (bcells (zerowM n)) := by
                 have h := ho
                 have e : ((Value.bool false)).cells = #[(Value.bool false)] := rfl
                 rw [e, made_one] at h
                 unfold Own1
                 rw [zerowM_cells, List.length_replicate]; exact h
               have HB1 := Lib.hid (show Below w.heap.size w w1 from (Below.refl _ _).grown hg (Nat.le_refl _) (fun k hk => by cases hk))
               have HO1 := Lib.hid ho1
               clear ho ho1 hg)
  go_loopw [6, 7] (fun s i wr => ∃ (k m : Nat) (us : List Bool), k ≤ q ∧ i = .int .i64 k ∧ s = .int .i64 m ∧ us.length = n ∧ m + smN (unu b us) (a.drop k) = smN b a ∧ m ≤ k ∧ Own1 TBo wr w.heap.size (.slice (some ⟨w.heap.size, 0, none⟩) n n) (bcells us) ∧ Below w.heap.size w wr) (fun _ i _ => q - (intOf i).toNat)
  case atStart => exact ⟨0, 0, zerowM n, Nat.zero_le _, rfl, rfl, by simp [zerowM], by rw [zerowM, HN.out, unu_all]; simp, Nat.le_refl _, HO1.out, HB1.out⟩
  case round =>
    obtain ⟨k, m, us, hk, rfl, rfl, hul, hsum, hmk, ho, hb⟩ := hrel
    clear HO1 HB1
    by_cases hlt : k < q
    · have hki : (k : Int) < (q : Int) := by omega
      have hka : k < a.length := by rw [← HQ.out]; exact hlt
      obtain ⟨x, hx⟩ : ∃ x, a[k] = x := ⟨_, rfl⟩
      have HGA := Lib.hid (show a[k]? = some x by rw [List.getElem?_eq_getElem hka, hx])
      have HXE := Lib.hid (show ∀ h : k < a.length, a[k]'h = x from fun _ => hx)
      have HKA := Lib.hid hka
      have HUL := Lib.hid hul
      have HSUM := Lib.hid hsum
      have HO := Lib.hid ho
      have HB := Lib.hid hb
      clear hx hka hul hsum ho hb
      go_wp2
      go_loopw [6, 8] (fun s j wr => ∃ l : Nat, l ≤ n ∧ s = .int .i64 m ∧ j = .int .i64 l ∧ (∀ i, i < l → us[i]? = some true ∨ ∃ z, b[i]? = some z ∧ z ≠ x) ∧ Own1 TBo wr w.heap.size (.slice (some ⟨w.heap.size, 0, none⟩) n n) (bcells us) ∧ Below w.heap.size w wr) (fun _ j _ => n - (intOf j).toNat)
      case atStart => exact ⟨0, Nat.zero_le _, rfl, rfl, fun i hi => absurd hi (by omega), HO.out, HB.out⟩
      case round =>
        obtain ⟨l, hl, rfl, rfl, hpre, ho, hb⟩ := hrel
        clear HO HB
        have HPRE := Lib.hid hpre
        have HO := Lib.hid ho
        have HB := Lib.hid hb
        clear hpre
        by_cases hln : l < n
        · have hli : (l : Int) < (n : Int) := by omega
          have hlu : l < us.length := by rw [HUL.out]; exact hln
          have hlb : l < b.length := by rw [← HN.out]; exact hln
          obtain ⟨f, hf⟩ : ∃ f, us[l]? = some f := ⟨_, List.getElem?_eq_getElem hlu⟩
          have HF := Lib.hid hf
          obtain ⟨e0, e1⟩ := ho.cellAt l (by simpa [bcells] using hlu)
          rw [bcells_at hf] at e0
          cases f
          · obtain ⟨b1, o1, hA1, _, p0, p1, p2, p3⟩ := (HA.out.below hb (Nat.le_refl _)).at_ k HKA.out
            obtain ⟨b2, o2, hA2, _, q0, q1, q2, q3⟩ := (HS.out.below hb (Nat.le_refl _)).at_ l hlb
            subst hA1 hA2
            have hgb : b[l]? = some b[l] := List.getElem?_eq_getElem hlb
            have HGB := Lib.hid hgb
            obtain ⟨y, hy⟩ : ∃ y, b[l] = y := ⟨_, rfl⟩
            rw [HXE.out HKA.out] at p0 p1 p2 p3
            rw [hy] at q0 q1 q2 q3 HGB
            clear hf hgb hy hlu hlb ho hb
            by_cases hxy : x = y
            · subst hxy
              have HHIT := Lib.hid (unu_hit b us l x HGB.out HF.out HPRE.out)
              go_wp2
              go_quiet (fail)
              have HB2 := Lib.hid (below_draws HB.out nq)
              have HO2 := Lib.hid (show Own1 TBo (wr.drewN nq) w.heap.size (.slice (some ⟨w.heap.size, 0, none⟩) n n) (bcells us) from HO.out)
              obtain ⟨Y, hY⟩ : ∃ Y, Y = wr.drewN nq := ⟨_, rfl⟩
              rw [← hY] at HB2 HO2 ⊢
              obtain ⟨z0, z1⟩ := HO2.out.cellAt l (by simp [bcells, HUL.out]; omega)
              rw [bcells_at HF.out] at z0
              have HO3 := Lib.hid (HO2.out.setAt l (.bool true))
              rw [bcells_set] at HO3
              have HB3 := Lib.hid (HB2.out.setCell (p := ⟨w.heap.size, l, none⟩) (Nat.le_refl _) (.bool true))
              have HSM := Lib.hid (show (m + 1) + smN (unu b (us.set l true)) (a.drop (k + 1)) = smN b a by
                have h1 := smN_drop_hit HGA.out (r := unu b us) HHIT.out.1
                have h2 := HSUM.out
                rw [HHIT.out.2]
                rw [h1] at h2
                rw [← h2, Nat.add_assoc, Nat.add_comm 1])
              have HLS := Lib.hid (show (us.set l true).length = n by rw [List.length_set, HUL.out])
              clear hY p0 p1 p2 p3 q0 q1 q2 q3 e0 e1
              go_wp2
              go_roundw
              case rel => exact ⟨k + 1, m + 1, us.set l true, by omega, by go_num, by go_num, HLS.out, HSM.out, by omega, HO3.out, HB3.out⟩
              case measure => simp [intOf]; omega
            · have hne := pn_ne hxy
              have HPR := Lib.hid (show ∀ i, i < l + 1 → us[i]? = some true ∨ ∃ z, b[i]? = some z ∧ z ≠ x from fun i hi => by
                rcases Nat.lt_or_ge i l with h | h
                · exact HPRE.out i h
                · rw [show i = l by omega]
                  exact .inr ⟨y, HGB.out, fun e => hxy e.symm⟩)
              rcases hne with hne | hne | hne | hne
              all_goals
                go_wp2
                go_quiet (fail)
                have HB2 := Lib.hid (below_draws HB.out nq)
                have HO2 := Lib.hid (show Own1 TBo (wr.drewN nq) w.heap.size (.slice (some ⟨w.heap.size, 0, none⟩) n n) (bcells us) from HO.out)
                go_wp2
                go_roundw
                case rel => exact ⟨l + 1, by omega, rfl, by go_num, HPR.out, HO2.out, HB2.out⟩
                case measure => simp [intOf]; omega
          · have HPR := Lib.hid (show ∀ i, i < l + 1 → us[i]? = some true ∨ ∃ z, b[i]? = some z ∧ z ≠ x from fun i hi => by
              rcases Nat.lt_or_ge i l with h | h
              · exact HPRE.out i h
              · rw [show i = l by omega]
                exact .inl HF.out)
            clear hf hlu hlb ho hb
            go_wp2
            go_quiet (fail)
            have HB2 := Lib.hid (below_draws HB.out nq)
            have HO2 := Lib.hid (show Own1 TBo (wr.drewN nq) w.heap.size (.slice (some ⟨w.heap.size, 0, none⟩) n n) (bcells us) from HO.out)
            go_wp2
            go_roundw
            case rel => exact ⟨l + 1, by omega, rfl, by go_num, HPR.out, HO2.out, HB2.out⟩
            case measure => simp [intOf]; omega
        · have hli : ¬ (l : Int) < (n : Int) := by omega
          have HMISS := Lib.hid (unu_miss b us x fun j z hx => by
            have hj : j < b.length := (List.getElem?_eq_some_iff.1 hx).1
            rw [← HN.out] at hj
            rcases HPRE.out j (by omega) with h | ⟨y, h1, h2⟩
            · exact .inl h
            · rw [hx] at h1
              exact .inr (by rw [Option.some.inj h1]; exact h2))
          have HSM := Lib.hid (show m + smN (unu b us) (a.drop (k + 1)) = smN b a by
            have h1 := smN_drop_miss HGA.out HMISS.out
            have h2 := HSUM.out
            rw [h1] at h2
            exact h2)
          clear ho hb
          go_wp2
          go_roundw
          case rel => exact ⟨k + 1, m, us, by omega, by go_num, rfl, HUL.out, HSM.out, by omega, HO.out, HB.out⟩
          case measure => simp [intOf]; omega
    · have hki : ¬ (k : Int) < (q : Int) := by omega
      have hm : (m : Int) = g := by
        rw [smN_drop_all (by rw [← HQ.out]; omega), Nat.add_zero] at hsum
        rw [← HG.out, hsum]
      have HE := Lib.hid hm
      have HBX := Lib.hid hb
      clear ho hb hsum hm hul
      go_wp2
      go_ret
      exact ⟨reti HE.out, HB0.out.trans (HBX.out.mono hW0)⟩
set_option maxHeartbeats 1000000 in
theorem sDSame_is (W : World) (a : List Pn) (v : Value) (hv : IsP W v a) (b : List Pn) (v2 : Value) (hv2 : IsP W v2 b) (g : Int) (hg : dsame a b = g) (w : World) (hb : Below W.heap.size W w) :
    Calls Try.prog 25 #[v, v2] w (Back (.int .i64 g) W) := by
  have HV := Lib.hid hv
  have HU := Lib.hid hv2
  have HB := Lib.hid hb
  have HG := Lib.hid hg
  obtain ⟨x, hx⟩ : ∃ x, okL a = x := ⟨_, rfl⟩
  obtain ⟨y, hy⟩ : ∃ y, okL b = y := ⟨_, rfl⟩
  have HX := Lib.hid hx
  have HY := Lib.hid hy
  clear hv hv2 hb hg hx hy
  go_enter Try.func25, Try.ntmps25
  go_wp2_with fail
  refine (sPV_is W a _ HV.out x HX.out w HB.out).mono ?_
  rintro e w1 ⟨rfl, b1⟩
  cases x
  · have HE := Lib.hid (show g = -1 by rw [← HG.out, dsame, HX.out]; rfl)
    go_wp2
    go_ret
    exact ⟨by rw [HE.out]; rfl, b1⟩
  go_wp2_with fail
  refine (sPV_is W b _ HU.out y HY.out w1 b1).mono ?_
  rintro e w2 ⟨rfl, b2⟩
  cases y
  · have HE := Lib.hid (show g = -1 by rw [← HG.out, dsame, HX.out, HY.out]; rfl)
    go_wp2
    go_ret
    exact ⟨by rw [HE.out]; rfl, b2⟩
  have HE := Lib.hid (show ((smN a b : Nat) : Int) = g by rw [← HG.out, dsame, HX.out, HY.out]; rfl)
  go_wp2_with fail
  refine (sSame_is W a _ HV.out b _ HU.out (okL_all HX.out).1 (okL_all HY.out).1 g HE.out w2 b2).mono ?_
  rintro e w3 ⟨rfl, b3⟩
  go_wp2
  go_ret
  exact ⟨rfl, b3⟩
set_option maxHeartbeats 1000000 in
theorem sDPpl_is (W : World) (a : List Pn) (v : Value) (hv : IsP W v a) (b : List Pn) (v2 : Value) (hv2 : IsP W v2 b) (g : Bool) (hg : dppl a b = g) (w : World) (hb : Below W.heap.size W w) :
    Calls Try.prog 14 #[v, v2] w (Back (.bool g) W) := by
  have HV := Lib.hid hv
  have HU := Lib.hid hv2
  have HB := Lib.hid hb
  have HG := Lib.hid hg
  obtain ⟨A', c', hv3, _, _, _⟩ := hv2
  subst hv3
  obtain ⟨n, hn⟩ : ∃ n, b.length = n := ⟨_, rfl⟩
  rw [hn] at HU ⊢
  have HN := Lib.hid hn
  obtain ⟨x, hx⟩ : ∃ x, okL a = x := ⟨_, rfl⟩
  obtain ⟨y, hy⟩ : ∃ y, okL b = y := ⟨_, rfl⟩
  have HX := Lib.hid hx
  have HY := Lib.hid hy
  clear hv hb hg hx hy hn
  go_enter Try.func14, Try.ntmps14
  go_wp2_with fail
  refine (sPV_is W a _ HV.out x HX.out w HB.out).mono ?_
  rintro e w1 ⟨rfl, b1⟩
  cases x
  · have HE := Lib.hid (show g = false by rw [← HG.out, dppl, HX.out]; rfl)
    go_wp2
    go_ret
    exact ⟨retb HE.out.symm, b1⟩
  go_wp2_with fail
  refine (sPV_is W b _ HU.out y HY.out w1 b1).mono ?_
  rintro e w2 ⟨rfl, b2⟩
  cases y
  · have HE := Lib.hid (show g = false by rw [← HG.out, dppl, HX.out, HY.out]; rfl)
    go_wp2
    go_ret
    exact ⟨retb HE.out.symm, b2⟩
  obtain ⟨z, hz⟩ : ∃ z : Int, ((smN a b : Nat) : Int) = z := ⟨_, rfl⟩
  have HZ := Lib.hid hz
  have HE := Lib.hid (show (z == (n : Int)) = g by
    rw [← HG.out, dppl, HX.out, HY.out, HN.out, ← hz, Bool.eq_iff_iff]; simp; omega)
  clear hz
  go_wp2_with fail
  refine (sSame_is W a _ HV.out b _ HU.out (okL_all HX.out).1 (okL_all HY.out).1 z HZ.out w2 b2).mono ?_
  rintro e w3 ⟨rfl, b3⟩
  go_wp2
  go_ret
  exact ⟨retb HE.out, b3⟩
end Go.Proofs.Ytjgohakiodcjmaa
